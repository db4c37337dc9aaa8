import Derived.Test.YtloopeipheklpaaGreatDoorExactToldTrueWC
import Derived.Test.YtloopeipheklpaaGreatDoorW28
import Derived.Test.YtloopeipheklpaaGreatDoorW01
import Derived.Test.YtloopeipheklpaaGreatDoorW03
import Derived.Test.YtloopeipheklpaaGreatDoorTie
import Derived.Test.YtloopeipheklpaaGreatDoorCards
import Derived.ProofKit
import Derived.LaidMore
import Derived.OpenShut
import Derived.ShutString
import Derived.ChangeOld
import Derived.Stop.Joined
import Derived.SevenTiedAt
namespace Go.Proofs.YtloopeipheklpaaGreatDoor
open Go.RowKit Go.ChangeShapes Go.WideShapes
namespace fnExactToldTrue
open Go.ChangeShapes Go.WideShapes Go.ChangeAt Go.RowKit
open Go.ChangeMaps (open_string shut_string)
set_option linter.unusedVariables false
theorem own : ownKnob Tryz.prog.godebug = none:=by kernel_rfl
theorem door_met (os : Os) (args : Array Value) : laidMetH Tryz.prog Rows.fnExactToldTrueRow.laid ((World.doorLaid Tryz.prog 400 os).forCall (fun _ _=>0) ⟨#[],args,[]⟩).memory :=
  laidMetH_of_parts3 (fuel:=8) (laidMet_of_run' 8 (by kernel_rfl) (by kernel_rfl)) (by kernel_rfl) (by kernel_rfl)
set_option maxHeartbeats 4000000 in
set_option maxRecDepth 100000 in
theorem lifted (os : Os) (started : os.Started) (H : Type) (enc : TypeId × Value → H) :
    ReturnsInHanded {} Tryz.checked os 6 .any (fun w args=>(Rows.fnExactToldTrueSpec.pre enc Tryz.prog Tryz.f6 [] false w args ∧ laidMetH Tryz.prog Rows.fnExactToldTrueRow.laid w) ∧ sizedMet enc Tryz.prog Tryz.f6 (OpenSpec.ofChange Rows.fnExactToldTrueSpec) false w args)
      (Rows.fnExactToldTrueSpec.post enc Tryz.prog Tryz.f6 false true false false):=by
  refine returnsInHanded_of_change_and (C:=Tryz.checked) (X:=fun w _=>laidMetH Tryz.prog Rows.fnExactToldTrueRow.laid w) (fun _ _ _ hh h=>h.of_heap hh) own started (by kernel_rfl) Tryz.func6
    (ChangeSpec.witness_shaped (enc:=enc) (C:=Tryz.checked) (os:=os) (X:=fun w _=>laidMetH Tryz.prog Rows.fnExactToldTrueRow.laid w) false (World.doorLaid Tryz.prog 400 os) #[.agg #[.slice none 0 0,.slice none 0 0,.slice none 0 0,.slice none 0 0,.slice none 0 0,.slice none 0 0]] 8 rfl (World.shaped_of_RefB (by kernel_rfl) (by kernel_rfl)) (by kernel_rfl) (by kernel_rfl) (by kernel_rfl) (door_met os _)) ?_
  intro W base args ds gs before hval0 hW hcnd _ hL _
  have hval : ∀ (j : Nat) t v,Tryz.f6.params[j]? = some t → args[j]? = some v → Value.okWide Tryz.prog W .any base t v:=hval0
  have hW':=hW
  obtain ⟨p,q,hA0,hV,rfl,hfz,hnd⟩:=hW
  have hA : DataW.TrodAll enc Tryz.prog W 0 (fun _=>true) true Tryz.f6.params.toList args.toList ds p:=hA0
  rw [Tryz.params6] at hA hval
  obtain ⟨v0,vs0,d0,ds0,p0,q0,hargs,rfl,rfl,h0,r0⟩:=trodAll_cons hA
  obtain ⟨rfl,rfl,rfl⟩:=trodAll_nil r0
  obtain rfl : args = #[v0]:=by cases args; simp_all
  obtain ⟨sa,HS,hv0,hv1,hv2,hv3,hv4,hv5,hv6,hv7⟩:=sents_laid (show laidMet Tryz.prog laid8 W from by
    have h9:=(laidMetH_iff.1 hL).1
    rwa [show (Rows.fnExactToldTrueRow.laid.filter fun x=>x.2.handleName?.isNone) = laid8 by kernel_rfl] at h9)
  obtain ⟨rfl,rfl⟩:=hV.unique (vars8 enc _ sa ⟨hv0,hv1,hv2,hv3,hv4,hv5,hv6,hv7⟩)
  have k0:=h0
  have lt0 : ∀ x ∈ p0,x.block < W.heap.size:=by obtain ⟨m,hm⟩:=k0; exact DataW.trod_lt m _ _ _ hm
  obtain ⟨a00,n00,c00,a01,n01,c01,a02,n02,c02,a03,n03,c03,a04,n04,c04,a05,n05,c05,o0,rfl,w0⟩:=open_world (hval 0 46 v0 rfl rfl) h0
  clear hA0 hval0
  refine (walkToldTrue sa W.heap.size a00 n00 c00 a01 n01 c01 a02 n02 c02 a03 n03 c03 a04 n04 c04 a05 n05 c05 o0 W (Nat.le_refl _) HS w0).mono fun e W' ⟨he,bel⟩=>?_
  subst he
  have e1 : Rows.fnExactToldTrueSpec.fn H ([d0] ++ [tok enc (.iface 323 (.pointer (some (sa 0)))),tok enc (.iface 323 (.pointer (some (sa 1)))),tok enc (.iface 323 (.pointer (some (sa 2)))),tok enc (.iface 323 (.pointer (some (sa 3)))),tok enc (.iface 323 (.pointer (some (sa 4)))),tok enc (.iface 323 (.pointer (some (sa 5)))),tok enc (.iface 323 (.pointer (some (sa 6)))),tok enc (.iface 323 (.pointer (some (sa 7))))]) = { results:=[.lit (.bool true)],args:=[d0],vars:=[tok enc (.iface 323 (.pointer (some (sa 0)))),tok enc (.iface 323 (.pointer (some (sa 1)))),tok enc (.iface 323 (.pointer (some (sa 2)))),tok enc (.iface 323 (.pointer (some (sa 3)))),tok enc (.iface 323 (.pointer (some (sa 4)))),tok enc (.iface 323 (.pointer (some (sa 5)))),tok enc (.iface 323 (.pointer (some (sa 6)))),tok enc (.iface 323 (.pointer (some (sa 7))))] }:=rfl
  refine ⟨_,rfl,_,_,_,[],?pa,[.cell 0 0,.cell 1 0,.cell 2 0,.cell 3 0,.cell 4 0,.cell 5 0,.cell 6 0,.cell 7 0],hW',?h1,?h2,?h3,bel.frame _,fun h=>by cases h⟩
  case h1=>rw [e1]; exact trodAll_mk1 (shut_bool Tryz.underlying4 _)
  case h2=>rw [e1]; exact (trodAll_cons_mk (Below.trod fLaid (by kernel_rfl) (of_decide_eq_true (by kernel_rfl)) k0 bel lt0) trodAll_mk0)
  case h3=>rw [e1]; exact vars8 enc _ sa ⟨var_below bel hv0,var_below bel hv1,var_below bel hv2,var_below bel hv3,var_below bel hv4,var_below bel hv5,var_below bel hv6,var_below bel hv7⟩
set_option maxHeartbeats 4000000 in
theorem closed : joinedFacts Tryz.prog 6 Tryz.f6 Rows.fnExactToldTrueSpec Rows.fnExactToldTrueRow = true:=by
  refine closedOf rfl rfl rfl ?_ ?_ ?_ ?_ ?_ ?_ ?_ ?_ ?_ ?_ ?_ ?_ ?_ ?_ ?_ ?_ ?_ ?_ ?_ rfl rfl ?_ ?_ ?_
  all_goals (as_aux_lemma=>kernel_rfl)
theorem over : Rows.fnExactToldTrueRow.holds Tryz.pinned (OpenSpec.ofChange Rows.fnExactToldTrueSpec) :=
  OpenClaim.holds_of_wide 6 Tryz.f6 rfl rfl rfl rfl rfl rfl rfl ⟨rfl,rfl,rfl,rfl,rfl⟩ rfl rfl rfl rfl rfl (by kernel_rfl) Tryz.func6 closed
    (of_decide_eq_true (by kernel_rfl)) (by unfold Func.isWrapper; first | (rw [if_pos (by decide +kernel)]; kernel_rfl) | (rw [if_neg (by decide +kernel)]; exact ⟨rfl,rfl⟩))
    (fun os started H enc _=>lifted os started H enc)
end fnExactToldTrue
theorem fnExactToldTrue_row : Rows.FnExactToldTrueSaid:=fnExactToldTrue.over
theorem fnExactToldTrue_holds : Rows.FnExactToldTrueCardSaid :=
  Claim7.holds_tied_plain_at .later [] [.sentinel, .sentinel, .sentinel, .sentinel, .sentinel, .sentinel, .sentinel, .sentinel] true (true, "f45984e117d6a4851f31fa94628aa20dbfa99b25107de536e795cb01e4abf03f") true
    fnExactToldTrue_row (fun _ h=>by cases h) (by as_aux_lemma=>kernel_rfl) (fun _ h=>by cases h) fnExactToldTrue_row_tie rfl ⟨rfl,rfl⟩ main_is rfl
    (fun f fn hf hfn=>by
      obtain rfl : f = 6 := Option.some.inj ((show Tryz.prog.funcNamed "loop.example/shieling/laws.FnExactToldTrue" = some 6 by as_aux_lemma => kernel_rfl).symm.trans hf) |>.symm
      obtain rfl : fn = Tryz.f6:=(Option.some.inj (Tryz.func6.symm.trans hfn)).symm
      exact ⟨looks_is,fun j t ht=>by
        rw [Tryz.params6] at ht
        have hm : t ∈ [46]:=by simpa using Array.mem_of_getElem? ht
        have hall : ([46].all fun u=>!Tryz.prog.wantsStandIn u) = true:=by as_aux_lemma=>kernel_rfl
        exact (show Tryz.prog.wantsStandIn t = false by simpa using List.all_eq_true.1 hall t hm)⟩)
    (by as_aux_lemma=>kernel_rfl)
#print axioms fnExactToldTrue_holds
end Go.Proofs.YtloopeipheklpaaGreatDoor
