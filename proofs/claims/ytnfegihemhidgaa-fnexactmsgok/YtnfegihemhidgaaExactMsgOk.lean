/-
  At every message the call of laws.FnExactMsgOk returns true: the program's MsgOk answers as the specification's and does not write into its argument, which reads behind the call as it did. No condition.
-/
import Derived.Test.YtnfegihemhidgaaMsgCD
import Derived.Test.YtnfegihemhidgaaClosed2
import Derived.Deep.DeepCutAuto
import Derived.ProofKit
import Derived.OpenShut
import Derived.ShutString
import Derived.ChangeOld
namespace Go.Proofs.Ytnfegihemhidgaa
open Go.RowKit

theorem msgSz_of {bn on tn : Nat} {l : LLog} {os : List LObj} {r left : Int} (hr : r = -1 ∨ (0 ≤ r ∧ r = left - bn - on - totOps l.list - tn - totT os)) (h : ¬ r < 0) (hl : left ≤ 1048576) : MsgSz bn on tn os :=
  ⟨by omega, by omega, by omega, sizes_of (by omega)⟩

set_option maxHeartbeats 4000000 in
theorem walkMsgOk (k who seq q s : Int) (ba : Option Addr) (bn bc : Nat) (oa : Option Addr) (on oc : Nat) (code : Int) (ta : Option Addr) (tn tc : Nat) (l : LLog) (os : List LObj) (w : World) (H : MsgAt w 0 w.heap.size q s ba bn oa on ta tn l os) :
    Calls Try.prog 3 #[.agg #[.int .i64 k, .int .i64 who, .int .i64 seq, .int .i64 q, .int .i64 s, .slice ba bn bc, .slice oa on oc, .int .i64 code, .slice ta tn tc]] w fun e w' => e = .returned (.bool true) ∧ Below w.heap.size w w' := by
  have hA := HeldM.new w k who seq q s ba bn bc oa on oc code ta tn tc 30
  go_enter Try.func3, Try.ntmps3
  go_wp2_with fail
  refine (szMsg_any k who seq q s ba bn bc oa on oc code ta tn tc l os 0 w.heap.size _ _ (by omega) (by omega) hA.below.size (H.below hA.below (Nat.le_refl _))).mono ?_
  rintro x w1 ⟨⟨r1, rfl, hr⟩, hb1⟩
  have HR : Hid (r1 = -1 ∨ 0 ≤ r1 ∧ r1 = 1048576 - bn - on - totOps l.list - tn - totT os) := hr
  have h1 := hA.next hb1
  clear hr hb1 hA
  by_cases hneg : r1 < 0
  · go_wp2_with fail
    go_ret
    exact ⟨rfl, h1.below⟩
  have hs1 : MsgSz bn on tn os := msgSz_of HR.out hneg (by omega)
  clear HR
  have e0 := h1.box.c0
  have e1 := h1.box.c1
  have e2 := h1.box.c2
  have e3 := h1.box.c3
  have e4 := h1.box.c4
  have e5 := h1.box.c5
  have e6 := h1.box.c6
  have e7 := h1.box.c7
  have e8 := h1.box.c8
  go_wp2_with fail
  refine (toMsg_any k who seq q s ba bn bc oa on oc code ta tn tc l os 0 w.heap.size _ hs1 h1.below.size (H.below h1.below (Nat.le_refl _))).mono ?_; rintro x w2 ⟨⟨b2, b2', b2'', rfl, m2⟩, hb2⟩
  have h2 := h1.next hb2
  clear hb2 h1 e0 e1 e2 e3 e4 e5 e6 e7 e8
  go_wp2_with fail
  refine (specMsgOk k who seq q s (some ⟨b2, 0, none⟩) bn bn (some ⟨b2', 0, none⟩) on on code (some ⟨b2'', 0, none⟩) tn tn l os _ _ _ hs1.2.2.2 (Nat.le_refl _) m2).mono ?_
  rintro x w3 ⟨rfl, hb3⟩
  have h3 := h2.next hb3
  clear hb3 h2 m2
  have e0 := h3.box.c0
  have e1 := h3.box.c1
  have e2 := h3.box.c2
  have e3 := h3.box.c3
  have e4 := h3.box.c4
  have e5 := h3.box.c5
  have e6 := h3.box.c6
  have e7 := h3.box.c7
  have e8 := h3.box.c8
  go_wp2_with fail
  refine (toMsg_any k who seq q s ba bn bc oa on oc code ta tn tc l os 0 w.heap.size _ hs1 h3.below.size (H.below h3.below (Nat.le_refl _))).mono ?_; rintro x w4 ⟨⟨b4, b4', b4'', rfl, m4⟩, hb4⟩
  have h4 := h3.next hb4
  clear hb4 h3 e0 e1 e2 e3 e4 e5 e6 e7 e8
  have hX := HeldM.new w4 k who seq q s (some ⟨b4, 0, none⟩) bn bn (some ⟨b4', 0, none⟩) on on code (some ⟨b4'', 0, none⟩) tn tn 41
  have h5 := h4.next hX.below
  have m5 := m4.below hX.below (Nat.le_refl _)
  clear h4 m4
  go_wp2_with fail
  refine (implMsgOk k who seq q s (some ⟨b4, 0, none⟩) bn bn (some ⟨b4', 0, none⟩) on on code (some ⟨b4'', 0, none⟩) tn tn l os _ _ _ hX.below.size (Nat.le_refl _) (by have := hs1.2.1; unfold maxLen; omega) m5).mono ?_
  rintro x w6 ⟨rfl, hb6⟩
  have h6 := h5.next hb6
  have hX6 := hX.next hb6
  have m6 := m5.below hb6 hX.below.size
  clear hb6 h5 hX m5
  have e0 := h6.box.c0
  have e1 := h6.box.c1
  have e2 := h6.box.c2
  have e3 := h6.box.c3
  have e4 := h6.box.c4
  have e5 := h6.box.c5
  have e6 := h6.box.c6
  have e7 := h6.box.c7
  have e8 := h6.box.c8
  have f0 := hX6.box.c0
  have f1 := hX6.box.c1
  have f2 := hX6.box.c2
  have f3 := hX6.box.c3
  have f4 := hX6.box.c4
  have f5 := hX6.box.c5
  have f6 := hX6.box.c6
  have f7 := hX6.box.c7
  have f8 := hX6.box.c8
  have hz6 := hX6.hi
  have hz6' := h6.hi
  go_wp2_with fail
  go_upto_region 10 with fail
  have h7 := h6.drew
  have hX7 := hX6.drew
  have m7 := m6.below (Below.refl w6.heap.size w6).drew hX6.below.size
  go_region_with (first
    | (go_at_call 7; go_must (refine (toMsg_any k who seq q s ba bn bc oa on oc code ta tn tc l os 0 w.heap.size _ hs1 h7.below.size (H.below h7.below (Nat.le_refl _))).mono ?_; rintro x w8 ⟨⟨b8, b8', b8'', rfl, m8⟩, hb8⟩; have h8 := h7.next hb8; have hX8 := hX7.next hb8; have f0 := hX8.box.c0; have f1 := hX8.box.c1; have f2 := hX8.box.c2; have f3 := hX8.box.c3; have f4 := hX8.box.c4; have f5 := hX8.box.c5; have f6 := hX8.box.c6; have f7 := hX8.box.c7; have f8 := hX8.box.c8; have hz8 := hX8.hi))
    | (go_at_call 9; go_must (refine (eqMsg_same k who seq q s (some ⟨b4, 0, none⟩) bn bn (some ⟨b4', 0, none⟩) on on code (some ⟨b4'', 0, none⟩) tn tn _ _ _ _ _ _ l os _ _ _ _ _ hX8.below.size (Nat.le_refl _) (m7.below hb8 hX7.below.size) m8).mono ?_; rintro x w9 ⟨rfl, hb9⟩)))
  all_goals
    go_wp2_with fail
    go_ret
    exact ⟨rfl, (h8.next hb9).below⟩

namespace fnExactMsgOk
open Go.ChangeShapes Go.WideShapes Go.ChangeAt Go.RowKit
open Go.ChangeMaps (open_string shut_string)
set_option linter.unusedVariables false

theorem own : ownKnob Try.prog.godebug = none := by kernel_rfl

set_option maxRecDepth 100000 in
theorem lifted (os : Os) (started : os.Started) (H : Type) (enc : TypeId × Value → H) :
    ReturnsInHanded {} Try.checked os 3 .any (Rows.fnExactMsgOkSpec.pre6 enc Try.prog Try.f3 Rows.fnExactMsgOkRow.domain false) (Rows.fnExactMsgOkSpec.post enc Try.prog Try.f3 false true false false) := by
  refine returnsInHanded_of_change (C := Try.checked) own started (by kernel_rfl) Try.func3
    (ChangeSpec.witness6 (enc := enc) (C := Try.checked) false ⟨#[], #[.agg #[.int .i64 0, .int .i64 0, .int .i64 0, .int .i64 0, .int .i64 0, .slice none 0 0, .slice none 0 0, .int .i64 0, .slice none 0 0]], []⟩ 8 (by kernel_rfl) (by kernel_rfl) (by kernel_rfl) (by kernel_rfl)) ?_
  intro W base args ds gs before hval0 hW hcnd _
  have hval : ∀ (j : Nat) t v, Try.f3.params[j]? = some t → args[j]? = some v → Value.okWide Try.prog W .any base t v := hval0
  have hW' := hW
  obtain ⟨p, q, hA0, hV, rfl, hfz, hnd⟩ := hW
  have hA : DataW.TrodAll enc Try.prog W 0 (fun _ => true) true Try.f3.params.toList args.toList ds p := hA0
  rw [Try.params3] at hA hval
  obtain ⟨v0, vs0, d0, ds0, p0, q0, hargs0, rfl, rfl, h0, r0⟩ := trodAll_cons hA
  obtain ⟨rfl, rfl, rfl⟩ := trodAll_nil r0
  obtain rfl : args = #[v0] := by cases args; simp_all
  obtain ⟨rfl, rfl⟩ := trodVars_none hV
  have k0 := h0
  have lt0 : ∀ x ∈ p0, x.block < W.heap.size := by obtain ⟨m, hm⟩ := k0; exact DataW.trod_lt m _ _ _ hm
  obtain ⟨ak0, awho0, aseq0, aq0, as0, aba0, abn0, abc0, aoa0, aon0, aoc0, acode0, ata0, atn0, atc0, l0, o0, rfl, w0⟩ := open_msg (hval 0 30 v0 rfl rfl) h0
  clear hA0 hval0
  refine (walkMsgOk ak0 awho0 aseq0 aq0 as0 aba0 abn0 abc0 aoa0 aon0 aoc0 acode0 ata0 atn0 atc0 l0 o0 W w0).mono fun e W' ⟨he, bel⟩ => ?_
  subst he
  exact ⟨_, rfl, _, _, _, [], _, [], hW', trodAll_mk1 (shut_bool Try.underlying4 _), (trodAll_cons_mk (Below.trod fLaid (by kernel_rfl) (of_decide_eq_true (by kernel_rfl)) k0 bel lt0) trodAll_mk0), rfl, bel.frame _, fun h => by cases h⟩

set_option maxHeartbeats 4000000 in
theorem closed : joinedFacts Try.prog 3 Try.f3 Rows.fnExactMsgOkSpec Rows.fnExactMsgOkRow = true := by
  refine closedOf rfl rfl rfl ?_ ?_ ?_ ?_ ?_ ?_ ?_ ?_ ?_ ?_ ?_ ?_ ?_ ?_ ?_ ?_ ?_ ?_ ?_ rfl rfl ?_ ?_ ?_
  all_goals (as_aux_lemma => kernel_rfl)

theorem over : Rows.fnExactMsgOkRow.holds Try.pinned (OpenSpec.ofChange Rows.fnExactMsgOkSpec) :=
  OpenClaim.holds_of_wide 3 Try.f3 rfl rfl rfl rfl rfl rfl rfl ⟨rfl, rfl, rfl, rfl, rfl⟩ rfl rfl rfl rfl rfl (by kernel_rfl) Try.func3 closed
    (of_decide_eq_true (by kernel_rfl)) (by unfold Func.isWrapper; first | (rw [if_pos (by decide +kernel)]; kernel_rfl) | (rw [if_neg (by decide +kernel)]; exact ⟨rfl, rfl⟩))
    (fun os started H enc _ => lifted os started H enc)
end fnExactMsgOk

theorem fnExactMsgOk_holds : Rows.FnExactMsgOkSaid := fnExactMsgOk.over
#print axioms fnExactMsgOk_holds
end Go.Proofs.Ytnfegihemhidgaa
