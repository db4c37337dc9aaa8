/- Lemmas that the proofs of this seat share: MsgCD. -/
import Derived.Test.YtloopeipheklpaaGreatDoorW01
import Derived.Test.YtloopeipheklpaaGreatDoorW22
namespace Go.Proofs.YtloopeipheklpaaGreatDoor
section
open Go.RowKit
theorem run_field85 (q s : Int) (a : Option Addr) (n c : Nat) (a' : Option Addr) (n' c' : Nat) (w : World) : (Instr.field 174 (.agg #[.int .i64 q,.int .i64 s,.slice a n c,.slice a' n' c']) 0).run Tryz.prog w = .ok (.agg #[.int .i64 q,.int .i64 s]) w:=by
  simp [Instr.field,run_underlying Tryz.underlying174,go_sem,asAgg]
set_option maxHeartbeats 4000000 in
theorem logOk_any (lb cb tb : Bool) (k who seq q s : Int) (ba : Option Addr) (bn bc : Nat) (oa : Option Addr) (on oc : Nat) (code : Int) (ta : Option Addr) (tn tc : Nat) (l : LLog) (L U : Nat) (w : World) (hU : U ≤ w.heap.size) (hoc : on ≤ oc) (hcm : oc ≤ maxLen) (H : LogAt w L U q s ba bn oa on l) :
    Calls Tryz.prog 202 #[.agg #[.bool lb,.bool cb,.bool tb],.agg #[.int .i64 k,.int .i64 who,.int .i64 seq,.int .i64 q,.int .i64 s,.slice ba bn bc,.slice oa on oc,.int .i64 code,.slice ta tn tc]] w fun e w'=>e = .returned (.bool (logPart lb who seq l)) ∧ Below w.heap.size w w':=by
  have hM0 : HeldM w ((w.alloc (Obj.cells #[.bool lb,.bool cb,.bool tb] 222)).alloc (Obj.cells #[.int .i64 k,.int .i64 who,.int .i64 seq,.int .i64 q,.int .i64 s,.slice ba bn bc,.slice oa on oc,.int .i64 code,.slice ta tn tc] 156)) (w.heap.size + 1) k who seq q s ba bn bc oa on oc code ta tn tc :=
    ⟨((Below.refl _ _).alloc (Nat.le_refl _) _).alloc (by simp) _,⟨by simp [go_sem],by simp [go_sem],by simp [go_sem],by simp [go_sem],by simp [go_sem],by simp [go_sem],by simp [go_sem],by simp [go_sem],by simp [go_sem]⟩,by omega,by simp⟩
  cases lb
  · go_enter Tryz.func202,Tryz.ntmps202
    go_wp2_with fail
    refine (implLogSame _ _ _ _ _ _ _ _ _ _ _ _ _ _ _ _ l nothing L U 0 0 _ (by have:=hM0.below.size; omega) (by omega) (H.below hM0.below hU) (LogAt.nothing _ 0 0)).mono ?_
    rintro x w1 ⟨rfl,hb1⟩
    have h1:=hM0.next hb1
    clear hM0 hb1
    go_wp2_with fail
    go_ret
    exact ⟨ret_bool (by rw [logEq_nothing]; rfl),h1.below⟩
  · have HV : Hid (logPart true who seq l = (logOk l && ((q == who) && (s == seq)))):=by show _ = _; rw [H.q,H.s]; rfl
    go_enter Tryz.func202,Tryz.ntmps202
    go_upto_region 3 with fail
    obtain ⟨W,hW⟩ : ∃ W : World,W = ((w.alloc (Obj.cells #[.bool true,.bool cb,.bool tb] 222)).alloc (Obj.cells #[.int .i64 k,.int .i64 who,.int .i64 seq,.int .i64 q,.int .i64 s,.slice ba bn bc,.slice oa on oc,.int .i64 code,.slice ta tn tc] 156)):=⟨_,rfl⟩
    rw [← hW] at hM0 ⊢
    clear hW
    have h2:=hM0.drew
    clear hM0
    rcases t1 : logOk l with _ | _
    ·
      refine wp_region_held_drew (S:=(fun W=>MBox W (w.heap.size + 1) k who seq q s ba bn bc oa on oc code ta tn tc)) (by kernel_rfl) ?_ (fun hHeld=>?_)
      · exact h2.box
      refine listH (l2:=#[false,false,false,false,false,false,false,false,false,false,false,false,false]) (by kernel_rfl) ?_
      refine takeH (i:=0) (oi:=_) (v:=?vt1x0) 12 #[true,false,false,false,false,false,false,false,false,false,false,false,false] rfl (by kernel_rfl) (by kernel_rfl) (by kernel_rfl) rfl (by kernel_rfl) (fun _ _ _ h=>h) (Or.inl ⟨by rfl,?yt1x0⟩) (by assumption) ?rt1x0
      case yt1x0=>(intro w' hSw; (try dsimp only at hSw); have x0:=hSw.c0; have x1:=hSw.c1; have x2:=hSw.c2; have x3:=hSw.c3; have x4:=hSw.c4; have x5:=hSw.c5; have x6:=hSw.c6; have x7:=hSw.c7; have x8:=hSw.c8; go_simp; try with_reducible rfl)
      simp only [Act.put,sT,sS,sZ]
      refine takeH (i:=1) (oi:=_) (v:=?vt1x1) 13 #[true,true,false,false,false,false,false,false,false,false,false,false,false] rfl (by kernel_rfl) (by kernel_rfl) (by kernel_rfl) rfl (by kernel_rfl) (fun _ _ _ h=>h) (Or.inl ⟨by rfl,?yt1x1⟩) (by assumption) ?rt1x1
      case yt1x1=>(intro w' hSw; (try dsimp only at hSw); have x0:=hSw.c0; have x1:=hSw.c1; have x2:=hSw.c2; have x3:=hSw.c3; have x4:=hSw.c4; have x5:=hSw.c5; have x6:=hSw.c6; have x7:=hSw.c7; have x8:=hSw.c8; go_simp; try with_reducible rfl)
      simp only [Act.put,sT,sS,sZ]
      refine wpAnyH_ready (rs:=[2]) (by kernel_rfl) (by simp) ?_
      refine AllReadyH.cons (o:=_) rfl (fun K hK=>?_) AllReadyH.nil
      go_simp
      refine (implLogOk _ _ _ _ _ _ _ _ l L U _ (by have:=h2.below.size; omega) hoc hcm (H.below h2.below hU)).mono ?_
      rintro e w3 ⟨rfl,hb3⟩
      have h3:=h2.next hb3
      rw [t1]
      go_wp2_with fail
      refine hK.out _ _ ?_ (fun hHeld=>?_)
      · exact h3.box
      clear hK K
      try simp only [Act.put]
      refine listH (l2:=#[true,true,true,false,false,false,false,false,false,false,false,false,false]) (by kernel_rfl) ?_
      refine takeH (i:=3) (oi:=_) (v:=?vt1x3) 15 #[true,true,true,true,false,false,false,false,false,false,false,false,false] rfl (by kernel_rfl) (by kernel_rfl) (by kernel_rfl) rfl (by kernel_rfl) (fun _ _ _ h=>h) (Or.inl ⟨by rfl,?yt1x3⟩) (by assumption) ?rt1x3
      case yt1x3=>(intro w' hSw; (try dsimp only at hSw); have x0:=hSw.c0; have x1:=hSw.c1; have x2:=hSw.c2; have x3:=hSw.c3; have x4:=hSw.c4; have x5:=hSw.c5; have x6:=hSw.c6; have x7:=hSw.c7; have x8:=hSw.c8; go_simp; try with_reducible rfl)
      simp only [Act.put,sT,sS,sZ]
      refine takeH (i:=4) (oi:=_) (v:=undef) 16 #[true,true,true,true,true,false,false,false,false,false,false,false,false] rfl (by kernel_rfl) (by kernel_rfl) (by kernel_rfl) rfl (by kernel_rfl) (fun _ _ _ h=>h) (Or.inr ⟨by rfl,rfl⟩) (by assumption) ?rt1x4
      simp only [Act.put,sT,sS,sZ]
      refine takeH (i:=5) (oi:=_) (v:=undef) 17 #[true,true,true,true,true,true,false,false,false,false,false,false,false] rfl (by kernel_rfl) (by kernel_rfl) (by kernel_rfl) rfl (by kernel_rfl) (fun _ _ _ h=>h) (Or.inr ⟨by rfl,rfl⟩) (by assumption) ?rt1x5
      simp only [Act.put,sT,sS,sZ]
      refine takeH (i:=6) (oi:=_) (v:=undef) 18 #[true,true,true,true,true,true,true,false,false,false,false,false,false] rfl (by kernel_rfl) (by kernel_rfl) (by kernel_rfl) rfl (by kernel_rfl) (fun _ _ _ h=>h) (Or.inr ⟨by rfl,rfl⟩) (by assumption) ?rt1x6
      simp only [Act.put,sT,sS,sZ]
      refine takeH (i:=7) (oi:=_) (v:=undef) 19 #[true,true,true,true,true,true,true,true,false,false,false,false,false] rfl (by kernel_rfl) (by kernel_rfl) (by kernel_rfl) rfl (by kernel_rfl) (fun _ _ _ h=>h) (Or.inr ⟨by rfl,rfl⟩) (by assumption) ?rt1x7
      simp only [Act.put,sT,sS,sZ]
      refine takeH (i:=8) (oi:=_) (v:=undef) 20 #[true,true,true,true,true,true,true,true,true,false,false,false,false] rfl (by kernel_rfl) (by kernel_rfl) (by kernel_rfl) rfl (by kernel_rfl) (fun _ _ _ h=>h) (Or.inr ⟨by rfl,rfl⟩) (by assumption) ?rt1x8
      simp only [Act.put,sT,sS,sZ]
      refine takeH (i:=9) (oi:=_) (v:=undef) 21 #[true,true,true,true,true,true,true,true,true,true,false,false,false] rfl (by kernel_rfl) (by kernel_rfl) (by kernel_rfl) rfl (by kernel_rfl) (fun _ _ _ h=>h) (Or.inr ⟨by rfl,rfl⟩) (by assumption) ?rt1x9
      simp only [Act.put,sT,sS,sZ]
      refine takeH (i:=10) (oi:=_) (v:=undef) 22 #[true,true,true,true,true,true,true,true,true,true,true,false,false] rfl (by kernel_rfl) (by kernel_rfl) (by kernel_rfl) rfl (by kernel_rfl) (fun _ _ _ h=>h) (Or.inr ⟨by rfl,rfl⟩) (by assumption) ?rt1x10
      simp only [Act.put,sT,sS,sZ]
      refine takeH (i:=11) (oi:=_) (v:=?vt1x11) 23 #[true,true,true,true,true,true,true,true,true,true,true,true,false] rfl (by kernel_rfl) (by kernel_rfl) (by kernel_rfl) rfl (by kernel_rfl) (fun _ _ _ h=>h) (Or.inl ⟨by rfl,?yt1x11⟩) (by assumption) ?rt1x11
      case yt1x11=>(intro w' hSw; (try dsimp only at hSw); have x0:=hSw.c0; have x1:=hSw.c1; have x2:=hSw.c2; have x3:=hSw.c3; have x4:=hSw.c4; have x5:=hSw.c5; have x6:=hSw.c6; have x7:=hSw.c7; have x8:=hSw.c8; go_simp; try with_reducible rfl)
      simp only [Act.put,sT,sS,sZ]
      refine wpAnyH_ready (rs:=[12]) (by kernel_rfl) (by simp) ?_
      refine AllReadyH.cons (o:=_) rfl (fun K hK=>?_) AllReadyH.nil
      go_simp
      refine hK.out _ _ ?_ (fun hHeld=>?_)
      · exact h3.box
      clear hK K
      try simp only [Act.put]
      refine listH (l2:=#[true,true,true,true,true,true,true,true,true,true,true,true,true]) (by kernel_rfl) ?_
      refine wpAnyH_done (by kernel_rfl) ?_ _
      go_wp2_with fail
      go_ret
      exact ⟨ret_bool (by rw [HV.out,t1]; rfl),h3.below⟩
    ·
      refine wp_region_held_drew (S:=(fun W=>MBox W (w.heap.size + 1) k who seq q s ba bn bc oa on oc code ta tn tc)) (by kernel_rfl) ?_ (fun hHeld=>?_)
      · exact h2.box
      refine listH (l2:=#[false,false,false,false,false,false,false,false,false,false,false,false,false]) (by kernel_rfl) ?_
      refine takeH (i:=0) (oi:=_) (v:=?vt2x0) 12 #[true,false,false,false,false,false,false,false,false,false,false,false,false] rfl (by kernel_rfl) (by kernel_rfl) (by kernel_rfl) rfl (by kernel_rfl) (fun _ _ _ h=>h) (Or.inl ⟨by rfl,?yt2x0⟩) (by assumption) ?rt2x0
      case yt2x0=>(intro w' hSw; (try dsimp only at hSw); have x0:=hSw.c0; have x1:=hSw.c1; have x2:=hSw.c2; have x3:=hSw.c3; have x4:=hSw.c4; have x5:=hSw.c5; have x6:=hSw.c6; have x7:=hSw.c7; have x8:=hSw.c8; go_simp; try with_reducible rfl)
      simp only [Act.put,sT,sS,sZ]
      refine takeH (i:=1) (oi:=_) (v:=?vt2x1) 13 #[true,true,false,false,false,false,false,false,false,false,false,false,false] rfl (by kernel_rfl) (by kernel_rfl) (by kernel_rfl) rfl (by kernel_rfl) (fun _ _ _ h=>h) (Or.inl ⟨by rfl,?yt2x1⟩) (by assumption) ?rt2x1
      case yt2x1=>(intro w' hSw; (try dsimp only at hSw); have x0:=hSw.c0; have x1:=hSw.c1; have x2:=hSw.c2; have x3:=hSw.c3; have x4:=hSw.c4; have x5:=hSw.c5; have x6:=hSw.c6; have x7:=hSw.c7; have x8:=hSw.c8; go_simp; try with_reducible rfl)
      simp only [Act.put,sT,sS,sZ]
      refine wpAnyH_ready (rs:=[2]) (by kernel_rfl) (by simp) ?_
      refine AllReadyH.cons (o:=_) rfl (fun K hK=>?_) AllReadyH.nil
      go_simp
      refine (implLogOk _ _ _ _ _ _ _ _ l L U _ (by have:=h2.below.size; omega) hoc hcm (H.below h2.below hU)).mono ?_
      rintro e w3 ⟨rfl,hb3⟩
      have h3:=h2.next hb3
      rw [t1]
      go_wp2_with fail
      refine hK.out _ _ ?_ (fun hHeld=>?_)
      · exact h3.box
      clear hK K
      try simp only [Act.put]
      refine listH (l2:=#[true,true,true,false,false,false,false,false,false,false,false,false,false]) (by kernel_rfl) ?_
      refine takeH (i:=3) (oi:=_) (v:=?vt2x3) 15 #[true,true,true,true,false,false,false,false,false,false,false,false,false] rfl (by kernel_rfl) (by kernel_rfl) (by kernel_rfl) rfl (by kernel_rfl) (fun _ _ _ h=>h) (Or.inl ⟨by rfl,?yt2x3⟩) (by assumption) ?rt2x3
      case yt2x3=>(intro w' hSw; (try dsimp only at hSw); have x0:=hSw.c0; have x1:=hSw.c1; have x2:=hSw.c2; have x3:=hSw.c3; have x4:=hSw.c4; have x5:=hSw.c5; have x6:=hSw.c6; have x7:=hSw.c7; have x8:=hSw.c8; go_simp; try with_reducible rfl)
      simp only [Act.put,sT,sS,sZ]
      refine takeH (i:=4) (oi:=_) (v:=?vt2x4) 16 #[true,true,true,true,true,false,false,false,false,false,false,false,false] rfl (by kernel_rfl) (by kernel_rfl) (by kernel_rfl) rfl (by kernel_rfl) (fun _ _ _ h=>h) (Or.inl ⟨by rfl,?yt2x4⟩) (by assumption) ?rt2x4
      case yt2x4=>(intro w' hSw; (try dsimp only at hSw); have x0:=hSw.c0; have x1:=hSw.c1; have x2:=hSw.c2; have x3:=hSw.c3; have x4:=hSw.c4; have x5:=hSw.c5; have x6:=hSw.c6; have x7:=hSw.c7; have x8:=hSw.c8; go_simp; try with_reducible rfl)
      simp only [Act.put,sT,sS,sZ]
      refine takeH (i:=5) (oi:=_) (v:=?vt2x5) 17 #[true,true,true,true,true,true,false,false,false,false,false,false,false] rfl (by kernel_rfl) (by kernel_rfl) (by kernel_rfl) rfl (by kernel_rfl) (fun _ _ _ h=>h) (Or.inl ⟨by rfl,?yt2x5⟩) (by assumption) ?rt2x5
      case yt2x5=>(intro w' hSw; (try dsimp only at hSw); have x0:=hSw.c0; have x1:=hSw.c1; have x2:=hSw.c2; have x3:=hSw.c3; have x4:=hSw.c4; have x5:=hSw.c5; have x6:=hSw.c6; have x7:=hSw.c7; have x8:=hSw.c8; go_simp; try with_reducible rfl)
      simp only [Act.put,sT,sS,sZ]
      refine takeH (i:=8) (oi:=_) (v:=?vt2x8) 20 #[true,true,true,true,true,true,false,false,true,false,false,false,false] rfl (by kernel_rfl) (by kernel_rfl) (by kernel_rfl) rfl (by kernel_rfl) (fun _ _ _ h=>h) (Or.inl ⟨by rfl,?yt2x8⟩) (by assumption) ?rt2x8
      case yt2x8=>(intro w' hSw; (try dsimp only at hSw); have x0:=hSw.c0; have x1:=hSw.c1; have x2:=hSw.c2; have x3:=hSw.c3; have x4:=hSw.c4; have x5:=hSw.c5; have x6:=hSw.c6; have x7:=hSw.c7; have x8:=hSw.c8; go_simp; try with_reducible rfl)
      simp only [Act.put,sT,sS,sZ]
      refine wpAnyH_ready (rs:=[6]) (by kernel_rfl) (by simp) ?_
      refine AllReadyH.cons (o:=_) rfl (fun K hK=>?_) AllReadyH.nil
      go_simp
      refine (bundleOf_any _ _ _ _ _ _ _ _ _).mono ?_
      rintro e w4 ⟨rfl,hb4⟩
      have h4:=h3.next hb4
      go_wp2_with fail
      refine hK.out _ _ ?_ (fun hHeld=>?_)
      · exact h4.box
      clear hK K
      try simp only [Act.put]
      refine listH (l2:=#[true,true,true,true,true,true,true,false,true,false,false,false,false]) (by kernel_rfl) ?_
      refine takeH (i:=7) (oi:=_) (v:=?vt2x7) 19 #[true,true,true,true,true,true,true,true,true,false,false,false,false] rfl (by kernel_rfl) (by kernel_rfl) (by kernel_rfl) rfl (by kernel_rfl) (fun _ _ _ h=>h) (Or.inl ⟨by rfl,?yt2x7⟩) (by assumption) ?rt2x7
      case yt2x7=>(intro w' hSw; (try dsimp only at hSw); have x0:=hSw.c0; have x1:=hSw.c1; have x2:=hSw.c2; have x3:=hSw.c3; have x4:=hSw.c4; have x5:=hSw.c5; have x6:=hSw.c6; have x7:=hSw.c7; have x8:=hSw.c8; go_simp; rw [run_field85]; rfl)
      simp only [Act.put,sT,sS,sZ]
      refine wpAnyH_ready (rs:=[9]) (by kernel_rfl) (by simp) ?_
      refine AllReadyH.cons (o:=_) rfl (fun K hK=>?_) AllReadyH.nil
      go_simp
      refine (ownerOf_any _ _ _ _ _ _ _ _ _ _ _ _ _ _ _ _).mono ?_
      rintro e w5 ⟨rfl,hb5⟩
      have h5:=h4.next hb5
      go_wp2_with fail
      refine hK.out _ _ ?_ (fun hHeld=>?_)
      · exact h5.box
      clear hK K
      try simp only [Act.put]
      refine listH (l2:=#[true,true,true,true,true,true,true,true,true,true,false,false,false]) (by kernel_rfl) ?_
      refine takeH (i:=10) (oi:=_) (v:=(.bool ((q == who) && (s == seq)))) 22 #[true,true,true,true,true,true,true,true,true,true,true,false,false] rfl (by kernel_rfl) (by kernel_rfl) (by kernel_rfl) rfl (by kernel_rfl) (fun _ _ _ h=>h) (Or.inl ⟨by rfl,?yt2x10⟩) (by assumption) ?rt2x10
      case yt2x10=>(intro w' hSw; (try dsimp only at hSw); have x0:=hSw.c0; have x1:=hSw.c1; have x2:=hSw.c2; have x3:=hSw.c3; have x4:=hSw.c4; have x5:=hSw.c5; have x6:=hSw.c6; have x7:=hSw.c7; have x8:=hSw.c8; go_simp; by_cases hq9 : q = who <;> by_cases hs9 : s = seq <;> simp [hq9,hs9])
      simp only [Act.put,sT,sS,sZ]
      refine takeH (i:=11) (oi:=_) (v:=?vt2x11) 23 #[true,true,true,true,true,true,true,true,true,true,true,true,false] rfl (by kernel_rfl) (by kernel_rfl) (by kernel_rfl) rfl (by kernel_rfl) (fun _ _ _ h=>h) (Or.inl ⟨by rfl,?yt2x11⟩) (by assumption) ?rt2x11
      case yt2x11=>(intro w' hSw; (try dsimp only at hSw); have x0:=hSw.c0; have x1:=hSw.c1; have x2:=hSw.c2; have x3:=hSw.c3; have x4:=hSw.c4; have x5:=hSw.c5; have x6:=hSw.c6; have x7:=hSw.c7; have x8:=hSw.c8; go_simp; try with_reducible rfl)
      simp only [Act.put,sT,sS,sZ]
      refine wpAnyH_ready (rs:=[12]) (by kernel_rfl) (by simp) ?_
      refine AllReadyH.cons (o:=_) rfl (fun K hK=>?_) AllReadyH.nil
      go_simp
      refine hK.out _ _ ?_ (fun hHeld=>?_)
      · exact h5.box
      clear hK K
      try simp only [Act.put]
      refine listH (l2:=#[true,true,true,true,true,true,true,true,true,true,true,true,true]) (by kernel_rfl) ?_
      refine wpAnyH_done (by kernel_rfl) ?_ _
      go_wp2_with fail
      go_ret
      exact ⟨ret_bool (by rw [HV.out,t1]; simp),h5.below⟩
set_option maxHeartbeats 1000000 in
theorem msgPartsOk_any (lb cb tb : Bool) (k who seq q s : Int) (ba : Option Addr) (bn bc : Nat) (oa : Option Addr) (on oc : Nat) (code : Int) (ta : Option Addr) (tn tc : Nat) (l : LLog) (os : List LObj) (L U : Nat) (w : World) (hU : U ≤ w.heap.size) (hoc : on ≤ oc) (hcm : oc ≤ maxLen) (H : MsgAt w L U q s ba bn oa on ta tn l os) :
    Calls Tryz.prog 165 #[.agg #[.bool lb,.bool cb,.bool tb],.agg #[.int .i64 k,.int .i64 who,.int .i64 seq,.int .i64 q,.int .i64 s,.slice ba bn bc,.slice oa on oc,.int .i64 code,.slice ta tn tc]] w fun e w'=>e = .returned (.bool (mpartsB lb cb tb who seq code l os)) ∧ Below w.heap.size w w':=by
  have hM0 : HeldM w ((w.alloc (Obj.cells #[.bool lb,.bool cb,.bool tb] 222)).alloc (Obj.cells #[.int .i64 k,.int .i64 who,.int .i64 seq,.int .i64 q,.int .i64 s,.slice ba bn bc,.slice oa on oc,.int .i64 code,.slice ta tn tc] 156)) (w.heap.size + 1) k who seq q s ba bn bc oa on oc code ta tn tc :=
    ⟨((Below.refl _ _).alloc (Nat.le_refl _) _).alloc (by simp) _,⟨by simp [go_sem],by simp [go_sem],by simp [go_sem],by simp [go_sem],by simp [go_sem],by simp [go_sem],by simp [go_sem],by simp [go_sem],by simp [go_sem]⟩,by omega,by simp⟩
  have u0 : ((w.alloc (Obj.cells #[.bool lb,.bool cb,.bool tb] 222)).alloc (Obj.cells #[.int .i64 k,.int .i64 who,.int .i64 seq,.int .i64 q,.int .i64 s,.slice ba bn bc,.slice oa on oc,.int .i64 code,.slice ta tn tc] 156)).cell? ⟨w.heap.size,0,none⟩ = some (.bool lb):=by simp [go_sem]
  have u1 : ((w.alloc (Obj.cells #[.bool lb,.bool cb,.bool tb] 222)).alloc (Obj.cells #[.int .i64 k,.int .i64 who,.int .i64 seq,.int .i64 q,.int .i64 s,.slice ba bn bc,.slice oa on oc,.int .i64 code,.slice ta tn tc] 156)).cell? ⟨w.heap.size,1,none⟩ = some (.bool cb):=by simp [go_sem]
  have u2 : ((w.alloc (Obj.cells #[.bool lb,.bool cb,.bool tb] 222)).alloc (Obj.cells #[.int .i64 k,.int .i64 who,.int .i64 seq,.int .i64 q,.int .i64 s,.slice ba bn bc,.slice oa on oc,.int .i64 code,.slice ta tn tc] 156)).cell? ⟨w.heap.size,2,none⟩ = some (.bool tb):=by simp [go_sem]
  go_enter Tryz.func165,Tryz.ntmps165
  go_wp2_with fail
  refine (logOk_any lb cb tb k who seq q s ba bn bc oa on oc code ta tn tc l L U _ (by have:=hM0.below.size; omega) hoc hcm (H.log.below hM0.below hU)).mono ?_
  rintro x w1 ⟨rfl,hb1⟩
  have h1:=hM0.next hb1
  rw [← hb1.cell (by simp <;> omega)] at u0 u1 u2
  have e7:=h1.box.c7
  have e8:=h1.box.c8
  have hz1 : w.heap.size + 2 ≤ w1.heap.size:=by have:=hb1.size; simp at this; omega
  clear hM0 hb1
  rcases t1 : logPart lb who seq l with _ | _
  · go_wp2_with fail
    go_ret
    exact ⟨ret_bool (by simp [mpartsB,t1]),h1.below⟩
  go_wp2_with fail
  refine (codeOk_any lb cb tb _ _).mono ?_
  rintro x w2 ⟨rfl,hb2⟩
  have h2:=h1.next hb2
  rw [← hb2.cell (by simp <;> omega)] at u0 u1 u2
  have f8:=h2.box.c8
  clear h1 hb2 e7 e8
  rcases t2 : codePart cb code with _ | _
  · go_wp2_with fail
    go_ret
    exact ⟨ret_bool (by simp [mpartsB,t1,t2]),h2.below⟩
  go_wp2_with fail
  refine (treeOk_any lb cb tb _ _ _ os L U _ (by have:=h2.below.size; omega) (H.tree.below h2.below hU)).mono ?_
  rintro x w3 ⟨rfl,hb3⟩
  go_wp2_with fail
  go_ret
  exact ⟨ret_bool (by simp [mpartsB,t1,t2]),(h2.next hb3).below⟩
set_option maxHeartbeats 8000000 in
set_option maxRecDepth 20000 in
theorem implMsgOk (k who seq q s : Int) (ba : Option Addr) (bn bc : Nat) (oa : Option Addr) (on oc : Nat) (code : Int) (ta : Option Addr) (tn tc : Nat) (l : LLog) (os : List LObj) (L U : Nat) (w : World) (hU : U ≤ w.heap.size) (hoc : on ≤ oc) (hcm : oc ≤ maxLen) (H : MsgAt w L U q s ba bn oa on ta tn l os) :
    Calls Tryz.prog 104 #[.agg #[.int .i64 k,.int .i64 who,.int .i64 seq,.int .i64 q,.int .i64 s,.slice ba bn bc,.slice oa on oc,.int .i64 code,.slice ta tn tc]] w fun e w'=>e = .returned (.bool (msgOk k who seq code l os)) ∧ Below w.heap.size w w':=by
  by_cases hk : k = 1 ∨ k = 2 ∨ k = 3 ∨ k = 4
  · have HV : Hid (msgOk k who seq code l os = (whoB who seq && mpartsB (k == 3) (k == 4) (k == 2 || k == 4) who seq code l os)):=by show _ = _; have e : kindB k = true:=(by simp [kindB]; omega); simp [msgOk,e]
    rcases t1 : whoB who seq with _ | _
    · rcases hk with rfl | rfl | rfl | rfl
      · have hM0:=HeldM.new w 1 who seq q s ba bn bc oa on oc code ta tn tc 156
        go_enter Tryz.func104,Tryz.ntmps104
        go_upto_region 2 with fail
        have h2:=hM0.drew
        generalize (w.alloc (Obj.cells #[.int .i64 1,.int .i64 who,.int .i64 seq,.int .i64 q,.int .i64 s,.slice ba bn bc,.slice oa on oc,.int .i64 code,.slice ta tn tc] 156)) = W at *
        clear hM0
        refine wp_region_held_drew (S:=(fun W=>MBox W w.heap.size 1 who seq q s ba bn bc oa on oc code ta tn tc)) (by kernel_rfl) ?_ (fun hHeld=>?_)
        · exact h2.box
        refine listH (l2:=#[false,false,false,false,false,false,false,false,false,false,false,false,false,false,false]) (by kernel_rfl) ?_
        refine takeH (i:=0) (oi:=_) (v:=?vt3x0) 6 #[true,false,false,false,false,false,false,false,false,false,false,false,false,false,false] rfl (by kernel_rfl) (by kernel_rfl) (by kernel_rfl) rfl (by kernel_rfl) (fun _ _ _ h=>h) (Or.inl ⟨by rfl,?yt3x0⟩) (by assumption) ?rt3x0
        case yt3x0=>(intro w' hSw; (try dsimp only at hSw); have x0:=hSw.c0; have x1:=hSw.c1; have x2:=hSw.c2; have x3:=hSw.c3; have x4:=hSw.c4; have x5:=hSw.c5; have x6:=hSw.c6; have x7:=hSw.c7; have x8:=hSw.c8; go_simp; try with_reducible rfl)
        simp only [Act.put,sT,sS,sZ]
        refine wpAnyH_ready (rs:=[1]) (by kernel_rfl) (by simp) ?_
        refine AllReadyH.cons (o:=_) rfl (fun K hK=>?_) AllReadyH.nil
        go_simp
        refine (mw1 _).mono ?_
        rintro e w3 ⟨rfl,rfl⟩
        go_wp2_with fail
        refine hK.out _ _ ?_ (fun hHeld=>?_)
        · exact h2.box
        clear hK K
        try simp only [Act.put]
        refine listH (l2:=#[true,true,false,false,false,false,false,false,false,false,false,false,false,false,false]) (by kernel_rfl) ?_
        refine takeH (i:=2) (oi:=_) (v:=?vt3x2) 8 #[true,true,true,false,false,false,false,false,false,false,false,false,false,false,false] rfl (by kernel_rfl) (by kernel_rfl) (by kernel_rfl) rfl (by kernel_rfl) (fun _ _ _ h=>h) (Or.inl ⟨by rfl,?yt3x2⟩) (by assumption) ?rt3x2
        case yt3x2=>(intro w' hSw; (try dsimp only at hSw); have x0:=hSw.c0; have x1:=hSw.c1; have x2:=hSw.c2; have x3:=hSw.c3; have x4:=hSw.c4; have x5:=hSw.c5; have x6:=hSw.c6; have x7:=hSw.c7; have x8:=hSw.c8; go_simp; try with_reducible rfl)
        simp only [Act.put,sT,sS,sZ]
        refine takeH (i:=3) (oi:=_) (v:=?vt3x3) 9 #[true,true,true,true,false,false,false,false,false,false,false,false,false,false,false] rfl (by kernel_rfl) (by kernel_rfl) (by kernel_rfl) rfl (by kernel_rfl) (fun _ _ _ h=>h) (Or.inl ⟨by rfl,?yt3x3⟩) (by assumption) ?rt3x3
        case yt3x3=>(intro w' hSw; (try dsimp only at hSw); have x0:=hSw.c0; have x1:=hSw.c1; have x2:=hSw.c2; have x3:=hSw.c3; have x4:=hSw.c4; have x5:=hSw.c5; have x6:=hSw.c6; have x7:=hSw.c7; have x8:=hSw.c8; go_simp; try with_reducible rfl)
        simp only [Act.put,sT,sS,sZ]
        refine takeH (i:=4) (oi:=_) (v:=?vt3x4) 10 #[true,true,true,true,true,false,false,false,false,false,false,false,false,false,false] rfl (by kernel_rfl) (by kernel_rfl) (by kernel_rfl) rfl (by kernel_rfl) (fun _ _ _ h=>h) (Or.inl ⟨by rfl,?yt3x4⟩) (by assumption) ?rt3x4
        case yt3x4=>(intro w' hSw; (try dsimp only at hSw); have x0:=hSw.c0; have x1:=hSw.c1; have x2:=hSw.c2; have x3:=hSw.c3; have x4:=hSw.c4; have x5:=hSw.c5; have x6:=hSw.c6; have x7:=hSw.c7; have x8:=hSw.c8; go_simp; try with_reducible rfl)
        simp only [Act.put,sT,sS,sZ]
        refine wpAnyH_ready (rs:=[5]) (by kernel_rfl) (by simp) ?_
        refine AllReadyH.cons (o:=_) rfl (fun K hK=>?_) AllReadyH.nil
        go_simp
        refine (ownerOf_any _ _ _ _ _ _ _ _ _ _ _ _ _ _ _ _).mono ?_
        rintro e w4 ⟨rfl,hb4⟩
        have h4:=h2.next hb4
        go_wp2_with fail
        refine hK.out _ _ ?_ (fun hHeld=>?_)
        · exact h4.box
        clear hK K
        try simp only [Act.put]
        refine listH (l2:=#[true,true,true,true,true,true,false,false,false,false,false,false,false,false,false]) (by kernel_rfl) ?_
        refine wpAnyH_ready (rs:=[6]) (by kernel_rfl) (by simp) ?_
        refine AllReadyH.cons (o:=_) rfl (fun K hK=>?_) AllReadyH.nil
        go_simp
        refine (ownerOk_any _ _ _).mono ?_
        rintro e w5 ⟨rfl,hb5⟩
        have h5:=h4.next hb5
        rw [t1]
        go_wp2_with fail
        refine hK.out _ _ ?_ (fun hHeld=>?_)
        · exact h5.box
        clear hK K
        try simp only [Act.put]
        refine listH (l2:=#[true,true,true,true,true,true,true,false,false,false,false,false,false,false,false]) (by kernel_rfl) ?_
        refine takeH (i:=7) (oi:=_) (v:=?vt3x7) 13 #[true,true,true,true,true,true,true,true,false,false,false,false,false,false,false] rfl (by kernel_rfl) (by kernel_rfl) (by kernel_rfl) rfl (by kernel_rfl) (fun _ _ _ h=>h) (Or.inl ⟨by rfl,?yt3x7⟩) (by assumption) ?rt3x7
        case yt3x7=>(intro w' hSw; (try dsimp only at hSw); have x0:=hSw.c0; have x1:=hSw.c1; have x2:=hSw.c2; have x3:=hSw.c3; have x4:=hSw.c4; have x5:=hSw.c5; have x6:=hSw.c6; have x7:=hSw.c7; have x8:=hSw.c8; go_simp; try with_reducible rfl)
        simp only [Act.put,sT,sS,sZ]
        refine takeH (i:=8) (oi:=_) (v:=?vt3x8) 14 #[true,true,true,true,true,true,true,true,true,false,false,false,false,false,false] rfl (by kernel_rfl) (by kernel_rfl) (by kernel_rfl) rfl (by kernel_rfl) (fun _ _ _ h=>h) (Or.inl ⟨by rfl,?yt3x8⟩) (by assumption) ?rt3x8
        case yt3x8=>(intro w' hSw; (try dsimp only at hSw); have x0:=hSw.c0; have x1:=hSw.c1; have x2:=hSw.c2; have x3:=hSw.c3; have x4:=hSw.c4; have x5:=hSw.c5; have x6:=hSw.c6; have x7:=hSw.c7; have x8:=hSw.c8; go_simp; try with_reducible rfl)
        simp only [Act.put,sT,sS,sZ]
        refine takeH (i:=9) (oi:=_) (v:=undef) 15 #[true,true,true,true,true,true,true,true,true,true,false,false,false,false,false] rfl (by kernel_rfl) (by kernel_rfl) (by kernel_rfl) rfl (by kernel_rfl) (fun _ _ _ h=>h) (Or.inr ⟨by rfl,rfl⟩) (by assumption) ?rt3x9
        simp only [Act.put,sT,sS,sZ]
        refine takeH (i:=10) (oi:=_) (v:=undef) 16 #[true,true,true,true,true,true,true,true,true,true,true,false,false,false,false] rfl (by kernel_rfl) (by kernel_rfl) (by kernel_rfl) rfl (by kernel_rfl) (fun _ _ _ h=>h) (Or.inr ⟨by rfl,rfl⟩) (by assumption) ?rt3x10
        simp only [Act.put,sT,sS,sZ]
        refine takeH (i:=11) (oi:=_) (v:=undef) 17 #[true,true,true,true,true,true,true,true,true,true,true,true,false,false,false] rfl (by kernel_rfl) (by kernel_rfl) (by kernel_rfl) rfl (by kernel_rfl) (fun _ _ _ h=>h) (Or.inr ⟨by rfl,rfl⟩) (by assumption) ?rt3x11
        simp only [Act.put,sT,sS,sZ]
        refine takeH (i:=12) (oi:=_) (v:=undef) 18 #[true,true,true,true,true,true,true,true,true,true,true,true,true,false,false] rfl (by kernel_rfl) (by kernel_rfl) (by kernel_rfl) rfl (by kernel_rfl) (fun _ _ _ h=>h) (Or.inr ⟨by rfl,rfl⟩) (by assumption) ?rt3x12
        simp only [Act.put,sT,sS,sZ]
        refine takeH (i:=13) (oi:=_) (v:=?vt3x13) 19 #[true,true,true,true,true,true,true,true,true,true,true,true,true,true,false] rfl (by kernel_rfl) (by kernel_rfl) (by kernel_rfl) rfl (by kernel_rfl) (fun _ _ _ h=>h) (Or.inl ⟨by rfl,?yt3x13⟩) (by assumption) ?rt3x13
        case yt3x13=>(intro w' hSw; (try dsimp only at hSw); have x0:=hSw.c0; have x1:=hSw.c1; have x2:=hSw.c2; have x3:=hSw.c3; have x4:=hSw.c4; have x5:=hSw.c5; have x6:=hSw.c6; have x7:=hSw.c7; have x8:=hSw.c8; go_simp; try with_reducible rfl)
        simp only [Act.put,sT,sS,sZ]
        refine wpAnyH_ready (rs:=[14]) (by kernel_rfl) (by simp) ?_
        refine AllReadyH.cons (o:=_) rfl (fun K hK=>?_) AllReadyH.nil
        go_simp
        refine hK.out _ _ ?_ (fun hHeld=>?_)
        · exact h5.box
        clear hK K
        try simp only [Act.put]
        refine listH (l2:=#[true,true,true,true,true,true,true,true,true,true,true,true,true,true,true]) (by kernel_rfl) ?_
        refine wpAnyH_done (by kernel_rfl) ?_ _
        go_wp2_with fail
        go_ret
        exact ⟨ret_bool (by rw [HV.out,t1]; rfl),h5.below⟩
      · have hM0:=HeldM.new w 2 who seq q s ba bn bc oa on oc code ta tn tc 156
        go_enter Tryz.func104,Tryz.ntmps104
        go_upto_region 2 with fail
        have h2:=hM0.drew
        generalize (w.alloc (Obj.cells #[.int .i64 2,.int .i64 who,.int .i64 seq,.int .i64 q,.int .i64 s,.slice ba bn bc,.slice oa on oc,.int .i64 code,.slice ta tn tc] 156)) = W at *
        clear hM0
        refine wp_region_held_drew (S:=(fun W=>MBox W w.heap.size 2 who seq q s ba bn bc oa on oc code ta tn tc)) (by kernel_rfl) ?_ (fun hHeld=>?_)
        · exact h2.box
        refine listH (l2:=#[false,false,false,false,false,false,false,false,false,false,false,false,false,false,false]) (by kernel_rfl) ?_
        refine takeH (i:=0) (oi:=_) (v:=?vt4x0) 6 #[true,false,false,false,false,false,false,false,false,false,false,false,false,false,false] rfl (by kernel_rfl) (by kernel_rfl) (by kernel_rfl) rfl (by kernel_rfl) (fun _ _ _ h=>h) (Or.inl ⟨by rfl,?yt4x0⟩) (by assumption) ?rt4x0
        case yt4x0=>(intro w' hSw; (try dsimp only at hSw); have x0:=hSw.c0; have x1:=hSw.c1; have x2:=hSw.c2; have x3:=hSw.c3; have x4:=hSw.c4; have x5:=hSw.c5; have x6:=hSw.c6; have x7:=hSw.c7; have x8:=hSw.c8; go_simp; try with_reducible rfl)
        simp only [Act.put,sT,sS,sZ]
        refine wpAnyH_ready (rs:=[1]) (by kernel_rfl) (by simp) ?_
        refine AllReadyH.cons (o:=_) rfl (fun K hK=>?_) AllReadyH.nil
        go_simp
        refine (mw2 _).mono ?_
        rintro e w3 ⟨rfl,rfl⟩
        go_wp2_with fail
        refine hK.out _ _ ?_ (fun hHeld=>?_)
        · exact h2.box
        clear hK K
        try simp only [Act.put]
        refine listH (l2:=#[true,true,false,false,false,false,false,false,false,false,false,false,false,false,false]) (by kernel_rfl) ?_
        refine takeH (i:=2) (oi:=_) (v:=?vt4x2) 8 #[true,true,true,false,false,false,false,false,false,false,false,false,false,false,false] rfl (by kernel_rfl) (by kernel_rfl) (by kernel_rfl) rfl (by kernel_rfl) (fun _ _ _ h=>h) (Or.inl ⟨by rfl,?yt4x2⟩) (by assumption) ?rt4x2
        case yt4x2=>(intro w' hSw; (try dsimp only at hSw); have x0:=hSw.c0; have x1:=hSw.c1; have x2:=hSw.c2; have x3:=hSw.c3; have x4:=hSw.c4; have x5:=hSw.c5; have x6:=hSw.c6; have x7:=hSw.c7; have x8:=hSw.c8; go_simp; try with_reducible rfl)
        simp only [Act.put,sT,sS,sZ]
        refine takeH (i:=3) (oi:=_) (v:=?vt4x3) 9 #[true,true,true,true,false,false,false,false,false,false,false,false,false,false,false] rfl (by kernel_rfl) (by kernel_rfl) (by kernel_rfl) rfl (by kernel_rfl) (fun _ _ _ h=>h) (Or.inl ⟨by rfl,?yt4x3⟩) (by assumption) ?rt4x3
        case yt4x3=>(intro w' hSw; (try dsimp only at hSw); have x0:=hSw.c0; have x1:=hSw.c1; have x2:=hSw.c2; have x3:=hSw.c3; have x4:=hSw.c4; have x5:=hSw.c5; have x6:=hSw.c6; have x7:=hSw.c7; have x8:=hSw.c8; go_simp; try with_reducible rfl)
        simp only [Act.put,sT,sS,sZ]
        refine takeH (i:=4) (oi:=_) (v:=?vt4x4) 10 #[true,true,true,true,true,false,false,false,false,false,false,false,false,false,false] rfl (by kernel_rfl) (by kernel_rfl) (by kernel_rfl) rfl (by kernel_rfl) (fun _ _ _ h=>h) (Or.inl ⟨by rfl,?yt4x4⟩) (by assumption) ?rt4x4
        case yt4x4=>(intro w' hSw; (try dsimp only at hSw); have x0:=hSw.c0; have x1:=hSw.c1; have x2:=hSw.c2; have x3:=hSw.c3; have x4:=hSw.c4; have x5:=hSw.c5; have x6:=hSw.c6; have x7:=hSw.c7; have x8:=hSw.c8; go_simp; try with_reducible rfl)
        simp only [Act.put,sT,sS,sZ]
        refine wpAnyH_ready (rs:=[5]) (by kernel_rfl) (by simp) ?_
        refine AllReadyH.cons (o:=_) rfl (fun K hK=>?_) AllReadyH.nil
        go_simp
        refine (ownerOf_any _ _ _ _ _ _ _ _ _ _ _ _ _ _ _ _).mono ?_
        rintro e w4 ⟨rfl,hb4⟩
        have h4:=h2.next hb4
        go_wp2_with fail
        refine hK.out _ _ ?_ (fun hHeld=>?_)
        · exact h4.box
        clear hK K
        try simp only [Act.put]
        refine listH (l2:=#[true,true,true,true,true,true,false,false,false,false,false,false,false,false,false]) (by kernel_rfl) ?_
        refine wpAnyH_ready (rs:=[6]) (by kernel_rfl) (by simp) ?_
        refine AllReadyH.cons (o:=_) rfl (fun K hK=>?_) AllReadyH.nil
        go_simp
        refine (ownerOk_any _ _ _).mono ?_
        rintro e w5 ⟨rfl,hb5⟩
        have h5:=h4.next hb5
        rw [t1]
        go_wp2_with fail
        refine hK.out _ _ ?_ (fun hHeld=>?_)
        · exact h5.box
        clear hK K
        try simp only [Act.put]
        refine listH (l2:=#[true,true,true,true,true,true,true,false,false,false,false,false,false,false,false]) (by kernel_rfl) ?_
        refine takeH (i:=7) (oi:=_) (v:=?vt4x7) 13 #[true,true,true,true,true,true,true,true,false,false,false,false,false,false,false] rfl (by kernel_rfl) (by kernel_rfl) (by kernel_rfl) rfl (by kernel_rfl) (fun _ _ _ h=>h) (Or.inl ⟨by rfl,?yt4x7⟩) (by assumption) ?rt4x7
        case yt4x7=>(intro w' hSw; (try dsimp only at hSw); have x0:=hSw.c0; have x1:=hSw.c1; have x2:=hSw.c2; have x3:=hSw.c3; have x4:=hSw.c4; have x5:=hSw.c5; have x6:=hSw.c6; have x7:=hSw.c7; have x8:=hSw.c8; go_simp; try with_reducible rfl)
        simp only [Act.put,sT,sS,sZ]
        refine takeH (i:=8) (oi:=_) (v:=?vt4x8) 14 #[true,true,true,true,true,true,true,true,true,false,false,false,false,false,false] rfl (by kernel_rfl) (by kernel_rfl) (by kernel_rfl) rfl (by kernel_rfl) (fun _ _ _ h=>h) (Or.inl ⟨by rfl,?yt4x8⟩) (by assumption) ?rt4x8
        case yt4x8=>(intro w' hSw; (try dsimp only at hSw); have x0:=hSw.c0; have x1:=hSw.c1; have x2:=hSw.c2; have x3:=hSw.c3; have x4:=hSw.c4; have x5:=hSw.c5; have x6:=hSw.c6; have x7:=hSw.c7; have x8:=hSw.c8; go_simp; try with_reducible rfl)
        simp only [Act.put,sT,sS,sZ]
        refine takeH (i:=9) (oi:=_) (v:=undef) 15 #[true,true,true,true,true,true,true,true,true,true,false,false,false,false,false] rfl (by kernel_rfl) (by kernel_rfl) (by kernel_rfl) rfl (by kernel_rfl) (fun _ _ _ h=>h) (Or.inr ⟨by rfl,rfl⟩) (by assumption) ?rt4x9
        simp only [Act.put,sT,sS,sZ]
        refine takeH (i:=10) (oi:=_) (v:=undef) 16 #[true,true,true,true,true,true,true,true,true,true,true,false,false,false,false] rfl (by kernel_rfl) (by kernel_rfl) (by kernel_rfl) rfl (by kernel_rfl) (fun _ _ _ h=>h) (Or.inr ⟨by rfl,rfl⟩) (by assumption) ?rt4x10
        simp only [Act.put,sT,sS,sZ]
        refine takeH (i:=11) (oi:=_) (v:=undef) 17 #[true,true,true,true,true,true,true,true,true,true,true,true,false,false,false] rfl (by kernel_rfl) (by kernel_rfl) (by kernel_rfl) rfl (by kernel_rfl) (fun _ _ _ h=>h) (Or.inr ⟨by rfl,rfl⟩) (by assumption) ?rt4x11
        simp only [Act.put,sT,sS,sZ]
        refine takeH (i:=12) (oi:=_) (v:=undef) 18 #[true,true,true,true,true,true,true,true,true,true,true,true,true,false,false] rfl (by kernel_rfl) (by kernel_rfl) (by kernel_rfl) rfl (by kernel_rfl) (fun _ _ _ h=>h) (Or.inr ⟨by rfl,rfl⟩) (by assumption) ?rt4x12
        simp only [Act.put,sT,sS,sZ]
        refine takeH (i:=13) (oi:=_) (v:=?vt4x13) 19 #[true,true,true,true,true,true,true,true,true,true,true,true,true,true,false] rfl (by kernel_rfl) (by kernel_rfl) (by kernel_rfl) rfl (by kernel_rfl) (fun _ _ _ h=>h) (Or.inl ⟨by rfl,?yt4x13⟩) (by assumption) ?rt4x13
        case yt4x13=>(intro w' hSw; (try dsimp only at hSw); have x0:=hSw.c0; have x1:=hSw.c1; have x2:=hSw.c2; have x3:=hSw.c3; have x4:=hSw.c4; have x5:=hSw.c5; have x6:=hSw.c6; have x7:=hSw.c7; have x8:=hSw.c8; go_simp; try with_reducible rfl)
        simp only [Act.put,sT,sS,sZ]
        refine wpAnyH_ready (rs:=[14]) (by kernel_rfl) (by simp) ?_
        refine AllReadyH.cons (o:=_) rfl (fun K hK=>?_) AllReadyH.nil
        go_simp
        refine hK.out _ _ ?_ (fun hHeld=>?_)
        · exact h5.box
        clear hK K
        try simp only [Act.put]
        refine listH (l2:=#[true,true,true,true,true,true,true,true,true,true,true,true,true,true,true]) (by kernel_rfl) ?_
        refine wpAnyH_done (by kernel_rfl) ?_ _
        go_wp2_with fail
        go_ret
        exact ⟨ret_bool (by rw [HV.out,t1]; rfl),h5.below⟩
      · have hM0:=HeldM.new w 3 who seq q s ba bn bc oa on oc code ta tn tc 156
        go_enter Tryz.func104,Tryz.ntmps104
        go_upto_region 2 with fail
        have h2:=hM0.drew
        generalize (w.alloc (Obj.cells #[.int .i64 3,.int .i64 who,.int .i64 seq,.int .i64 q,.int .i64 s,.slice ba bn bc,.slice oa on oc,.int .i64 code,.slice ta tn tc] 156)) = W at *
        clear hM0
        refine wp_region_held_drew (S:=(fun W=>MBox W w.heap.size 3 who seq q s ba bn bc oa on oc code ta tn tc)) (by kernel_rfl) ?_ (fun hHeld=>?_)
        · exact h2.box
        refine listH (l2:=#[false,false,false,false,false,false,false,false,false,false,false,false,false,false,false]) (by kernel_rfl) ?_
        refine takeH (i:=0) (oi:=_) (v:=?vt5x0) 6 #[true,false,false,false,false,false,false,false,false,false,false,false,false,false,false] rfl (by kernel_rfl) (by kernel_rfl) (by kernel_rfl) rfl (by kernel_rfl) (fun _ _ _ h=>h) (Or.inl ⟨by rfl,?yt5x0⟩) (by assumption) ?rt5x0
        case yt5x0=>(intro w' hSw; (try dsimp only at hSw); have x0:=hSw.c0; have x1:=hSw.c1; have x2:=hSw.c2; have x3:=hSw.c3; have x4:=hSw.c4; have x5:=hSw.c5; have x6:=hSw.c6; have x7:=hSw.c7; have x8:=hSw.c8; go_simp; try with_reducible rfl)
        simp only [Act.put,sT,sS,sZ]
        refine wpAnyH_ready (rs:=[1]) (by kernel_rfl) (by simp) ?_
        refine AllReadyH.cons (o:=_) rfl (fun K hK=>?_) AllReadyH.nil
        go_simp
        refine (mw3 _).mono ?_
        rintro e w3 ⟨rfl,rfl⟩
        go_wp2_with fail
        refine hK.out _ _ ?_ (fun hHeld=>?_)
        · exact h2.box
        clear hK K
        try simp only [Act.put]
        refine listH (l2:=#[true,true,false,false,false,false,false,false,false,false,false,false,false,false,false]) (by kernel_rfl) ?_
        refine takeH (i:=2) (oi:=_) (v:=?vt5x2) 8 #[true,true,true,false,false,false,false,false,false,false,false,false,false,false,false] rfl (by kernel_rfl) (by kernel_rfl) (by kernel_rfl) rfl (by kernel_rfl) (fun _ _ _ h=>h) (Or.inl ⟨by rfl,?yt5x2⟩) (by assumption) ?rt5x2
        case yt5x2=>(intro w' hSw; (try dsimp only at hSw); have x0:=hSw.c0; have x1:=hSw.c1; have x2:=hSw.c2; have x3:=hSw.c3; have x4:=hSw.c4; have x5:=hSw.c5; have x6:=hSw.c6; have x7:=hSw.c7; have x8:=hSw.c8; go_simp; try with_reducible rfl)
        simp only [Act.put,sT,sS,sZ]
        refine takeH (i:=3) (oi:=_) (v:=?vt5x3) 9 #[true,true,true,true,false,false,false,false,false,false,false,false,false,false,false] rfl (by kernel_rfl) (by kernel_rfl) (by kernel_rfl) rfl (by kernel_rfl) (fun _ _ _ h=>h) (Or.inl ⟨by rfl,?yt5x3⟩) (by assumption) ?rt5x3
        case yt5x3=>(intro w' hSw; (try dsimp only at hSw); have x0:=hSw.c0; have x1:=hSw.c1; have x2:=hSw.c2; have x3:=hSw.c3; have x4:=hSw.c4; have x5:=hSw.c5; have x6:=hSw.c6; have x7:=hSw.c7; have x8:=hSw.c8; go_simp; try with_reducible rfl)
        simp only [Act.put,sT,sS,sZ]
        refine takeH (i:=4) (oi:=_) (v:=?vt5x4) 10 #[true,true,true,true,true,false,false,false,false,false,false,false,false,false,false] rfl (by kernel_rfl) (by kernel_rfl) (by kernel_rfl) rfl (by kernel_rfl) (fun _ _ _ h=>h) (Or.inl ⟨by rfl,?yt5x4⟩) (by assumption) ?rt5x4
        case yt5x4=>(intro w' hSw; (try dsimp only at hSw); have x0:=hSw.c0; have x1:=hSw.c1; have x2:=hSw.c2; have x3:=hSw.c3; have x4:=hSw.c4; have x5:=hSw.c5; have x6:=hSw.c6; have x7:=hSw.c7; have x8:=hSw.c8; go_simp; try with_reducible rfl)
        simp only [Act.put,sT,sS,sZ]
        refine wpAnyH_ready (rs:=[5]) (by kernel_rfl) (by simp) ?_
        refine AllReadyH.cons (o:=_) rfl (fun K hK=>?_) AllReadyH.nil
        go_simp
        refine (ownerOf_any _ _ _ _ _ _ _ _ _ _ _ _ _ _ _ _).mono ?_
        rintro e w4 ⟨rfl,hb4⟩
        have h4:=h2.next hb4
        go_wp2_with fail
        refine hK.out _ _ ?_ (fun hHeld=>?_)
        · exact h4.box
        clear hK K
        try simp only [Act.put]
        refine listH (l2:=#[true,true,true,true,true,true,false,false,false,false,false,false,false,false,false]) (by kernel_rfl) ?_
        refine wpAnyH_ready (rs:=[6]) (by kernel_rfl) (by simp) ?_
        refine AllReadyH.cons (o:=_) rfl (fun K hK=>?_) AllReadyH.nil
        go_simp
        refine (ownerOk_any _ _ _).mono ?_
        rintro e w5 ⟨rfl,hb5⟩
        have h5:=h4.next hb5
        rw [t1]
        go_wp2_with fail
        refine hK.out _ _ ?_ (fun hHeld=>?_)
        · exact h5.box
        clear hK K
        try simp only [Act.put]
        refine listH (l2:=#[true,true,true,true,true,true,true,false,false,false,false,false,false,false,false]) (by kernel_rfl) ?_
        refine takeH (i:=7) (oi:=_) (v:=?vt5x7) 13 #[true,true,true,true,true,true,true,true,false,false,false,false,false,false,false] rfl (by kernel_rfl) (by kernel_rfl) (by kernel_rfl) rfl (by kernel_rfl) (fun _ _ _ h=>h) (Or.inl ⟨by rfl,?yt5x7⟩) (by assumption) ?rt5x7
        case yt5x7=>(intro w' hSw; (try dsimp only at hSw); have x0:=hSw.c0; have x1:=hSw.c1; have x2:=hSw.c2; have x3:=hSw.c3; have x4:=hSw.c4; have x5:=hSw.c5; have x6:=hSw.c6; have x7:=hSw.c7; have x8:=hSw.c8; go_simp; try with_reducible rfl)
        simp only [Act.put,sT,sS,sZ]
        refine takeH (i:=8) (oi:=_) (v:=?vt5x8) 14 #[true,true,true,true,true,true,true,true,true,false,false,false,false,false,false] rfl (by kernel_rfl) (by kernel_rfl) (by kernel_rfl) rfl (by kernel_rfl) (fun _ _ _ h=>h) (Or.inl ⟨by rfl,?yt5x8⟩) (by assumption) ?rt5x8
        case yt5x8=>(intro w' hSw; (try dsimp only at hSw); have x0:=hSw.c0; have x1:=hSw.c1; have x2:=hSw.c2; have x3:=hSw.c3; have x4:=hSw.c4; have x5:=hSw.c5; have x6:=hSw.c6; have x7:=hSw.c7; have x8:=hSw.c8; go_simp; try with_reducible rfl)
        simp only [Act.put,sT,sS,sZ]
        refine takeH (i:=9) (oi:=_) (v:=undef) 15 #[true,true,true,true,true,true,true,true,true,true,false,false,false,false,false] rfl (by kernel_rfl) (by kernel_rfl) (by kernel_rfl) rfl (by kernel_rfl) (fun _ _ _ h=>h) (Or.inr ⟨by rfl,rfl⟩) (by assumption) ?rt5x9
        simp only [Act.put,sT,sS,sZ]
        refine takeH (i:=10) (oi:=_) (v:=undef) 16 #[true,true,true,true,true,true,true,true,true,true,true,false,false,false,false] rfl (by kernel_rfl) (by kernel_rfl) (by kernel_rfl) rfl (by kernel_rfl) (fun _ _ _ h=>h) (Or.inr ⟨by rfl,rfl⟩) (by assumption) ?rt5x10
        simp only [Act.put,sT,sS,sZ]
        refine takeH (i:=11) (oi:=_) (v:=undef) 17 #[true,true,true,true,true,true,true,true,true,true,true,true,false,false,false] rfl (by kernel_rfl) (by kernel_rfl) (by kernel_rfl) rfl (by kernel_rfl) (fun _ _ _ h=>h) (Or.inr ⟨by rfl,rfl⟩) (by assumption) ?rt5x11
        simp only [Act.put,sT,sS,sZ]
        refine takeH (i:=12) (oi:=_) (v:=undef) 18 #[true,true,true,true,true,true,true,true,true,true,true,true,true,false,false] rfl (by kernel_rfl) (by kernel_rfl) (by kernel_rfl) rfl (by kernel_rfl) (fun _ _ _ h=>h) (Or.inr ⟨by rfl,rfl⟩) (by assumption) ?rt5x12
        simp only [Act.put,sT,sS,sZ]
        refine takeH (i:=13) (oi:=_) (v:=?vt5x13) 19 #[true,true,true,true,true,true,true,true,true,true,true,true,true,true,false] rfl (by kernel_rfl) (by kernel_rfl) (by kernel_rfl) rfl (by kernel_rfl) (fun _ _ _ h=>h) (Or.inl ⟨by rfl,?yt5x13⟩) (by assumption) ?rt5x13
        case yt5x13=>(intro w' hSw; (try dsimp only at hSw); have x0:=hSw.c0; have x1:=hSw.c1; have x2:=hSw.c2; have x3:=hSw.c3; have x4:=hSw.c4; have x5:=hSw.c5; have x6:=hSw.c6; have x7:=hSw.c7; have x8:=hSw.c8; go_simp; try with_reducible rfl)
        simp only [Act.put,sT,sS,sZ]
        refine wpAnyH_ready (rs:=[14]) (by kernel_rfl) (by simp) ?_
        refine AllReadyH.cons (o:=_) rfl (fun K hK=>?_) AllReadyH.nil
        go_simp
        refine hK.out _ _ ?_ (fun hHeld=>?_)
        · exact h5.box
        clear hK K
        try simp only [Act.put]
        refine listH (l2:=#[true,true,true,true,true,true,true,true,true,true,true,true,true,true,true]) (by kernel_rfl) ?_
        refine wpAnyH_done (by kernel_rfl) ?_ _
        go_wp2_with fail
        go_ret
        exact ⟨ret_bool (by rw [HV.out,t1]; rfl),h5.below⟩
      · have hM0:=HeldM.new w 4 who seq q s ba bn bc oa on oc code ta tn tc 156
        go_enter Tryz.func104,Tryz.ntmps104
        go_upto_region 2 with fail
        have h2:=hM0.drew
        generalize (w.alloc (Obj.cells #[.int .i64 4,.int .i64 who,.int .i64 seq,.int .i64 q,.int .i64 s,.slice ba bn bc,.slice oa on oc,.int .i64 code,.slice ta tn tc] 156)) = W at *
        clear hM0
        refine wp_region_held_drew (S:=(fun W=>MBox W w.heap.size 4 who seq q s ba bn bc oa on oc code ta tn tc)) (by kernel_rfl) ?_ (fun hHeld=>?_)
        · exact h2.box
        refine listH (l2:=#[false,false,false,false,false,false,false,false,false,false,false,false,false,false,false]) (by kernel_rfl) ?_
        refine takeH (i:=0) (oi:=_) (v:=?vt6x0) 6 #[true,false,false,false,false,false,false,false,false,false,false,false,false,false,false] rfl (by kernel_rfl) (by kernel_rfl) (by kernel_rfl) rfl (by kernel_rfl) (fun _ _ _ h=>h) (Or.inl ⟨by rfl,?yt6x0⟩) (by assumption) ?rt6x0
        case yt6x0=>(intro w' hSw; (try dsimp only at hSw); have x0:=hSw.c0; have x1:=hSw.c1; have x2:=hSw.c2; have x3:=hSw.c3; have x4:=hSw.c4; have x5:=hSw.c5; have x6:=hSw.c6; have x7:=hSw.c7; have x8:=hSw.c8; go_simp; try with_reducible rfl)
        simp only [Act.put,sT,sS,sZ]
        refine wpAnyH_ready (rs:=[1]) (by kernel_rfl) (by simp) ?_
        refine AllReadyH.cons (o:=_) rfl (fun K hK=>?_) AllReadyH.nil
        go_simp
        refine (mw4 _).mono ?_
        rintro e w3 ⟨rfl,rfl⟩
        go_wp2_with fail
        refine hK.out _ _ ?_ (fun hHeld=>?_)
        · exact h2.box
        clear hK K
        try simp only [Act.put]
        refine listH (l2:=#[true,true,false,false,false,false,false,false,false,false,false,false,false,false,false]) (by kernel_rfl) ?_
        refine takeH (i:=2) (oi:=_) (v:=?vt6x2) 8 #[true,true,true,false,false,false,false,false,false,false,false,false,false,false,false] rfl (by kernel_rfl) (by kernel_rfl) (by kernel_rfl) rfl (by kernel_rfl) (fun _ _ _ h=>h) (Or.inl ⟨by rfl,?yt6x2⟩) (by assumption) ?rt6x2
        case yt6x2=>(intro w' hSw; (try dsimp only at hSw); have x0:=hSw.c0; have x1:=hSw.c1; have x2:=hSw.c2; have x3:=hSw.c3; have x4:=hSw.c4; have x5:=hSw.c5; have x6:=hSw.c6; have x7:=hSw.c7; have x8:=hSw.c8; go_simp; try with_reducible rfl)
        simp only [Act.put,sT,sS,sZ]
        refine takeH (i:=3) (oi:=_) (v:=?vt6x3) 9 #[true,true,true,true,false,false,false,false,false,false,false,false,false,false,false] rfl (by kernel_rfl) (by kernel_rfl) (by kernel_rfl) rfl (by kernel_rfl) (fun _ _ _ h=>h) (Or.inl ⟨by rfl,?yt6x3⟩) (by assumption) ?rt6x3
        case yt6x3=>(intro w' hSw; (try dsimp only at hSw); have x0:=hSw.c0; have x1:=hSw.c1; have x2:=hSw.c2; have x3:=hSw.c3; have x4:=hSw.c4; have x5:=hSw.c5; have x6:=hSw.c6; have x7:=hSw.c7; have x8:=hSw.c8; go_simp; try with_reducible rfl)
        simp only [Act.put,sT,sS,sZ]
        refine takeH (i:=4) (oi:=_) (v:=?vt6x4) 10 #[true,true,true,true,true,false,false,false,false,false,false,false,false,false,false] rfl (by kernel_rfl) (by kernel_rfl) (by kernel_rfl) rfl (by kernel_rfl) (fun _ _ _ h=>h) (Or.inl ⟨by rfl,?yt6x4⟩) (by assumption) ?rt6x4
        case yt6x4=>(intro w' hSw; (try dsimp only at hSw); have x0:=hSw.c0; have x1:=hSw.c1; have x2:=hSw.c2; have x3:=hSw.c3; have x4:=hSw.c4; have x5:=hSw.c5; have x6:=hSw.c6; have x7:=hSw.c7; have x8:=hSw.c8; go_simp; try with_reducible rfl)
        simp only [Act.put,sT,sS,sZ]
        refine wpAnyH_ready (rs:=[5]) (by kernel_rfl) (by simp) ?_
        refine AllReadyH.cons (o:=_) rfl (fun K hK=>?_) AllReadyH.nil
        go_simp
        refine (ownerOf_any _ _ _ _ _ _ _ _ _ _ _ _ _ _ _ _).mono ?_
        rintro e w4 ⟨rfl,hb4⟩
        have h4:=h2.next hb4
        go_wp2_with fail
        refine hK.out _ _ ?_ (fun hHeld=>?_)
        · exact h4.box
        clear hK K
        try simp only [Act.put]
        refine listH (l2:=#[true,true,true,true,true,true,false,false,false,false,false,false,false,false,false]) (by kernel_rfl) ?_
        refine wpAnyH_ready (rs:=[6]) (by kernel_rfl) (by simp) ?_
        refine AllReadyH.cons (o:=_) rfl (fun K hK=>?_) AllReadyH.nil
        go_simp
        refine (ownerOk_any _ _ _).mono ?_
        rintro e w5 ⟨rfl,hb5⟩
        have h5:=h4.next hb5
        rw [t1]
        go_wp2_with fail
        refine hK.out _ _ ?_ (fun hHeld=>?_)
        · exact h5.box
        clear hK K
        try simp only [Act.put]
        refine listH (l2:=#[true,true,true,true,true,true,true,false,false,false,false,false,false,false,false]) (by kernel_rfl) ?_
        refine takeH (i:=7) (oi:=_) (v:=?vt6x7) 13 #[true,true,true,true,true,true,true,true,false,false,false,false,false,false,false] rfl (by kernel_rfl) (by kernel_rfl) (by kernel_rfl) rfl (by kernel_rfl) (fun _ _ _ h=>h) (Or.inl ⟨by rfl,?yt6x7⟩) (by assumption) ?rt6x7
        case yt6x7=>(intro w' hSw; (try dsimp only at hSw); have x0:=hSw.c0; have x1:=hSw.c1; have x2:=hSw.c2; have x3:=hSw.c3; have x4:=hSw.c4; have x5:=hSw.c5; have x6:=hSw.c6; have x7:=hSw.c7; have x8:=hSw.c8; go_simp; try with_reducible rfl)
        simp only [Act.put,sT,sS,sZ]
        refine takeH (i:=8) (oi:=_) (v:=?vt6x8) 14 #[true,true,true,true,true,true,true,true,true,false,false,false,false,false,false] rfl (by kernel_rfl) (by kernel_rfl) (by kernel_rfl) rfl (by kernel_rfl) (fun _ _ _ h=>h) (Or.inl ⟨by rfl,?yt6x8⟩) (by assumption) ?rt6x8
        case yt6x8=>(intro w' hSw; (try dsimp only at hSw); have x0:=hSw.c0; have x1:=hSw.c1; have x2:=hSw.c2; have x3:=hSw.c3; have x4:=hSw.c4; have x5:=hSw.c5; have x6:=hSw.c6; have x7:=hSw.c7; have x8:=hSw.c8; go_simp; try with_reducible rfl)
        simp only [Act.put,sT,sS,sZ]
        refine takeH (i:=9) (oi:=_) (v:=undef) 15 #[true,true,true,true,true,true,true,true,true,true,false,false,false,false,false] rfl (by kernel_rfl) (by kernel_rfl) (by kernel_rfl) rfl (by kernel_rfl) (fun _ _ _ h=>h) (Or.inr ⟨by rfl,rfl⟩) (by assumption) ?rt6x9
        simp only [Act.put,sT,sS,sZ]
        refine takeH (i:=10) (oi:=_) (v:=undef) 16 #[true,true,true,true,true,true,true,true,true,true,true,false,false,false,false] rfl (by kernel_rfl) (by kernel_rfl) (by kernel_rfl) rfl (by kernel_rfl) (fun _ _ _ h=>h) (Or.inr ⟨by rfl,rfl⟩) (by assumption) ?rt6x10
        simp only [Act.put,sT,sS,sZ]
        refine takeH (i:=11) (oi:=_) (v:=undef) 17 #[true,true,true,true,true,true,true,true,true,true,true,true,false,false,false] rfl (by kernel_rfl) (by kernel_rfl) (by kernel_rfl) rfl (by kernel_rfl) (fun _ _ _ h=>h) (Or.inr ⟨by rfl,rfl⟩) (by assumption) ?rt6x11
        simp only [Act.put,sT,sS,sZ]
        refine takeH (i:=12) (oi:=_) (v:=undef) 18 #[true,true,true,true,true,true,true,true,true,true,true,true,true,false,false] rfl (by kernel_rfl) (by kernel_rfl) (by kernel_rfl) rfl (by kernel_rfl) (fun _ _ _ h=>h) (Or.inr ⟨by rfl,rfl⟩) (by assumption) ?rt6x12
        simp only [Act.put,sT,sS,sZ]
        refine takeH (i:=13) (oi:=_) (v:=?vt6x13) 19 #[true,true,true,true,true,true,true,true,true,true,true,true,true,true,false] rfl (by kernel_rfl) (by kernel_rfl) (by kernel_rfl) rfl (by kernel_rfl) (fun _ _ _ h=>h) (Or.inl ⟨by rfl,?yt6x13⟩) (by assumption) ?rt6x13
        case yt6x13=>(intro w' hSw; (try dsimp only at hSw); have x0:=hSw.c0; have x1:=hSw.c1; have x2:=hSw.c2; have x3:=hSw.c3; have x4:=hSw.c4; have x5:=hSw.c5; have x6:=hSw.c6; have x7:=hSw.c7; have x8:=hSw.c8; go_simp; try with_reducible rfl)
        simp only [Act.put,sT,sS,sZ]
        refine wpAnyH_ready (rs:=[14]) (by kernel_rfl) (by simp) ?_
        refine AllReadyH.cons (o:=_) rfl (fun K hK=>?_) AllReadyH.nil
        go_simp
        refine hK.out _ _ ?_ (fun hHeld=>?_)
        · exact h5.box
        clear hK K
        try simp only [Act.put]
        refine listH (l2:=#[true,true,true,true,true,true,true,true,true,true,true,true,true,true,true]) (by kernel_rfl) ?_
        refine wpAnyH_done (by kernel_rfl) ?_ _
        go_wp2_with fail
        go_ret
        exact ⟨ret_bool (by rw [HV.out,t1]; rfl),h5.below⟩
    · rcases hk with rfl | rfl | rfl | rfl
      · have hM0:=HeldM.new w 1 who seq q s ba bn bc oa on oc code ta tn tc 156
        go_enter Tryz.func104,Tryz.ntmps104
        go_upto_region 2 with fail
        have h2:=hM0.drew
        generalize (w.alloc (Obj.cells #[.int .i64 1,.int .i64 who,.int .i64 seq,.int .i64 q,.int .i64 s,.slice ba bn bc,.slice oa on oc,.int .i64 code,.slice ta tn tc] 156)) = W at *
        clear hM0
        refine wp_region_held_drew (S:=(fun W=>MBox W w.heap.size 1 who seq q s ba bn bc oa on oc code ta tn tc)) (by kernel_rfl) ?_ (fun hHeld=>?_)
        · exact h2.box
        refine listH (l2:=#[false,false,false,false,false,false,false,false,false,false,false,false,false,false,false]) (by kernel_rfl) ?_
        refine takeH (i:=0) (oi:=_) (v:=?vt7x0) 6 #[true,false,false,false,false,false,false,false,false,false,false,false,false,false,false] rfl (by kernel_rfl) (by kernel_rfl) (by kernel_rfl) rfl (by kernel_rfl) (fun _ _ _ h=>h) (Or.inl ⟨by rfl,?yt7x0⟩) (by assumption) ?rt7x0
        case yt7x0=>(intro w' hSw; (try dsimp only at hSw); have x0:=hSw.c0; have x1:=hSw.c1; have x2:=hSw.c2; have x3:=hSw.c3; have x4:=hSw.c4; have x5:=hSw.c5; have x6:=hSw.c6; have x7:=hSw.c7; have x8:=hSw.c8; go_simp; try with_reducible rfl)
        simp only [Act.put,sT,sS,sZ]
        refine wpAnyH_ready (rs:=[1]) (by kernel_rfl) (by simp) ?_
        refine AllReadyH.cons (o:=_) rfl (fun K hK=>?_) AllReadyH.nil
        go_simp
        refine (mw1 _).mono ?_
        rintro e w3 ⟨rfl,rfl⟩
        go_wp2_with fail
        refine hK.out _ _ ?_ (fun hHeld=>?_)
        · exact h2.box
        clear hK K
        try simp only [Act.put]
        refine listH (l2:=#[true,true,false,false,false,false,false,false,false,false,false,false,false,false,false]) (by kernel_rfl) ?_
        refine takeH (i:=2) (oi:=_) (v:=?vt7x2) 8 #[true,true,true,false,false,false,false,false,false,false,false,false,false,false,false] rfl (by kernel_rfl) (by kernel_rfl) (by kernel_rfl) rfl (by kernel_rfl) (fun _ _ _ h=>h) (Or.inl ⟨by rfl,?yt7x2⟩) (by assumption) ?rt7x2
        case yt7x2=>(intro w' hSw; (try dsimp only at hSw); have x0:=hSw.c0; have x1:=hSw.c1; have x2:=hSw.c2; have x3:=hSw.c3; have x4:=hSw.c4; have x5:=hSw.c5; have x6:=hSw.c6; have x7:=hSw.c7; have x8:=hSw.c8; go_simp; try with_reducible rfl)
        simp only [Act.put,sT,sS,sZ]
        refine takeH (i:=3) (oi:=_) (v:=?vt7x3) 9 #[true,true,true,true,false,false,false,false,false,false,false,false,false,false,false] rfl (by kernel_rfl) (by kernel_rfl) (by kernel_rfl) rfl (by kernel_rfl) (fun _ _ _ h=>h) (Or.inl ⟨by rfl,?yt7x3⟩) (by assumption) ?rt7x3
        case yt7x3=>(intro w' hSw; (try dsimp only at hSw); have x0:=hSw.c0; have x1:=hSw.c1; have x2:=hSw.c2; have x3:=hSw.c3; have x4:=hSw.c4; have x5:=hSw.c5; have x6:=hSw.c6; have x7:=hSw.c7; have x8:=hSw.c8; go_simp; try with_reducible rfl)
        simp only [Act.put,sT,sS,sZ]
        refine takeH (i:=4) (oi:=_) (v:=?vt7x4) 10 #[true,true,true,true,true,false,false,false,false,false,false,false,false,false,false] rfl (by kernel_rfl) (by kernel_rfl) (by kernel_rfl) rfl (by kernel_rfl) (fun _ _ _ h=>h) (Or.inl ⟨by rfl,?yt7x4⟩) (by assumption) ?rt7x4
        case yt7x4=>(intro w' hSw; (try dsimp only at hSw); have x0:=hSw.c0; have x1:=hSw.c1; have x2:=hSw.c2; have x3:=hSw.c3; have x4:=hSw.c4; have x5:=hSw.c5; have x6:=hSw.c6; have x7:=hSw.c7; have x8:=hSw.c8; go_simp; try with_reducible rfl)
        simp only [Act.put,sT,sS,sZ]
        refine wpAnyH_ready (rs:=[5]) (by kernel_rfl) (by simp) ?_
        refine AllReadyH.cons (o:=_) rfl (fun K hK=>?_) AllReadyH.nil
        go_simp
        refine (ownerOf_any _ _ _ _ _ _ _ _ _ _ _ _ _ _ _ _).mono ?_
        rintro e w4 ⟨rfl,hb4⟩
        have h4:=h2.next hb4
        go_wp2_with fail
        refine hK.out _ _ ?_ (fun hHeld=>?_)
        · exact h4.box
        clear hK K
        try simp only [Act.put]
        refine listH (l2:=#[true,true,true,true,true,true,false,false,false,false,false,false,false,false,false]) (by kernel_rfl) ?_
        refine wpAnyH_ready (rs:=[6]) (by kernel_rfl) (by simp) ?_
        refine AllReadyH.cons (o:=_) rfl (fun K hK=>?_) AllReadyH.nil
        go_simp
        refine (ownerOk_any _ _ _).mono ?_
        rintro e w5 ⟨rfl,hb5⟩
        have h5:=h4.next hb5
        rw [t1]
        go_wp2_with fail
        refine hK.out _ _ ?_ (fun hHeld=>?_)
        · exact h5.box
        clear hK K
        try simp only [Act.put]
        refine listH (l2:=#[true,true,true,true,true,true,true,false,false,false,false,false,false,false,false]) (by kernel_rfl) ?_
        refine takeH (i:=7) (oi:=_) (v:=?vt7x7) 13 #[true,true,true,true,true,true,true,true,false,false,false,false,false,false,false] rfl (by kernel_rfl) (by kernel_rfl) (by kernel_rfl) rfl (by kernel_rfl) (fun _ _ _ h=>h) (Or.inl ⟨by rfl,?yt7x7⟩) (by assumption) ?rt7x7
        case yt7x7=>(intro w' hSw; (try dsimp only at hSw); have x0:=hSw.c0; have x1:=hSw.c1; have x2:=hSw.c2; have x3:=hSw.c3; have x4:=hSw.c4; have x5:=hSw.c5; have x6:=hSw.c6; have x7:=hSw.c7; have x8:=hSw.c8; go_simp; try with_reducible rfl)
        simp only [Act.put,sT,sS,sZ]
        refine takeH (i:=8) (oi:=_) (v:=?vt7x8) 14 #[true,true,true,true,true,true,true,true,true,false,false,false,false,false,false] rfl (by kernel_rfl) (by kernel_rfl) (by kernel_rfl) rfl (by kernel_rfl) (fun _ _ _ h=>h) (Or.inl ⟨by rfl,?yt7x8⟩) (by assumption) ?rt7x8
        case yt7x8=>(intro w' hSw; (try dsimp only at hSw); have x0:=hSw.c0; have x1:=hSw.c1; have x2:=hSw.c2; have x3:=hSw.c3; have x4:=hSw.c4; have x5:=hSw.c5; have x6:=hSw.c6; have x7:=hSw.c7; have x8:=hSw.c8; go_simp; try with_reducible rfl)
        simp only [Act.put,sT,sS,sZ]
        refine takeH (i:=9) (oi:=_) (v:=?vt7x9) 15 #[true,true,true,true,true,true,true,true,true,true,false,false,false,false,false] rfl (by kernel_rfl) (by kernel_rfl) (by kernel_rfl) rfl (by kernel_rfl) (fun _ _ _ h=>h) (Or.inl ⟨by rfl,?yt7x9⟩) (by assumption) ?rt7x9
        case yt7x9=>(intro w' hSw; (try dsimp only at hSw); have x0:=hSw.c0; have x1:=hSw.c1; have x2:=hSw.c2; have x3:=hSw.c3; have x4:=hSw.c4; have x5:=hSw.c5; have x6:=hSw.c6; have x7:=hSw.c7; have x8:=hSw.c8; go_simp; try with_reducible rfl)
        simp only [Act.put,sT,sS,sZ]
        refine takeH (i:=11) (oi:=_) (v:=?vt7x11) 17 #[true,true,true,true,true,true,true,true,true,true,false,true,false,false,false] rfl (by kernel_rfl) (by kernel_rfl) (by kernel_rfl) rfl (by kernel_rfl) (fun _ _ _ h=>h) (Or.inl ⟨by rfl,?yt7x11⟩) (by assumption) ?rt7x11
        case yt7x11=>(intro w' hSw; (try dsimp only at hSw); have x0:=hSw.c0; have x1:=hSw.c1; have x2:=hSw.c2; have x3:=hSw.c3; have x4:=hSw.c4; have x5:=hSw.c5; have x6:=hSw.c6; have x7:=hSw.c7; have x8:=hSw.c8; go_simp; try with_reducible rfl)
        simp only [Act.put,sT,sS,sZ]
        refine wpAnyH_ready (rs:=[10]) (by kernel_rfl) (by simp) ?_
        refine AllReadyH.cons (o:=_) rfl (fun K hK=>?_) AllReadyH.nil
        go_simp
        refine (parts_any 1 _).mono ?_
        rintro e w6 ⟨rfl,hb6⟩
        have h6:=h5.next hb6
        go_wp2_with fail
        refine hK.out _ _ ?_ (fun hHeld=>?_)
        · exact h6.box
        clear hK K
        try simp only [Act.put]
        refine listH (l2:=#[true,true,true,true,true,true,true,true,true,true,true,true,false,false,false]) (by kernel_rfl) ?_
        refine wpAnyH_ready (rs:=[12]) (by kernel_rfl) (by simp) ?_
        refine AllReadyH.cons (o:=_) rfl (fun K hK=>?_) AllReadyH.nil
        go_simp
        refine (msgPartsOk_any _ _ _ _ _ _ _ _ _ _ _ _ _ _ _ _ _ _ l os L U _ (by have:=h6.below.size; omega) hoc hcm (H.below h6.below hU)).mono ?_
        rintro e w7 ⟨rfl,hb7⟩
        have h7:=h6.next hb7
        go_wp2_with fail
        refine hK.out _ _ ?_ (fun hHeld=>?_)
        · exact h7.box
        clear hK K
        try simp only [Act.put]
        refine listH (l2:=#[true,true,true,true,true,true,true,true,true,true,true,true,true,false,false]) (by kernel_rfl) ?_
        refine takeH (i:=13) (oi:=_) (v:=?vt7x13) 19 #[true,true,true,true,true,true,true,true,true,true,true,true,true,true,false] rfl (by kernel_rfl) (by kernel_rfl) (by kernel_rfl) rfl (by kernel_rfl) (fun _ _ _ h=>h) (Or.inl ⟨by rfl,?yt7x13⟩) (by assumption) ?rt7x13
        case yt7x13=>(intro w' hSw; (try dsimp only at hSw); have x0:=hSw.c0; have x1:=hSw.c1; have x2:=hSw.c2; have x3:=hSw.c3; have x4:=hSw.c4; have x5:=hSw.c5; have x6:=hSw.c6; have x7:=hSw.c7; have x8:=hSw.c8; go_simp; try with_reducible rfl)
        simp only [Act.put,sT,sS,sZ]
        refine wpAnyH_ready (rs:=[14]) (by kernel_rfl) (by simp) ?_
        refine AllReadyH.cons (o:=_) rfl (fun K hK=>?_) AllReadyH.nil
        go_simp
        refine hK.out _ _ ?_ (fun hHeld=>?_)
        · exact h7.box
        clear hK K
        try simp only [Act.put]
        refine listH (l2:=#[true,true,true,true,true,true,true,true,true,true,true,true,true,true,true]) (by kernel_rfl) ?_
        refine wpAnyH_done (by kernel_rfl) ?_ _
        go_wp2_with fail
        go_ret
        exact ⟨ret_bool (by rw [HV.out,t1]; simp),h7.below⟩
      · have hM0:=HeldM.new w 2 who seq q s ba bn bc oa on oc code ta tn tc 156
        go_enter Tryz.func104,Tryz.ntmps104
        go_upto_region 2 with fail
        have h2:=hM0.drew
        generalize (w.alloc (Obj.cells #[.int .i64 2,.int .i64 who,.int .i64 seq,.int .i64 q,.int .i64 s,.slice ba bn bc,.slice oa on oc,.int .i64 code,.slice ta tn tc] 156)) = W at *
        clear hM0
        refine wp_region_held_drew (S:=(fun W=>MBox W w.heap.size 2 who seq q s ba bn bc oa on oc code ta tn tc)) (by kernel_rfl) ?_ (fun hHeld=>?_)
        · exact h2.box
        refine listH (l2:=#[false,false,false,false,false,false,false,false,false,false,false,false,false,false,false]) (by kernel_rfl) ?_
        refine takeH (i:=0) (oi:=_) (v:=?vt8x0) 6 #[true,false,false,false,false,false,false,false,false,false,false,false,false,false,false] rfl (by kernel_rfl) (by kernel_rfl) (by kernel_rfl) rfl (by kernel_rfl) (fun _ _ _ h=>h) (Or.inl ⟨by rfl,?yt8x0⟩) (by assumption) ?rt8x0
        case yt8x0=>(intro w' hSw; (try dsimp only at hSw); have x0:=hSw.c0; have x1:=hSw.c1; have x2:=hSw.c2; have x3:=hSw.c3; have x4:=hSw.c4; have x5:=hSw.c5; have x6:=hSw.c6; have x7:=hSw.c7; have x8:=hSw.c8; go_simp; try with_reducible rfl)
        simp only [Act.put,sT,sS,sZ]
        refine wpAnyH_ready (rs:=[1]) (by kernel_rfl) (by simp) ?_
        refine AllReadyH.cons (o:=_) rfl (fun K hK=>?_) AllReadyH.nil
        go_simp
        refine (mw2 _).mono ?_
        rintro e w3 ⟨rfl,rfl⟩
        go_wp2_with fail
        refine hK.out _ _ ?_ (fun hHeld=>?_)
        · exact h2.box
        clear hK K
        try simp only [Act.put]
        refine listH (l2:=#[true,true,false,false,false,false,false,false,false,false,false,false,false,false,false]) (by kernel_rfl) ?_
        refine takeH (i:=2) (oi:=_) (v:=?vt8x2) 8 #[true,true,true,false,false,false,false,false,false,false,false,false,false,false,false] rfl (by kernel_rfl) (by kernel_rfl) (by kernel_rfl) rfl (by kernel_rfl) (fun _ _ _ h=>h) (Or.inl ⟨by rfl,?yt8x2⟩) (by assumption) ?rt8x2
        case yt8x2=>(intro w' hSw; (try dsimp only at hSw); have x0:=hSw.c0; have x1:=hSw.c1; have x2:=hSw.c2; have x3:=hSw.c3; have x4:=hSw.c4; have x5:=hSw.c5; have x6:=hSw.c6; have x7:=hSw.c7; have x8:=hSw.c8; go_simp; try with_reducible rfl)
        simp only [Act.put,sT,sS,sZ]
        refine takeH (i:=3) (oi:=_) (v:=?vt8x3) 9 #[true,true,true,true,false,false,false,false,false,false,false,false,false,false,false] rfl (by kernel_rfl) (by kernel_rfl) (by kernel_rfl) rfl (by kernel_rfl) (fun _ _ _ h=>h) (Or.inl ⟨by rfl,?yt8x3⟩) (by assumption) ?rt8x3
        case yt8x3=>(intro w' hSw; (try dsimp only at hSw); have x0:=hSw.c0; have x1:=hSw.c1; have x2:=hSw.c2; have x3:=hSw.c3; have x4:=hSw.c4; have x5:=hSw.c5; have x6:=hSw.c6; have x7:=hSw.c7; have x8:=hSw.c8; go_simp; try with_reducible rfl)
        simp only [Act.put,sT,sS,sZ]
        refine takeH (i:=4) (oi:=_) (v:=?vt8x4) 10 #[true,true,true,true,true,false,false,false,false,false,false,false,false,false,false] rfl (by kernel_rfl) (by kernel_rfl) (by kernel_rfl) rfl (by kernel_rfl) (fun _ _ _ h=>h) (Or.inl ⟨by rfl,?yt8x4⟩) (by assumption) ?rt8x4
        case yt8x4=>(intro w' hSw; (try dsimp only at hSw); have x0:=hSw.c0; have x1:=hSw.c1; have x2:=hSw.c2; have x3:=hSw.c3; have x4:=hSw.c4; have x5:=hSw.c5; have x6:=hSw.c6; have x7:=hSw.c7; have x8:=hSw.c8; go_simp; try with_reducible rfl)
        simp only [Act.put,sT,sS,sZ]
        refine wpAnyH_ready (rs:=[5]) (by kernel_rfl) (by simp) ?_
        refine AllReadyH.cons (o:=_) rfl (fun K hK=>?_) AllReadyH.nil
        go_simp
        refine (ownerOf_any _ _ _ _ _ _ _ _ _ _ _ _ _ _ _ _).mono ?_
        rintro e w4 ⟨rfl,hb4⟩
        have h4:=h2.next hb4
        go_wp2_with fail
        refine hK.out _ _ ?_ (fun hHeld=>?_)
        · exact h4.box
        clear hK K
        try simp only [Act.put]
        refine listH (l2:=#[true,true,true,true,true,true,false,false,false,false,false,false,false,false,false]) (by kernel_rfl) ?_
        refine wpAnyH_ready (rs:=[6]) (by kernel_rfl) (by simp) ?_
        refine AllReadyH.cons (o:=_) rfl (fun K hK=>?_) AllReadyH.nil
        go_simp
        refine (ownerOk_any _ _ _).mono ?_
        rintro e w5 ⟨rfl,hb5⟩
        have h5:=h4.next hb5
        rw [t1]
        go_wp2_with fail
        refine hK.out _ _ ?_ (fun hHeld=>?_)
        · exact h5.box
        clear hK K
        try simp only [Act.put]
        refine listH (l2:=#[true,true,true,true,true,true,true,false,false,false,false,false,false,false,false]) (by kernel_rfl) ?_
        refine takeH (i:=7) (oi:=_) (v:=?vt8x7) 13 #[true,true,true,true,true,true,true,true,false,false,false,false,false,false,false] rfl (by kernel_rfl) (by kernel_rfl) (by kernel_rfl) rfl (by kernel_rfl) (fun _ _ _ h=>h) (Or.inl ⟨by rfl,?yt8x7⟩) (by assumption) ?rt8x7
        case yt8x7=>(intro w' hSw; (try dsimp only at hSw); have x0:=hSw.c0; have x1:=hSw.c1; have x2:=hSw.c2; have x3:=hSw.c3; have x4:=hSw.c4; have x5:=hSw.c5; have x6:=hSw.c6; have x7:=hSw.c7; have x8:=hSw.c8; go_simp; try with_reducible rfl)
        simp only [Act.put,sT,sS,sZ]
        refine takeH (i:=8) (oi:=_) (v:=?vt8x8) 14 #[true,true,true,true,true,true,true,true,true,false,false,false,false,false,false] rfl (by kernel_rfl) (by kernel_rfl) (by kernel_rfl) rfl (by kernel_rfl) (fun _ _ _ h=>h) (Or.inl ⟨by rfl,?yt8x8⟩) (by assumption) ?rt8x8
        case yt8x8=>(intro w' hSw; (try dsimp only at hSw); have x0:=hSw.c0; have x1:=hSw.c1; have x2:=hSw.c2; have x3:=hSw.c3; have x4:=hSw.c4; have x5:=hSw.c5; have x6:=hSw.c6; have x7:=hSw.c7; have x8:=hSw.c8; go_simp; try with_reducible rfl)
        simp only [Act.put,sT,sS,sZ]
        refine takeH (i:=9) (oi:=_) (v:=?vt8x9) 15 #[true,true,true,true,true,true,true,true,true,true,false,false,false,false,false] rfl (by kernel_rfl) (by kernel_rfl) (by kernel_rfl) rfl (by kernel_rfl) (fun _ _ _ h=>h) (Or.inl ⟨by rfl,?yt8x9⟩) (by assumption) ?rt8x9
        case yt8x9=>(intro w' hSw; (try dsimp only at hSw); have x0:=hSw.c0; have x1:=hSw.c1; have x2:=hSw.c2; have x3:=hSw.c3; have x4:=hSw.c4; have x5:=hSw.c5; have x6:=hSw.c6; have x7:=hSw.c7; have x8:=hSw.c8; go_simp; try with_reducible rfl)
        simp only [Act.put,sT,sS,sZ]
        refine takeH (i:=11) (oi:=_) (v:=?vt8x11) 17 #[true,true,true,true,true,true,true,true,true,true,false,true,false,false,false] rfl (by kernel_rfl) (by kernel_rfl) (by kernel_rfl) rfl (by kernel_rfl) (fun _ _ _ h=>h) (Or.inl ⟨by rfl,?yt8x11⟩) (by assumption) ?rt8x11
        case yt8x11=>(intro w' hSw; (try dsimp only at hSw); have x0:=hSw.c0; have x1:=hSw.c1; have x2:=hSw.c2; have x3:=hSw.c3; have x4:=hSw.c4; have x5:=hSw.c5; have x6:=hSw.c6; have x7:=hSw.c7; have x8:=hSw.c8; go_simp; try with_reducible rfl)
        simp only [Act.put,sT,sS,sZ]
        refine wpAnyH_ready (rs:=[10]) (by kernel_rfl) (by simp) ?_
        refine AllReadyH.cons (o:=_) rfl (fun K hK=>?_) AllReadyH.nil
        go_simp
        refine (parts_any 2 _).mono ?_
        rintro e w6 ⟨rfl,hb6⟩
        have h6:=h5.next hb6
        go_wp2_with fail
        refine hK.out _ _ ?_ (fun hHeld=>?_)
        · exact h6.box
        clear hK K
        try simp only [Act.put]
        refine listH (l2:=#[true,true,true,true,true,true,true,true,true,true,true,true,false,false,false]) (by kernel_rfl) ?_
        refine wpAnyH_ready (rs:=[12]) (by kernel_rfl) (by simp) ?_
        refine AllReadyH.cons (o:=_) rfl (fun K hK=>?_) AllReadyH.nil
        go_simp
        refine (msgPartsOk_any _ _ _ _ _ _ _ _ _ _ _ _ _ _ _ _ _ _ l os L U _ (by have:=h6.below.size; omega) hoc hcm (H.below h6.below hU)).mono ?_
        rintro e w7 ⟨rfl,hb7⟩
        have h7:=h6.next hb7
        go_wp2_with fail
        refine hK.out _ _ ?_ (fun hHeld=>?_)
        · exact h7.box
        clear hK K
        try simp only [Act.put]
        refine listH (l2:=#[true,true,true,true,true,true,true,true,true,true,true,true,true,false,false]) (by kernel_rfl) ?_
        refine takeH (i:=13) (oi:=_) (v:=?vt8x13) 19 #[true,true,true,true,true,true,true,true,true,true,true,true,true,true,false] rfl (by kernel_rfl) (by kernel_rfl) (by kernel_rfl) rfl (by kernel_rfl) (fun _ _ _ h=>h) (Or.inl ⟨by rfl,?yt8x13⟩) (by assumption) ?rt8x13
        case yt8x13=>(intro w' hSw; (try dsimp only at hSw); have x0:=hSw.c0; have x1:=hSw.c1; have x2:=hSw.c2; have x3:=hSw.c3; have x4:=hSw.c4; have x5:=hSw.c5; have x6:=hSw.c6; have x7:=hSw.c7; have x8:=hSw.c8; go_simp; try with_reducible rfl)
        simp only [Act.put,sT,sS,sZ]
        refine wpAnyH_ready (rs:=[14]) (by kernel_rfl) (by simp) ?_
        refine AllReadyH.cons (o:=_) rfl (fun K hK=>?_) AllReadyH.nil
        go_simp
        refine hK.out _ _ ?_ (fun hHeld=>?_)
        · exact h7.box
        clear hK K
        try simp only [Act.put]
        refine listH (l2:=#[true,true,true,true,true,true,true,true,true,true,true,true,true,true,true]) (by kernel_rfl) ?_
        refine wpAnyH_done (by kernel_rfl) ?_ _
        go_wp2_with fail
        go_ret
        exact ⟨ret_bool (by rw [HV.out,t1]; simp),h7.below⟩
      · have hM0:=HeldM.new w 3 who seq q s ba bn bc oa on oc code ta tn tc 156
        go_enter Tryz.func104,Tryz.ntmps104
        go_upto_region 2 with fail
        have h2:=hM0.drew
        generalize (w.alloc (Obj.cells #[.int .i64 3,.int .i64 who,.int .i64 seq,.int .i64 q,.int .i64 s,.slice ba bn bc,.slice oa on oc,.int .i64 code,.slice ta tn tc] 156)) = W at *
        clear hM0
        refine wp_region_held_drew (S:=(fun W=>MBox W w.heap.size 3 who seq q s ba bn bc oa on oc code ta tn tc)) (by kernel_rfl) ?_ (fun hHeld=>?_)
        · exact h2.box
        refine listH (l2:=#[false,false,false,false,false,false,false,false,false,false,false,false,false,false,false]) (by kernel_rfl) ?_
        refine takeH (i:=0) (oi:=_) (v:=?vt9x0) 6 #[true,false,false,false,false,false,false,false,false,false,false,false,false,false,false] rfl (by kernel_rfl) (by kernel_rfl) (by kernel_rfl) rfl (by kernel_rfl) (fun _ _ _ h=>h) (Or.inl ⟨by rfl,?yt9x0⟩) (by assumption) ?rt9x0
        case yt9x0=>(intro w' hSw; (try dsimp only at hSw); have x0:=hSw.c0; have x1:=hSw.c1; have x2:=hSw.c2; have x3:=hSw.c3; have x4:=hSw.c4; have x5:=hSw.c5; have x6:=hSw.c6; have x7:=hSw.c7; have x8:=hSw.c8; go_simp; try with_reducible rfl)
        simp only [Act.put,sT,sS,sZ]
        refine wpAnyH_ready (rs:=[1]) (by kernel_rfl) (by simp) ?_
        refine AllReadyH.cons (o:=_) rfl (fun K hK=>?_) AllReadyH.nil
        go_simp
        refine (mw3 _).mono ?_
        rintro e w3 ⟨rfl,rfl⟩
        go_wp2_with fail
        refine hK.out _ _ ?_ (fun hHeld=>?_)
        · exact h2.box
        clear hK K
        try simp only [Act.put]
        refine listH (l2:=#[true,true,false,false,false,false,false,false,false,false,false,false,false,false,false]) (by kernel_rfl) ?_
        refine takeH (i:=2) (oi:=_) (v:=?vt9x2) 8 #[true,true,true,false,false,false,false,false,false,false,false,false,false,false,false] rfl (by kernel_rfl) (by kernel_rfl) (by kernel_rfl) rfl (by kernel_rfl) (fun _ _ _ h=>h) (Or.inl ⟨by rfl,?yt9x2⟩) (by assumption) ?rt9x2
        case yt9x2=>(intro w' hSw; (try dsimp only at hSw); have x0:=hSw.c0; have x1:=hSw.c1; have x2:=hSw.c2; have x3:=hSw.c3; have x4:=hSw.c4; have x5:=hSw.c5; have x6:=hSw.c6; have x7:=hSw.c7; have x8:=hSw.c8; go_simp; try with_reducible rfl)
        simp only [Act.put,sT,sS,sZ]
        refine takeH (i:=3) (oi:=_) (v:=?vt9x3) 9 #[true,true,true,true,false,false,false,false,false,false,false,false,false,false,false] rfl (by kernel_rfl) (by kernel_rfl) (by kernel_rfl) rfl (by kernel_rfl) (fun _ _ _ h=>h) (Or.inl ⟨by rfl,?yt9x3⟩) (by assumption) ?rt9x3
        case yt9x3=>(intro w' hSw; (try dsimp only at hSw); have x0:=hSw.c0; have x1:=hSw.c1; have x2:=hSw.c2; have x3:=hSw.c3; have x4:=hSw.c4; have x5:=hSw.c5; have x6:=hSw.c6; have x7:=hSw.c7; have x8:=hSw.c8; go_simp; try with_reducible rfl)
        simp only [Act.put,sT,sS,sZ]
        refine takeH (i:=4) (oi:=_) (v:=?vt9x4) 10 #[true,true,true,true,true,false,false,false,false,false,false,false,false,false,false] rfl (by kernel_rfl) (by kernel_rfl) (by kernel_rfl) rfl (by kernel_rfl) (fun _ _ _ h=>h) (Or.inl ⟨by rfl,?yt9x4⟩) (by assumption) ?rt9x4
        case yt9x4=>(intro w' hSw; (try dsimp only at hSw); have x0:=hSw.c0; have x1:=hSw.c1; have x2:=hSw.c2; have x3:=hSw.c3; have x4:=hSw.c4; have x5:=hSw.c5; have x6:=hSw.c6; have x7:=hSw.c7; have x8:=hSw.c8; go_simp; try with_reducible rfl)
        simp only [Act.put,sT,sS,sZ]
        refine wpAnyH_ready (rs:=[5]) (by kernel_rfl) (by simp) ?_
        refine AllReadyH.cons (o:=_) rfl (fun K hK=>?_) AllReadyH.nil
        go_simp
        refine (ownerOf_any _ _ _ _ _ _ _ _ _ _ _ _ _ _ _ _).mono ?_
        rintro e w4 ⟨rfl,hb4⟩
        have h4:=h2.next hb4
        go_wp2_with fail
        refine hK.out _ _ ?_ (fun hHeld=>?_)
        · exact h4.box
        clear hK K
        try simp only [Act.put]
        refine listH (l2:=#[true,true,true,true,true,true,false,false,false,false,false,false,false,false,false]) (by kernel_rfl) ?_
        refine wpAnyH_ready (rs:=[6]) (by kernel_rfl) (by simp) ?_
        refine AllReadyH.cons (o:=_) rfl (fun K hK=>?_) AllReadyH.nil
        go_simp
        refine (ownerOk_any _ _ _).mono ?_
        rintro e w5 ⟨rfl,hb5⟩
        have h5:=h4.next hb5
        rw [t1]
        go_wp2_with fail
        refine hK.out _ _ ?_ (fun hHeld=>?_)
        · exact h5.box
        clear hK K
        try simp only [Act.put]
        refine listH (l2:=#[true,true,true,true,true,true,true,false,false,false,false,false,false,false,false]) (by kernel_rfl) ?_
        refine takeH (i:=7) (oi:=_) (v:=?vt9x7) 13 #[true,true,true,true,true,true,true,true,false,false,false,false,false,false,false] rfl (by kernel_rfl) (by kernel_rfl) (by kernel_rfl) rfl (by kernel_rfl) (fun _ _ _ h=>h) (Or.inl ⟨by rfl,?yt9x7⟩) (by assumption) ?rt9x7
        case yt9x7=>(intro w' hSw; (try dsimp only at hSw); have x0:=hSw.c0; have x1:=hSw.c1; have x2:=hSw.c2; have x3:=hSw.c3; have x4:=hSw.c4; have x5:=hSw.c5; have x6:=hSw.c6; have x7:=hSw.c7; have x8:=hSw.c8; go_simp; try with_reducible rfl)
        simp only [Act.put,sT,sS,sZ]
        refine takeH (i:=8) (oi:=_) (v:=?vt9x8) 14 #[true,true,true,true,true,true,true,true,true,false,false,false,false,false,false] rfl (by kernel_rfl) (by kernel_rfl) (by kernel_rfl) rfl (by kernel_rfl) (fun _ _ _ h=>h) (Or.inl ⟨by rfl,?yt9x8⟩) (by assumption) ?rt9x8
        case yt9x8=>(intro w' hSw; (try dsimp only at hSw); have x0:=hSw.c0; have x1:=hSw.c1; have x2:=hSw.c2; have x3:=hSw.c3; have x4:=hSw.c4; have x5:=hSw.c5; have x6:=hSw.c6; have x7:=hSw.c7; have x8:=hSw.c8; go_simp; try with_reducible rfl)
        simp only [Act.put,sT,sS,sZ]
        refine takeH (i:=9) (oi:=_) (v:=?vt9x9) 15 #[true,true,true,true,true,true,true,true,true,true,false,false,false,false,false] rfl (by kernel_rfl) (by kernel_rfl) (by kernel_rfl) rfl (by kernel_rfl) (fun _ _ _ h=>h) (Or.inl ⟨by rfl,?yt9x9⟩) (by assumption) ?rt9x9
        case yt9x9=>(intro w' hSw; (try dsimp only at hSw); have x0:=hSw.c0; have x1:=hSw.c1; have x2:=hSw.c2; have x3:=hSw.c3; have x4:=hSw.c4; have x5:=hSw.c5; have x6:=hSw.c6; have x7:=hSw.c7; have x8:=hSw.c8; go_simp; try with_reducible rfl)
        simp only [Act.put,sT,sS,sZ]
        refine takeH (i:=11) (oi:=_) (v:=?vt9x11) 17 #[true,true,true,true,true,true,true,true,true,true,false,true,false,false,false] rfl (by kernel_rfl) (by kernel_rfl) (by kernel_rfl) rfl (by kernel_rfl) (fun _ _ _ h=>h) (Or.inl ⟨by rfl,?yt9x11⟩) (by assumption) ?rt9x11
        case yt9x11=>(intro w' hSw; (try dsimp only at hSw); have x0:=hSw.c0; have x1:=hSw.c1; have x2:=hSw.c2; have x3:=hSw.c3; have x4:=hSw.c4; have x5:=hSw.c5; have x6:=hSw.c6; have x7:=hSw.c7; have x8:=hSw.c8; go_simp; try with_reducible rfl)
        simp only [Act.put,sT,sS,sZ]
        refine wpAnyH_ready (rs:=[10]) (by kernel_rfl) (by simp) ?_
        refine AllReadyH.cons (o:=_) rfl (fun K hK=>?_) AllReadyH.nil
        go_simp
        refine (parts_any 3 _).mono ?_
        rintro e w6 ⟨rfl,hb6⟩
        have h6:=h5.next hb6
        go_wp2_with fail
        refine hK.out _ _ ?_ (fun hHeld=>?_)
        · exact h6.box
        clear hK K
        try simp only [Act.put]
        refine listH (l2:=#[true,true,true,true,true,true,true,true,true,true,true,true,false,false,false]) (by kernel_rfl) ?_
        refine wpAnyH_ready (rs:=[12]) (by kernel_rfl) (by simp) ?_
        refine AllReadyH.cons (o:=_) rfl (fun K hK=>?_) AllReadyH.nil
        go_simp
        refine (msgPartsOk_any _ _ _ _ _ _ _ _ _ _ _ _ _ _ _ _ _ _ l os L U _ (by have:=h6.below.size; omega) hoc hcm (H.below h6.below hU)).mono ?_
        rintro e w7 ⟨rfl,hb7⟩
        have h7:=h6.next hb7
        go_wp2_with fail
        refine hK.out _ _ ?_ (fun hHeld=>?_)
        · exact h7.box
        clear hK K
        try simp only [Act.put]
        refine listH (l2:=#[true,true,true,true,true,true,true,true,true,true,true,true,true,false,false]) (by kernel_rfl) ?_
        refine takeH (i:=13) (oi:=_) (v:=?vt9x13) 19 #[true,true,true,true,true,true,true,true,true,true,true,true,true,true,false] rfl (by kernel_rfl) (by kernel_rfl) (by kernel_rfl) rfl (by kernel_rfl) (fun _ _ _ h=>h) (Or.inl ⟨by rfl,?yt9x13⟩) (by assumption) ?rt9x13
        case yt9x13=>(intro w' hSw; (try dsimp only at hSw); have x0:=hSw.c0; have x1:=hSw.c1; have x2:=hSw.c2; have x3:=hSw.c3; have x4:=hSw.c4; have x5:=hSw.c5; have x6:=hSw.c6; have x7:=hSw.c7; have x8:=hSw.c8; go_simp; try with_reducible rfl)
        simp only [Act.put,sT,sS,sZ]
        refine wpAnyH_ready (rs:=[14]) (by kernel_rfl) (by simp) ?_
        refine AllReadyH.cons (o:=_) rfl (fun K hK=>?_) AllReadyH.nil
        go_simp
        refine hK.out _ _ ?_ (fun hHeld=>?_)
        · exact h7.box
        clear hK K
        try simp only [Act.put]
        refine listH (l2:=#[true,true,true,true,true,true,true,true,true,true,true,true,true,true,true]) (by kernel_rfl) ?_
        refine wpAnyH_done (by kernel_rfl) ?_ _
        go_wp2_with fail
        go_ret
        exact ⟨ret_bool (by rw [HV.out,t1]; simp),h7.below⟩
      · have hM0:=HeldM.new w 4 who seq q s ba bn bc oa on oc code ta tn tc 156
        go_enter Tryz.func104,Tryz.ntmps104
        go_upto_region 2 with fail
        have h2:=hM0.drew
        generalize (w.alloc (Obj.cells #[.int .i64 4,.int .i64 who,.int .i64 seq,.int .i64 q,.int .i64 s,.slice ba bn bc,.slice oa on oc,.int .i64 code,.slice ta tn tc] 156)) = W at *
        clear hM0
        refine wp_region_held_drew (S:=(fun W=>MBox W w.heap.size 4 who seq q s ba bn bc oa on oc code ta tn tc)) (by kernel_rfl) ?_ (fun hHeld=>?_)
        · exact h2.box
        refine listH (l2:=#[false,false,false,false,false,false,false,false,false,false,false,false,false,false,false]) (by kernel_rfl) ?_
        refine takeH (i:=0) (oi:=_) (v:=?vt10x0) 6 #[true,false,false,false,false,false,false,false,false,false,false,false,false,false,false] rfl (by kernel_rfl) (by kernel_rfl) (by kernel_rfl) rfl (by kernel_rfl) (fun _ _ _ h=>h) (Or.inl ⟨by rfl,?yt10x0⟩) (by assumption) ?rt10x0
        case yt10x0=>(intro w' hSw; (try dsimp only at hSw); have x0:=hSw.c0; have x1:=hSw.c1; have x2:=hSw.c2; have x3:=hSw.c3; have x4:=hSw.c4; have x5:=hSw.c5; have x6:=hSw.c6; have x7:=hSw.c7; have x8:=hSw.c8; go_simp; try with_reducible rfl)
        simp only [Act.put,sT,sS,sZ]
        refine wpAnyH_ready (rs:=[1]) (by kernel_rfl) (by simp) ?_
        refine AllReadyH.cons (o:=_) rfl (fun K hK=>?_) AllReadyH.nil
        go_simp
        refine (mw4 _).mono ?_
        rintro e w3 ⟨rfl,rfl⟩
        go_wp2_with fail
        refine hK.out _ _ ?_ (fun hHeld=>?_)
        · exact h2.box
        clear hK K
        try simp only [Act.put]
        refine listH (l2:=#[true,true,false,false,false,false,false,false,false,false,false,false,false,false,false]) (by kernel_rfl) ?_
        refine takeH (i:=2) (oi:=_) (v:=?vt10x2) 8 #[true,true,true,false,false,false,false,false,false,false,false,false,false,false,false] rfl (by kernel_rfl) (by kernel_rfl) (by kernel_rfl) rfl (by kernel_rfl) (fun _ _ _ h=>h) (Or.inl ⟨by rfl,?yt10x2⟩) (by assumption) ?rt10x2
        case yt10x2=>(intro w' hSw; (try dsimp only at hSw); have x0:=hSw.c0; have x1:=hSw.c1; have x2:=hSw.c2; have x3:=hSw.c3; have x4:=hSw.c4; have x5:=hSw.c5; have x6:=hSw.c6; have x7:=hSw.c7; have x8:=hSw.c8; go_simp; try with_reducible rfl)
        simp only [Act.put,sT,sS,sZ]
        refine takeH (i:=3) (oi:=_) (v:=?vt10x3) 9 #[true,true,true,true,false,false,false,false,false,false,false,false,false,false,false] rfl (by kernel_rfl) (by kernel_rfl) (by kernel_rfl) rfl (by kernel_rfl) (fun _ _ _ h=>h) (Or.inl ⟨by rfl,?yt10x3⟩) (by assumption) ?rt10x3
        case yt10x3=>(intro w' hSw; (try dsimp only at hSw); have x0:=hSw.c0; have x1:=hSw.c1; have x2:=hSw.c2; have x3:=hSw.c3; have x4:=hSw.c4; have x5:=hSw.c5; have x6:=hSw.c6; have x7:=hSw.c7; have x8:=hSw.c8; go_simp; try with_reducible rfl)
        simp only [Act.put,sT,sS,sZ]
        refine takeH (i:=4) (oi:=_) (v:=?vt10x4) 10 #[true,true,true,true,true,false,false,false,false,false,false,false,false,false,false] rfl (by kernel_rfl) (by kernel_rfl) (by kernel_rfl) rfl (by kernel_rfl) (fun _ _ _ h=>h) (Or.inl ⟨by rfl,?yt10x4⟩) (by assumption) ?rt10x4
        case yt10x4=>(intro w' hSw; (try dsimp only at hSw); have x0:=hSw.c0; have x1:=hSw.c1; have x2:=hSw.c2; have x3:=hSw.c3; have x4:=hSw.c4; have x5:=hSw.c5; have x6:=hSw.c6; have x7:=hSw.c7; have x8:=hSw.c8; go_simp; try with_reducible rfl)
        simp only [Act.put,sT,sS,sZ]
        refine wpAnyH_ready (rs:=[5]) (by kernel_rfl) (by simp) ?_
        refine AllReadyH.cons (o:=_) rfl (fun K hK=>?_) AllReadyH.nil
        go_simp
        refine (ownerOf_any _ _ _ _ _ _ _ _ _ _ _ _ _ _ _ _).mono ?_
        rintro e w4 ⟨rfl,hb4⟩
        have h4:=h2.next hb4
        go_wp2_with fail
        refine hK.out _ _ ?_ (fun hHeld=>?_)
        · exact h4.box
        clear hK K
        try simp only [Act.put]
        refine listH (l2:=#[true,true,true,true,true,true,false,false,false,false,false,false,false,false,false]) (by kernel_rfl) ?_
        refine wpAnyH_ready (rs:=[6]) (by kernel_rfl) (by simp) ?_
        refine AllReadyH.cons (o:=_) rfl (fun K hK=>?_) AllReadyH.nil
        go_simp
        refine (ownerOk_any _ _ _).mono ?_
        rintro e w5 ⟨rfl,hb5⟩
        have h5:=h4.next hb5
        rw [t1]
        go_wp2_with fail
        refine hK.out _ _ ?_ (fun hHeld=>?_)
        · exact h5.box
        clear hK K
        try simp only [Act.put]
        refine listH (l2:=#[true,true,true,true,true,true,true,false,false,false,false,false,false,false,false]) (by kernel_rfl) ?_
        refine takeH (i:=7) (oi:=_) (v:=?vt10x7) 13 #[true,true,true,true,true,true,true,true,false,false,false,false,false,false,false] rfl (by kernel_rfl) (by kernel_rfl) (by kernel_rfl) rfl (by kernel_rfl) (fun _ _ _ h=>h) (Or.inl ⟨by rfl,?yt10x7⟩) (by assumption) ?rt10x7
        case yt10x7=>(intro w' hSw; (try dsimp only at hSw); have x0:=hSw.c0; have x1:=hSw.c1; have x2:=hSw.c2; have x3:=hSw.c3; have x4:=hSw.c4; have x5:=hSw.c5; have x6:=hSw.c6; have x7:=hSw.c7; have x8:=hSw.c8; go_simp; try with_reducible rfl)
        simp only [Act.put,sT,sS,sZ]
        refine takeH (i:=8) (oi:=_) (v:=?vt10x8) 14 #[true,true,true,true,true,true,true,true,true,false,false,false,false,false,false] rfl (by kernel_rfl) (by kernel_rfl) (by kernel_rfl) rfl (by kernel_rfl) (fun _ _ _ h=>h) (Or.inl ⟨by rfl,?yt10x8⟩) (by assumption) ?rt10x8
        case yt10x8=>(intro w' hSw; (try dsimp only at hSw); have x0:=hSw.c0; have x1:=hSw.c1; have x2:=hSw.c2; have x3:=hSw.c3; have x4:=hSw.c4; have x5:=hSw.c5; have x6:=hSw.c6; have x7:=hSw.c7; have x8:=hSw.c8; go_simp; try with_reducible rfl)
        simp only [Act.put,sT,sS,sZ]
        refine takeH (i:=9) (oi:=_) (v:=?vt10x9) 15 #[true,true,true,true,true,true,true,true,true,true,false,false,false,false,false] rfl (by kernel_rfl) (by kernel_rfl) (by kernel_rfl) rfl (by kernel_rfl) (fun _ _ _ h=>h) (Or.inl ⟨by rfl,?yt10x9⟩) (by assumption) ?rt10x9
        case yt10x9=>(intro w' hSw; (try dsimp only at hSw); have x0:=hSw.c0; have x1:=hSw.c1; have x2:=hSw.c2; have x3:=hSw.c3; have x4:=hSw.c4; have x5:=hSw.c5; have x6:=hSw.c6; have x7:=hSw.c7; have x8:=hSw.c8; go_simp; try with_reducible rfl)
        simp only [Act.put,sT,sS,sZ]
        refine takeH (i:=11) (oi:=_) (v:=?vt10x11) 17 #[true,true,true,true,true,true,true,true,true,true,false,true,false,false,false] rfl (by kernel_rfl) (by kernel_rfl) (by kernel_rfl) rfl (by kernel_rfl) (fun _ _ _ h=>h) (Or.inl ⟨by rfl,?yt10x11⟩) (by assumption) ?rt10x11
        case yt10x11=>(intro w' hSw; (try dsimp only at hSw); have x0:=hSw.c0; have x1:=hSw.c1; have x2:=hSw.c2; have x3:=hSw.c3; have x4:=hSw.c4; have x5:=hSw.c5; have x6:=hSw.c6; have x7:=hSw.c7; have x8:=hSw.c8; go_simp; try with_reducible rfl)
        simp only [Act.put,sT,sS,sZ]
        refine wpAnyH_ready (rs:=[10]) (by kernel_rfl) (by simp) ?_
        refine AllReadyH.cons (o:=_) rfl (fun K hK=>?_) AllReadyH.nil
        go_simp
        refine (parts_any 4 _).mono ?_
        rintro e w6 ⟨rfl,hb6⟩
        have h6:=h5.next hb6
        go_wp2_with fail
        refine hK.out _ _ ?_ (fun hHeld=>?_)
        · exact h6.box
        clear hK K
        try simp only [Act.put]
        refine listH (l2:=#[true,true,true,true,true,true,true,true,true,true,true,true,false,false,false]) (by kernel_rfl) ?_
        refine wpAnyH_ready (rs:=[12]) (by kernel_rfl) (by simp) ?_
        refine AllReadyH.cons (o:=_) rfl (fun K hK=>?_) AllReadyH.nil
        go_simp
        refine (msgPartsOk_any _ _ _ _ _ _ _ _ _ _ _ _ _ _ _ _ _ _ l os L U _ (by have:=h6.below.size; omega) hoc hcm (H.below h6.below hU)).mono ?_
        rintro e w7 ⟨rfl,hb7⟩
        have h7:=h6.next hb7
        go_wp2_with fail
        refine hK.out _ _ ?_ (fun hHeld=>?_)
        · exact h7.box
        clear hK K
        try simp only [Act.put]
        refine listH (l2:=#[true,true,true,true,true,true,true,true,true,true,true,true,true,false,false]) (by kernel_rfl) ?_
        refine takeH (i:=13) (oi:=_) (v:=?vt10x13) 19 #[true,true,true,true,true,true,true,true,true,true,true,true,true,true,false] rfl (by kernel_rfl) (by kernel_rfl) (by kernel_rfl) rfl (by kernel_rfl) (fun _ _ _ h=>h) (Or.inl ⟨by rfl,?yt10x13⟩) (by assumption) ?rt10x13
        case yt10x13=>(intro w' hSw; (try dsimp only at hSw); have x0:=hSw.c0; have x1:=hSw.c1; have x2:=hSw.c2; have x3:=hSw.c3; have x4:=hSw.c4; have x5:=hSw.c5; have x6:=hSw.c6; have x7:=hSw.c7; have x8:=hSw.c8; go_simp; try with_reducible rfl)
        simp only [Act.put,sT,sS,sZ]
        refine wpAnyH_ready (rs:=[14]) (by kernel_rfl) (by simp) ?_
        refine AllReadyH.cons (o:=_) rfl (fun K hK=>?_) AllReadyH.nil
        go_simp
        refine hK.out _ _ ?_ (fun hHeld=>?_)
        · exact h7.box
        clear hK K
        try simp only [Act.put]
        refine listH (l2:=#[true,true,true,true,true,true,true,true,true,true,true,true,true,true,true]) (by kernel_rfl) ?_
        refine wpAnyH_done (by kernel_rfl) ?_ _
        go_wp2_with fail
        go_ret
        exact ⟨ret_bool (by rw [HV.out,t1]; simp),h7.below⟩
  · have HV : Hid (msgOk k who seq code l os = false):=by show _ = _; have e : kindB k = false:=(by simp [kindB]; omega); simp [msgOk,e]
    have mw0x:=@mw0 k (by simp; omega) (by simp; omega) (by simp; omega) (by simp; omega)
    clear hk
    have hM0:=HeldM.new w k who seq q s ba bn bc oa on oc code ta tn tc 156
    go_enter Tryz.func104,Tryz.ntmps104
    go_upto_region 2 with fail
    have h2:=hM0.drew
    generalize (w.alloc (Obj.cells #[.int .i64 k,.int .i64 who,.int .i64 seq,.int .i64 q,.int .i64 s,.slice ba bn bc,.slice oa on oc,.int .i64 code,.slice ta tn tc] 156)) = W at *
    clear hM0
    refine wp_region_held_drew (S:=(fun W=>MBox W w.heap.size k who seq q s ba bn bc oa on oc code ta tn tc)) (by kernel_rfl) ?_ (fun hHeld=>?_)
    · exact h2.box
    refine listH (l2:=#[false,false,false,false,false,false,false,false,false,false,false,false,false,false,false]) (by kernel_rfl) ?_
    refine takeH (i:=0) (oi:=_) (v:=?vt11x0) 6 #[true,false,false,false,false,false,false,false,false,false,false,false,false,false,false] rfl (by kernel_rfl) (by kernel_rfl) (by kernel_rfl) rfl (by kernel_rfl) (fun _ _ _ h=>h) (Or.inl ⟨by rfl,?yt11x0⟩) (by assumption) ?rt11x0
    case yt11x0=>(intro w' hSw; (try dsimp only at hSw); have x0:=hSw.c0; have x1:=hSw.c1; have x2:=hSw.c2; have x3:=hSw.c3; have x4:=hSw.c4; have x5:=hSw.c5; have x6:=hSw.c6; have x7:=hSw.c7; have x8:=hSw.c8; go_simp; try with_reducible rfl)
    simp only [Act.put,sT,sS,sZ]
    refine wpAnyH_ready (rs:=[1]) (by kernel_rfl) (by simp) ?_
    refine AllReadyH.cons (o:=_) rfl (fun K hK=>?_) AllReadyH.nil
    go_simp
    refine (mw0x _).mono ?_
    rintro e w3 ⟨rfl,rfl⟩
    go_wp2_with fail
    refine hK.out _ _ ?_ (fun hHeld=>?_)
    · exact h2.box
    clear hK K
    try simp only [Act.put]
    refine listH (l2:=#[true,true,false,false,false,false,false,false,false,false,false,false,false,false,false]) (by kernel_rfl) ?_
    refine takeH (i:=2) (oi:=_) (v:=?vt11x2) 8 #[true,true,true,false,false,false,false,false,false,false,false,false,false,false,false] rfl (by kernel_rfl) (by kernel_rfl) (by kernel_rfl) rfl (by kernel_rfl) (fun _ _ _ h=>h) (Or.inl ⟨by rfl,?yt11x2⟩) (by assumption) ?rt11x2
    case yt11x2=>(intro w' hSw; (try dsimp only at hSw); have x0:=hSw.c0; have x1:=hSw.c1; have x2:=hSw.c2; have x3:=hSw.c3; have x4:=hSw.c4; have x5:=hSw.c5; have x6:=hSw.c6; have x7:=hSw.c7; have x8:=hSw.c8; go_simp; try with_reducible rfl)
    simp only [Act.put,sT,sS,sZ]
    refine takeH (i:=3) (oi:=_) (v:=?vt11x3) 9 #[true,true,true,true,false,false,false,false,false,false,false,false,false,false,false] rfl (by kernel_rfl) (by kernel_rfl) (by kernel_rfl) rfl (by kernel_rfl) (fun _ _ _ h=>h) (Or.inl ⟨by rfl,?yt11x3⟩) (by assumption) ?rt11x3
    case yt11x3=>(intro w' hSw; (try dsimp only at hSw); have x0:=hSw.c0; have x1:=hSw.c1; have x2:=hSw.c2; have x3:=hSw.c3; have x4:=hSw.c4; have x5:=hSw.c5; have x6:=hSw.c6; have x7:=hSw.c7; have x8:=hSw.c8; go_simp; try with_reducible rfl)
    simp only [Act.put,sT,sS,sZ]
    refine takeH (i:=4) (oi:=_) (v:=undef) 10 #[true,true,true,true,true,false,false,false,false,false,false,false,false,false,false] rfl (by kernel_rfl) (by kernel_rfl) (by kernel_rfl) rfl (by kernel_rfl) (fun _ _ _ h=>h) (Or.inr ⟨by rfl,rfl⟩) (by assumption) ?rt11x4
    simp only [Act.put,sT,sS,sZ]
    refine takeH (i:=5) (oi:=_) (v:=undef) 11 #[true,true,true,true,true,true,false,false,false,false,false,false,false,false,false] rfl (by kernel_rfl) (by kernel_rfl) (by kernel_rfl) rfl (by kernel_rfl) (fun _ _ _ h=>h) (Or.inr ⟨by rfl,rfl⟩) (by assumption) ?rt11x5
    simp only [Act.put,sT,sS,sZ]
    refine takeH (i:=6) (oi:=_) (v:=undef) 12 #[true,true,true,true,true,true,true,false,false,false,false,false,false,false,false] rfl (by kernel_rfl) (by kernel_rfl) (by kernel_rfl) rfl (by kernel_rfl) (fun _ _ _ h=>h) (Or.inr ⟨by rfl,rfl⟩) (by assumption) ?rt11x6
    simp only [Act.put,sT,sS,sZ]
    refine takeH (i:=7) (oi:=_) (v:=?vt11x7) 13 #[true,true,true,true,true,true,true,true,false,false,false,false,false,false,false] rfl (by kernel_rfl) (by kernel_rfl) (by kernel_rfl) rfl (by kernel_rfl) (fun _ _ _ h=>h) (Or.inl ⟨by rfl,?yt11x7⟩) (by assumption) ?rt11x7
    case yt11x7=>(intro w' hSw; (try dsimp only at hSw); have x0:=hSw.c0; have x1:=hSw.c1; have x2:=hSw.c2; have x3:=hSw.c3; have x4:=hSw.c4; have x5:=hSw.c5; have x6:=hSw.c6; have x7:=hSw.c7; have x8:=hSw.c8; go_simp; try with_reducible rfl)
    simp only [Act.put,sT,sS,sZ]
    refine takeH (i:=8) (oi:=_) (v:=?vt11x8) 14 #[true,true,true,true,true,true,true,true,true,false,false,false,false,false,false] rfl (by kernel_rfl) (by kernel_rfl) (by kernel_rfl) rfl (by kernel_rfl) (fun _ _ _ h=>h) (Or.inl ⟨by rfl,?yt11x8⟩) (by assumption) ?rt11x8
    case yt11x8=>(intro w' hSw; (try dsimp only at hSw); have x0:=hSw.c0; have x1:=hSw.c1; have x2:=hSw.c2; have x3:=hSw.c3; have x4:=hSw.c4; have x5:=hSw.c5; have x6:=hSw.c6; have x7:=hSw.c7; have x8:=hSw.c8; go_simp; try with_reducible rfl)
    simp only [Act.put,sT,sS,sZ]
    refine takeH (i:=9) (oi:=_) (v:=undef) 15 #[true,true,true,true,true,true,true,true,true,true,false,false,false,false,false] rfl (by kernel_rfl) (by kernel_rfl) (by kernel_rfl) rfl (by kernel_rfl) (fun _ _ _ h=>h) (Or.inr ⟨by rfl,rfl⟩) (by assumption) ?rt11x9
    simp only [Act.put,sT,sS,sZ]
    refine takeH (i:=10) (oi:=_) (v:=undef) 16 #[true,true,true,true,true,true,true,true,true,true,true,false,false,false,false] rfl (by kernel_rfl) (by kernel_rfl) (by kernel_rfl) rfl (by kernel_rfl) (fun _ _ _ h=>h) (Or.inr ⟨by rfl,rfl⟩) (by assumption) ?rt11x10
    simp only [Act.put,sT,sS,sZ]
    refine takeH (i:=11) (oi:=_) (v:=undef) 17 #[true,true,true,true,true,true,true,true,true,true,true,true,false,false,false] rfl (by kernel_rfl) (by kernel_rfl) (by kernel_rfl) rfl (by kernel_rfl) (fun _ _ _ h=>h) (Or.inr ⟨by rfl,rfl⟩) (by assumption) ?rt11x11
    simp only [Act.put,sT,sS,sZ]
    refine takeH (i:=12) (oi:=_) (v:=undef) 18 #[true,true,true,true,true,true,true,true,true,true,true,true,true,false,false] rfl (by kernel_rfl) (by kernel_rfl) (by kernel_rfl) rfl (by kernel_rfl) (fun _ _ _ h=>h) (Or.inr ⟨by rfl,rfl⟩) (by assumption) ?rt11x12
    simp only [Act.put,sT,sS,sZ]
    refine takeH (i:=13) (oi:=_) (v:=?vt11x13) 19 #[true,true,true,true,true,true,true,true,true,true,true,true,true,true,false] rfl (by kernel_rfl) (by kernel_rfl) (by kernel_rfl) rfl (by kernel_rfl) (fun _ _ _ h=>h) (Or.inl ⟨by rfl,?yt11x13⟩) (by assumption) ?rt11x13
    case yt11x13=>(intro w' hSw; (try dsimp only at hSw); have x0:=hSw.c0; have x1:=hSw.c1; have x2:=hSw.c2; have x3:=hSw.c3; have x4:=hSw.c4; have x5:=hSw.c5; have x6:=hSw.c6; have x7:=hSw.c7; have x8:=hSw.c8; go_simp; try with_reducible rfl)
    simp only [Act.put,sT,sS,sZ]
    refine wpAnyH_ready (rs:=[14]) (by kernel_rfl) (by simp) ?_
    refine AllReadyH.cons (o:=_) rfl (fun K hK=>?_) AllReadyH.nil
    go_simp
    refine hK.out _ _ ?_ (fun hHeld=>?_)
    · exact h2.box
    clear hK K
    try simp only [Act.put]
    refine listH (l2:=#[true,true,true,true,true,true,true,true,true,true,true,true,true,true,true]) (by kernel_rfl) ?_
    refine wpAnyH_done (by kernel_rfl) ?_ _
    go_wp2_with fail
    go_ret
    exact ⟨ret_bool (by rw [HV.out]),h2.below⟩
end
section
open Go.RowKit
set_option maxHeartbeats 4000000 in
set_option maxRecDepth 20000 in
theorem specMsgOk (k who seq q s : Int) (ba : Option Addr) (bn bc : Nat) (oa : Option Addr) (on oc : Nat) (code : Int) (ta : Option Addr) (tn tc : Nat) (l : LLog) (os : List LObj) (L U : Nat) (w : World) (hS : Sizes os 1048576) (hU : U ≤ w.heap.size) (H : MsgAt w L U q s ba bn oa on ta tn l os) :
    Calls Tryz.prog 100 #[.agg #[.int .i64 k,.int .i64 who,.int .i64 seq,.int .i64 q,.int .i64 s,.slice ba bn bc,.slice oa on oc,.int .i64 code,.slice ta tn tc]] w fun e w'=>e = .returned (.bool (msgOk k who seq code l os)) ∧ Below w.heap.size w w':=by
  have hM:=HeldM.new w k who seq q s ba bn bc oa on oc code ta tn tc 156
  have HLN : Hid (tn = os.length):=H.tree.len
  have HQ : Hid (q = l.who ∧ s = l.seq):=⟨H.log.q,H.log.s⟩
  have hbd:=H.tree.bd
  unfold maxLen at hbd
  by_cases q0 : who < 0
  · have HF : Hid (msgOk k who seq code l os = false):=by show _ = _; simp [msgOk,whoB]; omega
    go_enter Tryz.func100,Tryz.ntmps100
    go_wp2_with fail
    go_ret
    exact ⟨ret_bool (by rw [HF.out]),hM.below⟩
  by_cases q3 : 3 ≤ who
  · have HF : Hid (msgOk k who seq code l os = false):=by show _ = _; simp [msgOk,whoB]; omega
    go_enter Tryz.func100,Tryz.ntmps100
    go_wp2_with fail
    go_ret
    exact ⟨ret_bool (by rw [HF.out]),hM.below⟩
  by_cases s1 : seq < 1
  · have HF : Hid (msgOk k who seq code l os = false):=by show _ = _; simp [msgOk,whoB]; omega
    go_enter Tryz.func100,Tryz.ntmps100
    go_wp2_with fail
    go_ret
    exact ⟨ret_bool (by rw [HF.out]),hM.below⟩
  by_cases s2 : 1000 < seq
  · have HF : Hid (msgOk k who seq code l os = false):=by show _ = _; simp [msgOk,whoB]; omega
    go_enter Tryz.func100,Tryz.ntmps100
    go_wp2_with fail
    go_ret
    exact ⟨ret_bool (by rw [HF.out]),hM.below⟩
  have HW : Hid (whoB who seq = true):=by show _ = _; simp [whoB]; omega
  by_cases k1 : k = 1
  · subst k1
    have HV : Hid (msgOk 1 who seq code l os = (whoB who seq && (noneL l && (code == 0) && os.isEmpty))):=by show _ = _; simp [msgOk,kindB,mpartsB,logPart,codePart,treePart]
    go_enter Tryz.func100,Tryz.ntmps100
    go_wp2_with fail
    refine (specNone_any _ _ _ _ _ _ _ _ l L U _ (H.log.below hM.below hU)).mono ?_
    rintro x w1 ⟨rfl,hb1⟩
    have h1:=hM.next hb1
    have e7:=h1.box.c7
    have e8:=h1.box.c8
    clear hM hb1
    rcases t1 : noneL l with _ | _
    ·
      go_wp2_with fail
      go_ret
      exact ⟨ret_bool (by rw [HV.out,HW.out,t1]; simp),h1.below⟩
    rcases t2 : (code == 0) with _ | _
    ·
      go_wp2_with fail
      go_ret
      exact ⟨ret_bool (by rw [HV.out,HW.out,t1,t2]; simp),h1.below⟩
    by_cases hn : tn = 0
    · subst hn
      have HE : Hid (os.isEmpty = true):=(by show _ = _; rw [List.isEmpty_iff]; exact List.length_eq_zero_iff.1 HLN.out.symm)
      go_wp2_with fail
      go_ret
      exact ⟨ret_bool (by rw [HV.out,HW.out,t1,t2,HE.out]; simp),h1.below⟩
    · have HE : Hid (os.isEmpty = false):=(by show _ = _; rw [Bool.eq_false_iff]; intro h; rw [List.isEmpty_iff] at h; exact hn (by rw [HLN.out,h]; rfl))
      have tx : ((tn : Int) == 0) = false:=(by simp; omega)
      clear hn
      go_wp2_with fail
      go_ret
      exact ⟨ret_bool (by rw [HV.out,HW.out,t1,t2,HE.out]; simp),h1.below⟩
  by_cases k2 : k = 2
  · subst k2
    have HV : Hid (msgOk 2 who seq code l os = (whoB who seq && (noneL l && (code == 0) && specOk os))):=by show _ = _; simp [msgOk,kindB,mpartsB,logPart,codePart,treePart]
    go_enter Tryz.func100,Tryz.ntmps100
    go_wp2_with fail
    refine (specNone_any _ _ _ _ _ _ _ _ l L U _ (H.log.below hM.below hU)).mono ?_
    rintro x w1 ⟨rfl,hb1⟩
    have h1:=hM.next hb1
    have e7:=h1.box.c7
    have e8:=h1.box.c8
    clear hM hb1
    rcases t1 : noneL l with _ | _
    ·
      go_wp2_with fail
      go_ret
      exact ⟨ret_bool (by rw [HV.out,HW.out,t1]; simp),h1.below⟩
    rcases t2 : (code == 0) with _ | _
    ·
      go_wp2_with fail
      go_ret
      exact ⟨ret_bool (by rw [HV.out,HW.out,t1,t2]; simp),h1.below⟩
    go_wp2_with fail
    refine (specTreeOk _ _ _ os L U _ hS (by have:=h1.below.size; omega) (H.tree.below h1.below hU)).mono ?_
    rintro x w2 ⟨rfl,hb2⟩
    go_wp2_with fail
    go_ret
    exact ⟨ret_bool (by rw [HV.out,HW.out,t1,t2]; simp),(h1.next hb2).below⟩
  by_cases k3 : k = 3
  · subst k3
    have HV : Hid (msgOk 3 who seq code l os = (whoB who seq && (logOk l && ((q == who) && (s == seq)) && (code == 0) && os.isEmpty))):=by show _ = _; rw [HQ.out.1,HQ.out.2]; simp [msgOk,kindB,mpartsB,logPart,codePart,treePart]
    clear HQ
    go_enter Tryz.func100,Tryz.ntmps100
    go_wp2_with fail
    refine (specLogOk _ _ _ _ _ _ _ _ l L U _ (by have:=hM.below.size; omega) (H.log.below hM.below hU)).mono ?_
    rintro x w1 ⟨rfl,hb1⟩
    have h1:=hM.next hb1
    have e1:=h1.box.c1
    have e2:=h1.box.c2
    have e3:=h1.box.c3
    have e4:=h1.box.c4
    have e7:=h1.box.c7
    have e8:=h1.box.c8
    clear hM hb1
    rcases t1 : logOk l with _ | _
    ·
      go_wp2_with fail
      go_ret
      exact ⟨ret_bool (by rw [HV.out,HW.out,t1]; simp),h1.below⟩
    rcases t2 : (q == who) with _ | _
    ·
      go_wp2_with fail
      go_ret
      exact ⟨ret_bool (by rw [HV.out,HW.out,t1,t2]; simp),h1.below⟩
    rcases t3 : (s == seq) with _ | _
    ·
      go_wp2_with fail
      go_ret
      exact ⟨ret_bool (by rw [HV.out,HW.out,t1,t2,t3]; simp),h1.below⟩
    rcases t4 : (code == 0) with _ | _
    ·
      go_wp2_with fail
      go_ret
      exact ⟨ret_bool (by rw [HV.out,HW.out,t1,t2,t3,t4]; simp),h1.below⟩
    by_cases hn : tn = 0
    · subst hn
      have HE : Hid (os.isEmpty = true):=(by show _ = _; rw [List.isEmpty_iff]; exact List.length_eq_zero_iff.1 HLN.out.symm)
      go_wp2_with fail
      go_ret
      exact ⟨ret_bool (by rw [HV.out,HW.out,t1,t2,t3,t4,HE.out]; simp),h1.below⟩
    · have HE : Hid (os.isEmpty = false):=(by show _ = _; rw [Bool.eq_false_iff]; intro h; rw [List.isEmpty_iff] at h; exact hn (by rw [HLN.out,h]; rfl))
      have tx : ((tn : Int) == 0) = false:=(by simp; omega)
      clear hn
      go_wp2_with fail
      go_ret
      exact ⟨ret_bool (by rw [HV.out,HW.out,t1,t2,t3,t4,HE.out]; simp),h1.below⟩
  by_cases k4 : k = 4
  · subst k4
    have HV : Hid (msgOk 4 who seq code l os = (whoB who seq && (noneL l && (decide (0 ≤ code) && decide (code ≤ 2)) && specOk os))):=by show _ = _; simp [msgOk,kindB,mpartsB,logPart,codePart,treePart]
    go_enter Tryz.func100,Tryz.ntmps100
    go_wp2_with fail
    refine (specNone_any _ _ _ _ _ _ _ _ l L U _ (H.log.below hM.below hU)).mono ?_
    rintro x w1 ⟨rfl,hb1⟩
    have h1:=hM.next hb1
    have e7:=h1.box.c7
    have e8:=h1.box.c8
    clear hM hb1
    rcases t1 : noneL l with _ | _
    ·
      go_wp2_with fail
      go_ret
      exact ⟨ret_bool (by rw [HV.out,HW.out,t1]; simp),h1.below⟩
    by_cases c0 : 0 ≤ code
    case neg =>
      have HC : Hid (decide (0 ≤ code) = false):=by show _ = _; simpa using c0
      go_wp2_with fail
      go_ret
      exact ⟨ret_bool (by rw [HV.out,HW.out,t1,HC.out]; simp),h1.below⟩
    by_cases c2 : code ≤ 2
    case neg =>
      have HC : Hid (decide (code ≤ 2) = false):=by show _ = _; simpa using c2
      go_wp2_with fail
      go_ret
      exact ⟨ret_bool (by rw [HV.out,HW.out,t1,HC.out]; simp),h1.below⟩
    have HC : Hid (decide (0 ≤ code) = true ∧ decide (code ≤ 2) = true):=⟨by simpa using c0,by simpa using c2⟩
    go_wp2_with fail
    refine (specTreeOk _ _ _ os L U _ hS (by have:=h1.below.size; omega) (H.tree.below h1.below hU)).mono ?_
    rintro x w2 ⟨rfl,hb2⟩
    go_wp2_with fail
    go_ret
    exact ⟨ret_bool (by rw [HV.out,HW.out,t1,HC.out.1,HC.out.2]; simp),(h1.next hb2).below⟩
  · have HF : Hid (msgOk k who seq code l os = false):=by show _ = _; have e : kindB k = false:=(by simp [kindB]; omega); simp [msgOk,e]
    have u1 : (k == 1) = false:=by simp [k1]
    have u2 : (k == 2) = false:=by simp [k2]
    have u3 : (k == 3) = false:=by simp [k3]
    have u4 : (k == 4) = false:=by simp [k4]
    clear k1 k2 k3 k4
    go_enter Tryz.func100,Tryz.ntmps100
    go_wp2_with fail
    go_ret
    exact ⟨ret_bool (by rw [HF.out]),hM.below⟩
end
end Go.Proofs.YtloopeipheklpaaGreatDoor
