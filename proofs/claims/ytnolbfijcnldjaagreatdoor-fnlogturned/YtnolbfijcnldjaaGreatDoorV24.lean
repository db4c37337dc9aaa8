/- Lemmas that the proofs of this seat share: AllB, AllC, OpBentA, DrawAct, FnActTurnW, BoxA. -/
import Derived.Test.YtnolbfijcnldjaaGreatDoorV23
import Derived.Deep.RegionWith
import Derived.RowKitTokens
import Derived.Test.YtnolbfijcnldjaaGreatDoorV11
import Derived.Test.YtnolbfijcnldjaaGreatDoorV12
import Derived.Deep.CutBlock
import Derived.Test.YtnolbfijcnldjaaGreatDoorV13
import Derived.Test.YtnolbfijcnldjaaGreatDoorV14
/- l3All and ActAll of the specification. -/
namespace Go.Proofs.YtnolbfijcnldjaaGreatDoor
open Go.RowKit

set_option maxHeartbeats 4000000 in
set_option maxRecDepth 20000 in
theorem l3All_any (a la : Option Addr) (n c m lc : Nat) (os : List LObj) (ops : List LOp) (L U L2 U2 : Nat) (w : World) (hS : Sizes os 1048576) (hs : specOk os = true) (hf : formsB ops = true) (hU : U ≤ w.heap.size) (H : ObjsAt w L U a n os) (hU2 : U2 ≤ w.heap.size) (H2 : OpsAt w L2 U2 la m ops) :
    Calls Tryz.prog 86 #[.agg #[.slice a n c], .slice la m lc] w fun e w' => AllEnd w (allGo os os ops 0) e w' := by
  have hbd := H2.bd
  unfold maxLen at hbd
  have HLN : Hid (n = os.length) := H.len
  have HN : Hid (n = 32) := by show _ = _; rw [HLN.out]; exact ok_len hs
  have HLM : Hid (m = ops.length) := H2.len
  have HSZ : Hid (∀ o ∈ os, o.text.size ≤ maxLen ∧ ∀ e ∈ o.kids, e.name.size ≤ maxLen) := H.sizes
  have HCP := fun w hU H => copy_any a n c os L U w (by rw [HN.out]; omega) (by rw [HN.out]; omega) hS hU H
  have hA : Below w.heap.size w ((w.alloc (.cells #[.slice a n c] 25)).alloc (.cells #[.slice none 0 0] 25)) := ((Below.refl _ _).alloc (Nat.le_refl _) _).alloc (by simp) _
  have hx : ((w.alloc (.cells #[.slice a n c] 25)).alloc (.cells #[.slice none 0 0] 25)).rowIs (w.heap.size + 1) 25 1 (zrow #[.slice none 0 0]) := by
    have := zrow_new (w.alloc (.cells #[.slice a n c] 25)) #[.slice none 0 0] 25
    simpa using this
  have ht : ((w.alloc (.cells #[.slice a n c] 25)).alloc (.cells #[.slice none 0 0] 25)).cell? ⟨w.heap.size, 0, none⟩ = some (.slice a n c) := by simp [go_sem]
  go_enter Tryz.func86, Tryz.ntmps86
  go_wp2_with fail
  refine (HCP _ (Nat.le_trans hU hA.size) (H.below hA hU)).mono ?_
  rintro e w1 ⟨⟨v, vs, rfl, hC⟩, hb1⟩
  have hB1 : Below w.heap.size w w1 := hA.trans (hb1.mono hA.size)
  obtain ⟨b1, c1, rfl, HOW⟩ := hC.out.done HLN.out (by rw [HN.out]; omega) HSZ.out
  have hz1 := hb1.size
  simp at hz1
  have hx1 := hx.of_block (hb1.block (w.heap.size + 1) hx.lt)
  have ht1 : w1.cell? ⟨w.heap.size, 0, none⟩ = some (.slice a n c) := by rw [hb1.cell (by simp; omega)]; exact ht
  have HOW1 : OwnT w1 (w.heap.size + 1 + 1) b1 c1 os vs := by simpa using HOW
  clear hC HOW hx ht hA hb1
  have hA2 : Below w1.heap.size w1 (w1.alloc (.cells #[.slice (some ⟨b1, 0, none⟩) n c1] 25)) := (Below.refl _ _).alloc (Nat.le_refl _) _
  have HZ0 : Hid (LZ w (w1.alloc (.cells #[.slice (some ⟨b1, 0, none⟩) n c1] 25)) w1.heap.size 25 a n c b1 c1) :=
    ⟨hB1.trans (hA2.mono hB1.size), by rw [hA2.cell (by simp; omega)]; exact ht1, ⟨_, hx1.of_block (hA2.block _ (by omega))⟩, by simp [go_sem], ⟨_, zrow_new w1 #[.slice (some ⟨b1, 0, none⟩) n c1] 25⟩, by omega, by simp⟩
  have HT0 : Hid (OwnT (w1.alloc (.cells #[.slice (some ⟨b1, 0, none⟩) n c1] 25)) (w.heap.size + 1 + 1) b1 c1 os vs) := HOW1.below hA2
  obtain ⟨T, hT⟩ : ∃ T, w1.heap.size = T := ⟨_, rfl⟩
  have HZT : Hid (LZ w (w1.alloc (.cells #[.slice (some ⟨b1, 0, none⟩) n c1] 25)) T 25 a n c b1 c1) := by have h9 := HZ0.out; rw [hT] at h9; exact h9
  have HFM : Hid (formsB ops = true) := hf
  have HSO : Hid (specOk os = true) := hs
  clear HZ0 HOW1 ht1 hx1 hA2 hB1 hf hs
  go_wp2_with fail
  clear hT hz1
  go_loopg [8] m (fun g i wr => ∃ j : Nat, j ≤ m ∧ Hid (g = m - j) ∧ i = .int .i64 j ∧ ∃ os' vs', Hid (LZ w wr T 25 a n c b1 c1) ∧ Hid (OwnT wr (w.heap.size + 1 + 1) b1 c1 os' vs') ∧ Hid (specOk os' = true) ∧ Hid (allGo os os ops 0 = allGo os os' (ops.drop j) j))
  case atStart => exact ⟨0, Nat.zero_le _, rfl, rfl, os, vs, HZT, HT0, HSO, by show _ = _; rw [List.drop_zero]⟩
  case round =>
    obtain ⟨j, hj, hg, rfl, os1, vs1, HZ, HT, HS1, HG⟩ := hrel
    clear HZT HT0
    by_cases hlt : j < m
    · obtain ⟨lb, off, ha, hL, hlb0, hcc⟩ := H2.at_ (by omega)
      obtain ⟨o, he, hsz, hat⟩ := hcc j hlt
      have hlb : lb < w.heap.size := by omega
      have HAT : Hid (OpAt w lb (off + j * 7) o) := hat
      have hltI : (j : Int) < (m : Int) := by omega
      have hok : opOk o = true := forms_op HFM.out he
      have HL : Hid (os1.length = n) := by show _ = _; rw [HN.out]; exact ok_len HS1.out
      have hDO := fun (B b c : Nat) (vs : Nat → Value) (w : World) hB H => do_any B b c n o os1 vs w hok HL.out.symm (by rw [HN.out]; omega) hB (ok_bd HS1.out) hsz H
      simp only [LOp.val] at hDO
      obtain ⟨r, hr⟩ : ∃ r, r = actDo os1 o := ⟨_, rfl⟩
      rw [← hr] at hDO
      have hDO := hDO (w.heap.size + 1 + 1)
      have HRL : Hid (r.1.length = n) := by show _ = _; rw [hr, actDo_len]; exact HL.out
      have HRO : Hid (r.2 = 0 → specOk r.1 = true) := fun h => by rw [hr]; exact act_ok HS1.out hok (by rw [← hr]; exact h)
      have HG1 : Hid (allGo os os ops 0 = if r.2 = 0 then allGo os r.1 (ops.drop (j + 1)) (j + 1) else (os, r.2, j)) := by show _ = _; rw [HG.out, allGo_step os os1 he, ← hr]
      subst ha
      clear hat hcc he hr HG hok
      have x0 := HZ.out.x
      go_upto_region 5 with fail
      have HZ5 := HZ.out.next (Below.refl _ _).drew
      have HT5 := HT.out.below (Below.refl _ _).drew
      clear x0
      go_cut [9, 10] (fun p k wx => ∃ q vs4, p = .pointer (some ⟨q, 0, none⟩) ∧ k = .int .i64 r.2 ∧ Hid (LZ w wx T 25 a n c b1 c1) ∧ Hid (YB wx q n b1 c1) ∧ Hid (OwnT wx (w.heap.size + 1 + 1) b1 c1 r.1 vs4) ∧ T < q)
      case first =>
        refine wp_region_held_drew (S := (fun W => LZ w W T 25 a n c b1 c1)) (by kernel_rfl) ?_ (fun hHeld => ?_)
        · exact HZ5
        refine listH (l2 := #[false, false, false, false, false, false, false, false, false, false, false, false]) (by kernel_rfl) ?_
        refine takeH (i := 0) (oi := _) (v := ?vs0) 20 #[true, false, false, false, false, false, false, false, false, false, false, false] rfl (by kernel_rfl) (by kernel_rfl) (by kernel_rfl) rfl (by kernel_rfl) (fun _ _ _ h => h) (Or.inl ⟨by rfl, ?ys0⟩) (by assumption) ?rs0
        case ys0 => (intro w' hSw; (try dsimp only at hSw); have x0 := hSw.x; obtain ⟨d0, d1, d2, d3, d4, d5, d6⟩ := HAT.out.of_block (hSw.below.block lb hlb); go_simp; try with_reducible rfl)
        simp only [Act.put, List.setIfInBounds_toArray, List.set_cons_succ, List.set_cons_zero]
        refine takeH (i := 1) (oi := _) (v := ?vs1) 21 #[true, true, false, false, false, false, false, false, false, false, false, false] rfl (by kernel_rfl) (by kernel_rfl) (by kernel_rfl) rfl (by kernel_rfl) (fun _ _ _ h => h) (Or.inl ⟨by rfl, ?ys1⟩) (by assumption) ?rs1
        case ys1 => (intro w' hSw; (try dsimp only at hSw); have x0 := hSw.x; obtain ⟨d0, d1, d2, d3, d4, d5, d6⟩ := HAT.out.of_block (hSw.below.block lb hlb); go_simp; try with_reducible rfl)
        simp only [Act.put, List.setIfInBounds_toArray, List.set_cons_succ, List.set_cons_zero]
        refine takeH (i := 2) (oi := _) (v := ?vs2) 22 #[true, true, true, false, false, false, false, false, false, false, false, false] rfl (by kernel_rfl) (by kernel_rfl) (by kernel_rfl) rfl (by kernel_rfl) (fun _ _ _ h => h) (Or.inl ⟨by rfl, ?ys2⟩) (by assumption) ?rs2
        case ys2 => (intro w' hSw; (try dsimp only at hSw); have x0 := hSw.x; obtain ⟨d0, d1, d2, d3, d4, d5, d6⟩ := HAT.out.of_block (hSw.below.block lb hlb); go_simp; try with_reducible rfl)
        simp only [Act.put, List.setIfInBounds_toArray, List.set_cons_succ, List.set_cons_zero]
        refine takeH (i := 3) (oi := _) (v := ?vs3) 23 #[true, true, true, true, false, false, false, false, false, false, false, false] rfl (by kernel_rfl) (by kernel_rfl) (by kernel_rfl) rfl (by kernel_rfl) (fun _ _ _ h => h) (Or.inl ⟨by rfl, ?ys3⟩) (by assumption) ?rs3
        case ys3 => (intro w' hSw; (try dsimp only at hSw); have x0 := hSw.x; obtain ⟨d0, d1, d2, d3, d4, d5, d6⟩ := HAT.out.of_block (hSw.below.block lb hlb); go_simp; try with_reducible rfl)
        simp only [Act.put, List.setIfInBounds_toArray, List.set_cons_succ, List.set_cons_zero]
        refine takeH (i := 4) (oi := _) (v := ?vs4) 24 #[true, true, true, true, true, false, false, false, false, false, false, false] rfl (by kernel_rfl) (by kernel_rfl) (by kernel_rfl) rfl (by kernel_rfl) (fun _ _ _ h => h) (Or.inl ⟨by rfl, ?ys4⟩) (by assumption) ?rs4
        case ys4 => (intro w' hSw; (try dsimp only at hSw); have x0 := hSw.x; obtain ⟨d0, d1, d2, d3, d4, d5, d6⟩ := HAT.out.of_block (hSw.below.block lb hlb); go_simp; try with_reducible rfl)
        simp only [Act.put, List.setIfInBounds_toArray, List.set_cons_succ, List.set_cons_zero]
        refine wpAnyH_ready (rs := [5, 9]) (by kernel_rfl) (by simp) ?_
        refine AllReadyH.cons (o := _) rfl (fun K hK => ?_) (AllReadyH.cons (o := _) rfl (fun K hK => ?_) AllReadyH.nil)
        · go_simp
          refine (hDO b1 c1 vs1 _ (by have := hHeld.lo; have := hHeld.lt; omega) HT5).mono ?_
          rintro e w4 ⟨vs4, rfl, HOW4, hb4, hk4⟩
          have HZ4 := hHeld.call (by decide) HL.out HT5 hb4 hk4
          rw [HRL.out]
          go_wp2_with fail
          refine hK.out _ _ HZ4 (fun hHeld => ?_)
          clear hK K
          try simp only [Act.put]
          refine listH (l2 := #[true, true, true, true, true, true, false, false, false, false, false, false]) (by kernel_rfl) ?_
          refine takeH (i := 6) (oi := _) (v := ?vsf6) 19 #[true, true, true, true, true, true, true, false, false, false, false, false] rfl (by kernel_rfl) (by kernel_rfl) (by kernel_rfl) rfl (by kernel_rfl) (fun _ _ _ h => h) (Or.inl ⟨by rfl, ?ysf6⟩) (by assumption) ?rsf6
          case ysf6 => (intro w' hSw; (try dsimp only at hSw); have x0 := hSw.x; obtain ⟨d0, d1, d2, d3, d4, d5, d6⟩ := HAT.out.of_block (hSw.below.block lb hlb); go_simp; try with_reducible rfl)
          simp only [Act.put, List.setIfInBounds_toArray, List.set_cons_succ, List.set_cons_zero]
          refine takeH (i := 7) (oi := _) (v := ?vsf7) 26 #[true, true, true, true, true, true, true, true, false, false, false, false] rfl (by kernel_rfl) (by kernel_rfl) (by kernel_rfl) rfl (by kernel_rfl) (fun _ _ _ h => h) (Or.inl ⟨by rfl, ?ysf7⟩) (by assumption) ?rsf7
          case ysf7 => (intro w' hSw; (try dsimp only at hSw); have x0 := hSw.x; obtain ⟨d0, d1, d2, d3, d4, d5, d6⟩ := HAT.out.of_block (hSw.below.block lb hlb); go_simp; try with_reducible rfl)
          simp only [Act.put, List.setIfInBounds_toArray, List.set_cons_succ, List.set_cons_zero]
          refine takeH (i := 8) (oi := _) (v := ?vsf8) 27 #[true, true, true, true, true, true, true, true, true, false, false, false] rfl (by kernel_rfl) (by kernel_rfl) (by kernel_rfl) rfl (by kernel_rfl) (fun _ _ _ h => h) (Or.inl ⟨by rfl, ?ysf8⟩) (by assumption) ?rsf8
          case ysf8 => (intro w' hSw; (try dsimp only at hSw); have x0 := hSw.x; obtain ⟨d0, d1, d2, d3, d4, d5, d6⟩ := HAT.out.of_block (hSw.below.block lb hlb); go_simp; try with_reducible rfl)
          simp only [Act.put, List.setIfInBounds_toArray, List.set_cons_succ, List.set_cons_zero]
          refine wpAnyH_ready (rs := [9]) (by kernel_rfl) (by simp) ?_
          refine AllReadyH.cons (o := _) rfl (fun K hK => ?_) AllReadyH.nil
          refine st_alloc31 _ 9 ?_
          intro q6 V6 hq6 hb6 R6
          have lt6 := R6.lt
          have lo6 : T < q6 := by have := HZ4.lt; omega
          clear hq6
          refine hK.out _ _ (hHeld.next hb6) (fun hHeld => ?_)
          clear hK K
          try simp only [Act.put]
          refine listH (l2 := #[true, true, true, true, true, true, true, true, true, true, false, false]) (by kernel_rfl) ?_
          refine wpAnyH_ready (rs := [10]) (by kernel_rfl) (by simp) ?_
          refine AllReadyH.cons (o := _) rfl (fun K hK => ?_) AllReadyH.nil
          refine st_store31 _ 9 26 q6 _ _ _ rfl rfl R6 ?_
          intro V7 hB7 g7 hE7
          refine hK.out _ _ (hHeld.but hB7 lo6) (fun hHeld => ?_)
          clear hK K
          try simp only [Act.put]
          refine listH (l2 := #[true, true, true, true, true, true, true, true, true, true, true, false]) (by kernel_rfl) ?_
          refine wpAnyH_ready (rs := [11]) (by kernel_rfl) (by simp) ?_
          refine AllReadyH.cons (o := _) rfl (fun K hK => ?_) AllReadyH.nil
          go_simp
          refine hK.out _ _ hHeld (fun hHeld => ?_)
          clear hK K
          try simp only [Act.put]
          refine listH (l2 := #[true, true, true, true, true, true, true, true, true, true, true, true]) (by kernel_rfl) ?_
          refine wpAnyH_done (by kernel_rfl) ?_ _
          go_wp2_with fail
          go_meet
          exact ⟨q6, vs4, rfl, rfl, hHeld, ⟨g7, by have := R6.lt; have := hB7.below.size; omega⟩, by rw [hE7.out]; exact (HOW4.below hb6).setBox ⟨_, R6⟩ 0 _, lo6⟩
        · refine st_alloc31 _ 9 ?_
          intro q6 V6 hq6 hb6 R6
          have lt6 := R6.lt
          have lo6 : T < q6 := by have := HZ5.lt; omega
          clear hq6
          refine hK.out _ _ (hHeld.next hb6) (fun hHeld => ?_)
          clear hK K
          try simp only [Act.put]
          refine listH (l2 := #[true, true, true, true, true, false, false, false, false, true, false, false]) (by kernel_rfl) ?_
          have HT6 := HT5.below hb6
          refine wpAnyH_ready (rs := [5]) (by kernel_rfl) (by simp) ?_
          refine AllReadyH.cons (o := _) rfl (fun K hK => ?_) AllReadyH.nil
          go_simp
          refine (hDO b1 c1 vs1 _ (by have := hHeld.lo; have := hHeld.lt; omega) HT6).mono ?_
          rintro e w4 ⟨vs4, rfl, HOW4, hb4, hk4⟩
          have HZ4 := hHeld.call (by decide) HL.out HT6 hb4 hk4
          rw [HRL.out]
          go_wp2_with fail
          have e6 := hk4 q6 lt6 (HT6.far (by decide) R6).1 (fun i hi => (HT6.far (by decide) R6).2 i (by have := HL.out; omega))
          have R6 := R6.of_block e6
          refine hK.out _ _ HZ4 (fun hHeld => ?_)
          clear hK K
          try simp only [Act.put]
          refine listH (l2 := #[true, true, true, true, true, true, false, false, false, true, false, false]) (by kernel_rfl) ?_
          refine takeH (i := 6) (oi := _) (v := ?vsfg6) 19 #[true, true, true, true, true, true, true, false, false, true, false, false] rfl (by kernel_rfl) (by kernel_rfl) (by kernel_rfl) rfl (by kernel_rfl) (fun _ _ _ h => h) (Or.inl ⟨by rfl, ?ysfg6⟩) (by assumption) ?rsfg6
          case ysfg6 => (intro w' hSw; (try dsimp only at hSw); have x0 := hSw.x; obtain ⟨d0, d1, d2, d3, d4, d5, d6⟩ := HAT.out.of_block (hSw.below.block lb hlb); go_simp; try with_reducible rfl)
          simp only [Act.put, List.setIfInBounds_toArray, List.set_cons_succ, List.set_cons_zero]
          refine takeH (i := 7) (oi := _) (v := ?vsfg7) 26 #[true, true, true, true, true, true, true, true, false, true, false, false] rfl (by kernel_rfl) (by kernel_rfl) (by kernel_rfl) rfl (by kernel_rfl) (fun _ _ _ h => h) (Or.inl ⟨by rfl, ?ysfg7⟩) (by assumption) ?rsfg7
          case ysfg7 => (intro w' hSw; (try dsimp only at hSw); have x0 := hSw.x; obtain ⟨d0, d1, d2, d3, d4, d5, d6⟩ := HAT.out.of_block (hSw.below.block lb hlb); go_simp; try with_reducible rfl)
          simp only [Act.put, List.setIfInBounds_toArray, List.set_cons_succ, List.set_cons_zero]
          refine takeH (i := 8) (oi := _) (v := ?vsfg8) 27 #[true, true, true, true, true, true, true, true, true, true, false, false] rfl (by kernel_rfl) (by kernel_rfl) (by kernel_rfl) rfl (by kernel_rfl) (fun _ _ _ h => h) (Or.inl ⟨by rfl, ?ysfg8⟩) (by assumption) ?rsfg8
          case ysfg8 => (intro w' hSw; (try dsimp only at hSw); have x0 := hSw.x; obtain ⟨d0, d1, d2, d3, d4, d5, d6⟩ := HAT.out.of_block (hSw.below.block lb hlb); go_simp; try with_reducible rfl)
          simp only [Act.put, List.setIfInBounds_toArray, List.set_cons_succ, List.set_cons_zero]
          refine wpAnyH_ready (rs := [10]) (by kernel_rfl) (by simp) ?_
          refine AllReadyH.cons (o := _) rfl (fun K hK => ?_) AllReadyH.nil
          refine st_store31 _ 9 26 q6 _ _ _ rfl rfl R6 ?_
          intro V7 hB7 g7 hE7
          refine hK.out _ _ (hHeld.but hB7 lo6) (fun hHeld => ?_)
          clear hK K
          try simp only [Act.put]
          refine listH (l2 := #[true, true, true, true, true, true, true, true, true, true, true, false]) (by kernel_rfl) ?_
          refine wpAnyH_ready (rs := [11]) (by kernel_rfl) (by simp) ?_
          refine AllReadyH.cons (o := _) rfl (fun K hK => ?_) AllReadyH.nil
          go_simp
          refine hK.out _ _ hHeld (fun hHeld => ?_)
          clear hK K
          try simp only [Act.put]
          refine listH (l2 := #[true, true, true, true, true, true, true, true, true, true, true, true]) (by kernel_rfl) ?_
          refine wpAnyH_done (by kernel_rfl) ?_ _
          go_wp2_with fail
          go_meet
          exact ⟨q6, vs4, rfl, rfl, hHeld, ⟨g7, by have := R6.lt; have := hB7.below.size; omega⟩, by rw [hE7.out]; exact (HOW4).setBox ⟨_, R6⟩ 0 _, lo6⟩
      obtain ⟨q, vs4, rfl, rfl, HZ7, HY7, HT7, hTq⟩ := hcut
      obtain ⟨W7, rfl⟩ : ∃ W7, W7 = wc := ⟨_, rfl⟩
      clear HZ5 HT5 HZ HT hDO HAT
      by_cases hr0 : r.2 = 0
      · have t0 : (r.2 == 0) = true := by simp [hr0]
        have HG2 : Hid (allGo os os ops 0 = allGo os r.1 (ops.drop (j + 1)) (j + 1)) := by show _ = _; rw [HG1.out, if_pos hr0]
        have HS2 : Hid (specOk r.1 = true) := HRO.out hr0
        clear hr0 HG1 HRO
        have y0 := HY7.out.box
        have y1 := HZ7.out.x
        obtain ⟨f7, x7⟩ := HZ7.out.xr
        have z7 := x7.frozen 0
        have lt7 := x7.lt
        have HZ8 : Hid (LZ w (W7.setCell ⟨T, 0, none⟩ (.slice (some ⟨b1, 0, none⟩) n c1)) T 25 a n c b1 c1) := HZ7.out.put (by decide)
        have HT8 : Hid (OwnT (W7.setCell ⟨T, 0, none⟩ (.slice (some ⟨b1, 0, none⟩) n c1)) (w.heap.size + 1 + 1) b1 c1 r.1 vs4) := HT7.out.setBox ⟨_, x7⟩ 0 _
        clear HZ7 HY7 HT7 x7 lt7
        go_wp2_with fail
        go_roundg (m - (j + 1))
        case measure => have := hg.out; omega
        case rel => exact ⟨j + 1, by omega, rfl, by go_num, r.1, vs4, HZ8, HT8, HS2, HG2⟩
      · have t0 : (r.2 == 0) = false := by simp [hr0]
        have HG2 : Hid (allGo os os ops 0 = (os, r.2, j)) := by show _ = _; rw [HG1.out, if_neg hr0]
        clear hr0 HG1 HRO HT7 HY7
        have y0 := HZ7.out.t
        go_wp2_with fail
        refine (HCP _ (Nat.le_trans hU HZ7.out.below.size) (H.below HZ7.out.below hU)).mono ?_
        rintro e w8 ⟨⟨v, vs8, rfl, hC⟩, hb8⟩
        obtain ⟨b8, c8, rfl, HOW⟩ := hC.out.done HLN.out (by rw [HN.out]; omega) HSZ.out
        obtain ⟨f8, r8⟩ := (HZ7.out.next hb8).r
        have z8 := r8.frozen 0
        have q8 := r8.cell (i := 0) (by omega)
        have hz8 := HZ7.out.below.size
        clear hC y0
        go_wp2_with fail
        refine bodyPost_ret (v := Value.tuple #[.agg #[.slice (some ⟨b8, 0, none⟩) n c8], .int .i64 r.2, .int .i64 j]) (by rw [results, Tryz.results86]; simp [go_sem, World.cell?_setCell_same _ _ _ q8]) rfl ⟨.inr ⟨b8, c8, vs8, by rw [HG2.out, HLN.out], ?_⟩, ?_⟩
        · rw [HG2.out]; exact (HOW.setBox ⟨_, r8⟩ 0 _).base' hz8
        · exact ((HZ7.out.next hb8).below).setCell (by show _ ≤ _ + 1; omega) _
    · have HG2 : Hid (allGo os os ops 0 = (os1, 0, m)) := by
        show _ = _
        have : j = m := by omega
        subst this
        rw [HG.out, allGo_end _ _ (by rw [HLM.out]; exact Nat.le_refl _)]
      have HL : Hid (os1.length = n) := by show _ = _; rw [HN.out]; exact ok_len HS1.out
      have hjm : ¬ ((j : Int) < (m : Int)) := by omega
      have y0 := HZ.out.x
      obtain ⟨f8, r8⟩ := HZ.out.r
      have z8 := r8.frozen 0
      have q8 := r8.cell (i := 0) (by omega)
      clear HG
      go_wp2_with fail
      refine bodyPost_ret (v := Value.tuple #[.agg #[.slice (some ⟨b1, 0, none⟩) n c1], .int .i64 0, .int .i64 m]) (by rw [results, Tryz.results86]; simp [go_sem, World.cell?_setCell_same _ _ _ q8]) rfl ⟨.inr ⟨b1, c1, vs1, by rw [HG2.out, HL.out], ?_⟩, ?_⟩
      · rw [HG2.out]; exact (HT.out.setBox ⟨_, r8⟩ 0 _).base' (by omega)
      · exact (HZ.out.below).setCell (by show _ ≤ _ + 1; omega) _

set_option maxHeartbeats 4000000 in
set_option maxRecDepth 20000 in
theorem specActAll (a la : Option Addr) (n c m lc : Nat) (os : List LObj) (ops : List LOp) (L U L2 U2 : Nat) (w : World) (hS : Sizes os 1048576) (hU : U ≤ w.heap.size) (H : ObjsAt w L U a n os) (hU2 : U2 ≤ w.heap.size) (H2 : OpsAt w L2 U2 la m ops) :
    Calls Tryz.prog 30 #[.agg #[.slice a n c], .slice la m lc] w fun e w' => AllEnd w (allR os ops) e w' := by
  have hA : Below w.heap.size w ((w.alloc (.cells #[.slice a n c] 25)).alloc (.cells #[.slice none 0 0] 25)) := ((Below.refl _ _).alloc (Nat.le_refl _) _).alloc (by simp) _
  have hx : ((w.alloc (.cells #[.slice a n c] 25)).alloc (.cells #[.slice none 0 0] 25)).rowIs (w.heap.size + 1) 25 1 (zrow #[.slice none 0 0]) := by
    have := zrow_new (w.alloc (.cells #[.slice a n c] 25)) #[.slice none 0 0] 25
    simpa using this
  have ht : ((w.alloc (.cells #[.slice a n c] 25)).alloc (.cells #[.slice none 0 0] 25)).cell? ⟨w.heap.size, 0, none⟩ = some (.slice a n c) := by simp [go_sem]
  have hHA : Hid (Below w.heap.size w ((w.alloc (.cells #[.slice a n c] 25)).alloc (.cells #[.slice none 0 0] 25))) := hA
  have hHX : Hid (((w.alloc (.cells #[.slice a n c] 25)).alloc (.cells #[.slice none 0 0] 25)).rowIs (w.heap.size + 1) 25 1 (zrow #[.slice none 0 0])) := hx
  have hHT : Hid (((w.alloc (.cells #[.slice a n c] 25)).alloc (.cells #[.slice none 0 0] 25)).cell? ⟨w.heap.size, 0, none⟩ = some (.slice a n c)) := ht
  clear hA hx ht
  go_enter Tryz.func30, Tryz.ntmps30
  go_wp2_with fail
  refine (specTreeOk _ _ _ os L U _ hS (Nat.le_trans hU hHA.out.size) (H.below hHA.out hU)).mono ?_
  rintro e w1 ⟨rfl, hb1⟩
  have hz1 := hb1.size
  simp at hz1
  have HB1 : Hid (Below w.heap.size w w1) := hHA.out.trans (hb1.mono hHA.out.size)
  have HX1 : Hid (w1.rowIs (w.heap.size + 1) 25 1 (zrow #[.slice none 0 0])) := hHX.out.of_block (hb1.block _ hHX.out.lt)
  have q1 : w1.cell? ⟨w.heap.size, 0, none⟩ = some (.slice a n c) := by rw [hb1.cell (by simp; omega)]; exact hHT.out
  have p1 := HX1.out.cell (i := 0) (by omega)
  have z1 := HX1.out.frozen 0
  clear hb1 hHA hHX hHT
  rcases ts : specOk os with _ | _
  · have HV : Hid (allR os ops = ([], 8, 0)) := by show _ = _; unfold allR; rw [if_neg (by rw [ts]; simp)]
    clear ts
    go_wp2_with fail
    refine bodyPost_ret (v := Value.tuple #[.agg #[.slice none 0 0], .int .i64 8, .int .i64 0]) (by rw [results, Tryz.results30]; simp [go_sem, World.cell?_setCell_same _ _ _ p1]) rfl ⟨.inl ⟨by rw [HV.out], by rw [HV.out]; rfl⟩, HB1.out.setCell (by show _ ≤ _ + 1; omega) _⟩
  have HOK : Hid (specOk os = true) := ts
  clear ts
  go_wp2_with fail
  refine (forms_any la m lc ops L2 U2 w1 (Nat.le_trans hU2 HB1.out.size) (H2.below HB1.out hU2)).mono ?_
  rintro e w2 ⟨rfl, hb2⟩
  have HB2 : Hid (Below w.heap.size w w2) := HB1.out.trans (hb2.mono HB1.out.size)
  have HX2 : Hid (w2.rowIs (w.heap.size + 1) 25 1 (zrow #[.slice none 0 0])) := HX1.out.of_block (hb2.block _ HX1.out.lt)
  have q2 : w2.cell? ⟨w.heap.size, 0, none⟩ = some (.slice a n c) := by rw [hb2.cell (by simp; omega)]; exact q1
  have p2 := HX2.out.cell (i := 0) (by omega)
  have z2 := HX2.out.frozen 0
  have hz2 := hb2.size
  clear hb2 q1 p1 z1 HB1 HX1
  rcases tf : formsB ops with _ | _
  · have HV : Hid (allR os ops = ([], 8, 0)) := by show _ = _; unfold allR; rw [if_neg (by rw [tf]; simp)]
    clear tf
    go_wp2_with fail
    refine bodyPost_ret (v := Value.tuple #[.agg #[.slice none 0 0], .int .i64 8, .int .i64 0]) (by rw [results, Tryz.results30]; simp [go_sem, World.cell?_setCell_same _ _ _ p2]) rfl ⟨.inl ⟨by rw [HV.out], by rw [HV.out]; rfl⟩, HB2.out.setCell (by show _ ≤ _ + 1; omega) _⟩
  have HV : Hid (allR os ops = allGo os os ops 0) := by show _ = _; unfold allR; rw [if_pos ⟨HOK.out, tf⟩]
  have HFM : Hid (formsB ops = true) := tf
  clear tf
  go_wp2_with fail
  refine (l3All_any a la n c m lc os ops L U L2 U2 w2 hS HOK.out HFM.out (Nat.le_trans hU HB2.out.size) (H.below HB2.out hU) (Nat.le_trans hU2 HB2.out.size) (H2.below HB2.out hU2)).mono ?_
  rintro e w3 ⟨hE, hb3⟩
  have HX3 := HX2.out.of_block (hb3.block _ HX2.out.lt)
  have p3 := HX3.cell (i := 0) (by omega)
  have z3 := HX3.frozen 0
  have HB3 : Hid (Below w.heap.size w w3) := HB2.out.trans (hb3.mono HB2.out.size)
  have hz3 := HB2.out.size
  obtain ⟨r, hr⟩ : ∃ r, r = allGo os os ops 0 := ⟨_, rfl⟩
  rw [← hr] at hE HV
  clear hr q2 p2 z2 hb3 HX2 HB2
  rcases hE with ⟨h0, rfl⟩ | ⟨b, c2, vs, rfl, hO⟩
  · have h0' : Hid (r.1 = []) := h0
    clear h0
    go_wp2_with fail
    refine bodyPost_ret (v := Value.tuple #[.agg #[.slice none 0 0], .int .i64 r.2.1, .int .i64 r.2.2]) (by rw [results, Tryz.results30]; simp [go_sem, World.cell?_setCell_same _ _ _ p3]) rfl ⟨.inl ⟨by rw [HV.out]; exact h0'.out, by rw [HV.out]⟩, HB3.out.setCell (by show _ ≤ _ + 1; omega) _⟩
  · have HO : Hid (OwnT w3 w2.heap.size b c2 r.1 vs) := hO
    clear hO
    go_wp2_with fail
    refine bodyPost_ret (v := Value.tuple #[.agg #[.slice (some ⟨b, 0, none⟩) r.1.length c2], .int .i64 r.2.1, .int .i64 r.2.2]) (by rw [results, Tryz.results30]; simp [go_sem, World.cell?_setCell_same _ _ _ p3]) rfl ⟨.inr ⟨b, c2, vs, by rw [HV.out], ?_⟩, HB3.out.setCell (by show _ ≤ _ + 1; omega) _⟩
    rw [HV.out]; exact (HO.out.setBox ⟨_, HX3⟩ 0 _).base' hz3
end Go.Proofs.YtnolbfijcnldjaaGreatDoor

/- ActAll of the program. -/
namespace Go.Proofs.YtnolbfijcnldjaaGreatDoor
open Go.RowKit


set_option maxHeartbeats 4000000 in
set_option maxRecDepth 20000 in
theorem implActAll (sn : Nat → Addr) (S0 : Nat) (t la : Option Addr) (n c m lc : Nat) (os : List LObj) (ops : List LOp) (L U L2 U2 : Nat) (w : World) (hS0 : S0 ≤ w.heap.size) (HS : Sents w S0 sn) (hS : Sizes os 1048576) (hU : U ≤ w.heap.size) (H : ObjsAt w L U t n os) (hU2 : U2 ≤ w.heap.size) (H2 : OpsAt w L2 U2 la m ops) :
    Calls Tryz.prog 29 #[.agg #[.slice t n c], .slice la m lc] w fun e w' => AllEnd w (allR os ops) e w' := by
  have hbd := H2.bd
  unfold maxLen at hbd
  have HLN : Hid (n = os.length) := H.len
  have HLM : Hid (m = ops.length) := H2.len
  have hHA : Hid (Below w.heap.size w ((w.alloc (.cells #[.slice t n c] 25)).alloc (.cells #[.slice none 0 0] 25))) := ((Below.refl _ _).alloc (Nat.le_refl _) _).alloc (by simp) _
  have hHX : Hid (((w.alloc (.cells #[.slice t n c] 25)).alloc (.cells #[.slice none 0 0] 25)).rowIs (w.heap.size + 1) 25 1 (zrow #[.slice none 0 0])) := by
    show World.rowIs _ _ _ _ _
    have := zrow_new (w.alloc (.cells #[.slice t n c] 25)) #[.slice none 0 0] 25
    simpa using this
  have hHT : Hid (((w.alloc (.cells #[.slice t n c] 25)).alloc (.cells #[.slice none 0 0] 25)).cell? ⟨w.heap.size, 0, none⟩ = some (.slice t n c)) := by show _ = _; simp [go_sem]
  go_enter Tryz.func29, Tryz.ntmps29
  go_wp2_with fail
  refine (implTreeOk _ _ _ os L U _ (Nat.le_trans hU hHA.out.size) (H.below hHA.out hU)).mono ?_
  rintro e w1 ⟨rfl, hb1⟩
  have hz1 := hb1.size
  simp at hz1
  have HB1 : Hid (Below w.heap.size w w1) := hHA.out.trans (hb1.mono hHA.out.size)
  have HX1 : Hid (w1.rowIs (w.heap.size + 1) 25 1 (zrow #[.slice none 0 0])) := hHX.out.of_block (hb1.block _ hHX.out.lt)
  have q1 : w1.cell? ⟨w.heap.size, 0, none⟩ = some (.slice t n c) := by rw [hb1.cell (by simp; omega)]; exact hHT.out
  have p1 := HX1.out.cell (i := 0) (by omega)
  have z1 := HX1.out.frozen 0
  clear hb1 hHA hHX hHT
  rcases ts : specOk os with _ | _
  · have HV : Hid (allR os ops = ([], 8, 0)) := by show _ = _; unfold allR; rw [if_neg (by rw [ts]; simp)]
    clear ts
    go_wp2_with fail
    refine bodyPost_ret (v := Value.tuple #[.agg #[.slice none 0 0], .int .i64 8, .int .i64 0]) (by rw [results, Tryz.results29]; simp [go_sem, World.cell?_setCell_same _ _ _ p1]) rfl ⟨.inl ⟨by rw [HV.out], by rw [HV.out]; rfl⟩, HB1.out.setCell (by show _ ≤ _ + 1; omega) _⟩
  have HOK : Hid (specOk os = true) := ts
  have HN : Hid (n = 32) := by show _ = _; rw [HLN.out]; exact ok_len ts
  clear ts
  go_wp2_with fail
  refine (listOk_any la m lc ops L2 U2 w1 (Nat.le_trans hU2 HB1.out.size) (H2.below HB1.out hU2)).mono ?_
  rintro e w2 ⟨rfl, hb2⟩
  have HB2 : Hid (Below w.heap.size w w2) := HB1.out.trans (hb2.mono HB1.out.size)
  have HX2 : Hid (w2.rowIs (w.heap.size + 1) 25 1 (zrow #[.slice none 0 0])) := HX1.out.of_block (hb2.block _ HX1.out.lt)
  have q2 : w2.cell? ⟨w.heap.size, 0, none⟩ = some (.slice t n c) := by rw [hb2.cell (by simp; omega)]; exact q1
  have p2 := HX2.out.cell (i := 0) (by omega)
  have z2 := HX2.out.frozen 0
  have hz2 := hb2.size
  clear hb2 q1 p1 z1 HB1 HX1
  rcases tf : formsB ops with _ | _
  · have HV : Hid (allR os ops = ([], 8, 0)) := by show _ = _; unfold allR; rw [if_neg (by rw [tf]; simp)]
    clear tf
    go_wp2_with fail
    refine bodyPost_ret (v := Value.tuple #[.agg #[.slice none 0 0], .int .i64 8, .int .i64 0]) (by rw [results, Tryz.results29]; simp [go_sem, World.cell?_setCell_same _ _ _ p2]) rfl ⟨.inl ⟨by rw [HV.out], by rw [HV.out]; rfl⟩, HB2.out.setCell (by show _ ≤ _ + 1; omega) _⟩
  have HV : Hid (allR os ops = allGo os os ops 0) := by show _ = _; unfold allR; rw [if_pos ⟨HOK.out, tf⟩]
  have HFM : Hid (formsB ops = true) := tf
  have HTR := fun w hU H => trialOf_any t n c os L U w (by rw [HN.out]; omega) (by rw [HN.out]; omega) hS hU H
  have HCT := fun w hU H => copyTree_any t n c os L U w (by rw [HN.out]; omega) (by rw [HN.out]; omega) hS hU H
  clear tf
  go_wp2_with fail
  refine (HTR w2 (Nat.le_trans hU HB2.out.size) (H.below HB2.out hU)).mono ?_
  rintro e w3 ⟨⟨b1, c1, vs, rfl, HOW⟩, hb3⟩
  have HX3 := HX2.out.of_block (hb3.block _ HX2.out.lt)
  have q3 : w3.cell? ⟨w.heap.size, 0, none⟩ = some (.slice t n c) := by rw [hb3.cell (by simp; omega)]; exact q2
  have HB3 := HB2.out.trans (hb3.mono HB2.out.size)
  have hz3 := hb3.size
  have hA2 : Below w3.heap.size w3 (w3.alloc (.cells #[.slice (some ⟨b1, 0, none⟩) n c1] 85)) := (Below.refl _ _).alloc (Nat.le_refl _) _
  have HZ0 : Hid (LZ w (w3.alloc (.cells #[.slice (some ⟨b1, 0, none⟩) n c1] 85)) w3.heap.size 85 t n c b1 c1) :=
    ⟨HB3.trans (hA2.mono HB3.size), by rw [hA2.cell (by simp; omega)]; exact q3, ⟨_, HX3.of_block (hA2.block _ HX3.lt)⟩, by simp [go_sem], ⟨_, zrow_new w3 #[.slice (some ⟨b1, 0, none⟩) n c1] 85⟩, by omega, by simp⟩
  have HT0 : Hid (OwnT (w3.alloc (.cells #[.slice (some ⟨b1, 0, none⟩) n c1] 85)) (w.heap.size + 1 + 1) b1 c1 os vs) := (HOW.base' (by omega)).below hA2
  obtain ⟨T, hT⟩ : ∃ T, w3.heap.size = T := ⟨_, rfl⟩
  have HZT : Hid (LZ w (w3.alloc (.cells #[.slice (some ⟨b1, 0, none⟩) n c1] 85)) T 85 t n c b1 c1) := by have h9 := HZ0.out; rw [hT] at h9; exact h9
  clear HZ0 HOW hA2 HB3 HX3 q3 hb3 q2 p2 z2 HX2 HB2
  go_wp2_with fail
  clear hT hz1 hz2 hz3
  go_loopg [24] m (fun g i wr => ∃ j : Nat, j ≤ m ∧ Hid (g = m - j) ∧ i = .int .i64 j ∧ ∃ os' vs', Hid (LZ w wr T 85 t n c b1 c1) ∧ Hid (OwnT wr (w.heap.size + 1 + 1) b1 c1 os' vs') ∧ Hid (specOk os' = true) ∧ Hid (allGo os os ops 0 = allGo os os' (ops.drop j) j))
  case atStart => exact ⟨0, Nat.zero_le _, rfl, rfl, os, vs, HZT, HT0, HOK, by show _ = _; rw [List.drop_zero]⟩
  case round =>
    obtain ⟨j, hj, hg, rfl, os1, vs1, HZ, HT, HS1, HG⟩ := hrel
    clear HZT HT0
    by_cases hlt : j < m
    · obtain ⟨lb, off, ha, hL, hlb0, hcc⟩ := H2.at_ (by omega)
      obtain ⟨o, he, hsz, hat⟩ := hcc j hlt
      have hlb : lb < w.heap.size := by omega
      obtain ⟨d0, d1, d2, d3, d4, d5, d6⟩ := hat.of_block (HZ.out.below.block lb hlb)
      have hltI : (j : Int) < (m : Int) := by omega
      have hok : opOk o = true := forms_op HFM.out he
      have HL : Hid (os1.length = n) := by show _ = _; rw [HN.out]; exact ok_len HS1.out
      have hDO := fun (w' : World) (b c : Nat) hU HS' hB H => attempt_any sn S0 (w.heap.size + 1 + 1) b c n o os1 vs1 w' hU HS' hB HS1.out HN.out hsz H hok
      obtain ⟨r, hr⟩ : ∃ r, r = actDo os1 o := ⟨_, rfl⟩
      rw [← hr] at hDO
      have HRL : Hid (r.1.length = n) := by show _ = _; rw [hr, actDo_len]; exact HL.out
      have HRO : Hid (r.2 = 0 → specOk r.1 = true) := fun h => by rw [hr]; exact act_ok HS1.out hok (by rw [← hr]; exact h)
      have HG1 : Hid (allGo os os ops 0 = if r.2 = 0 then allGo os r.1 (ops.drop (j + 1)) (j + 1) else (os, r.2, j)) := by show _ = _; rw [HG.out, allGo_step os os1 he, ← hr]
      have hal : Below wr.heap.size wr (wr.alloc (.cells #[.int .i64 o.kind, .int .i64 o.dir, .string o.name, .int .i64 o.dir2, .string o.name2, .int .i64 o.id, .string o.text] 27)) := (Below.refl _ _).alloc (Nat.le_refl _) _
      have HZ6 : Hid (LZ w (wr.alloc (.cells #[.int .i64 o.kind, .int .i64 o.dir, .string o.name, .int .i64 o.dir2, .string o.name2, .int .i64 o.id, .string o.text] 27)) T 85 t n c b1 c1) := HZ.out.next hal
      have HT6 : Hid (OwnT (wr.alloc (.cells #[.int .i64 o.kind, .int .i64 o.dir, .string o.name, .int .i64 o.dir2, .string o.name2, .int .i64 o.id, .string o.text] 27)) (w.heap.size + 1 + 1) b1 c1 os1 vs1) := HT.out.below hal
      have y0 : ∀ ob : Obj, (wr.alloc ob).cell? ⟨T, 0, none⟩ = some (.slice (some ⟨b1, 0, none⟩) n c1) := fun ob => (HZ.out.next ((Below.refl _ _).alloc (Nat.le_refl _) ob)).x
      subst ha
      clear hat hcc he hr HG hok hal
      go_wp2_with fail
      refine (hDO _ b1 c1 (by omega) (HS.below HZ6.out.below hS0) (by have := HZ6.out.lo; have := HZ6.out.lt; omega) HT6.out).mono ?_
      rintro e w4 ⟨k, vs4, hk1, hk2, rfl, hP⟩
      have HZ7 : Hid (LZ w w4 T 85 t n c b1 c1) := HZ6.out.call (by decide) HL.out HT6.out hP.below hP.kt
      have HT7 : Hid (OwnT w4 (w.heap.size + 1 + 1) b1 c1 r.1 vs4) := hP.own
      have HSE : Hid (Sents w4 S0 sn) := HS.below HZ7.out.below hS0
      clear HZ6 HT6 hP hDO HZ HT d0 d1 d2 d3 d4 d5 d6 y0
      rcases k with _ | k
      · have HG2 : Hid (allGo os os ops 0 = allGo os r.1 (ops.drop (j + 1)) (j + 1)) := by show _ = _; rw [HG1.out, if_pos (by simpa using hk1)]
        have HS2 : Hid (specOk r.1 = true) := HRO.out (by simpa using hk1)
        clear hk1 HG1 HRO
        simp only [errV]
        go_wp2_with fail
        go_roundg (m - (j + 1))
        case measure => have := hg.out; omega
        case rel => exact ⟨j + 1, by omega, rfl, by go_num, r.1, vs4, HZ7, HT7, HS2, HG2⟩
      · have HG2 : Hid (allGo os os ops 0 = (os, ((k + 1 : Nat) : Int), j)) := by show _ = _; rw [HG1.out, if_neg (by rw [hk1]; omega), hk1]
        have HAC := actCode_any sn S0 (k + 1) w4
        clear hk1 HG1 HRO HT7
        have y0 := HZ7.out.t
        have hAC := fun w' H => actCode_any sn S0 (k + 1) w' hk2 H
        simp only [errV] at hAC ⊢
        clear HAC
        go_wp2_with fail
        refine (HCT w4 (Nat.le_trans hU HZ7.out.below.size) (H.below HZ7.out.below hU)).mono ?_
        rintro e w8 ⟨⟨b8, c8, vs8, rfl, HOW⟩, hb8⟩
        obtain ⟨f8, r8⟩ := (HZ7.out.next hb8).r
        have z8 := r8.frozen 0
        have q8 := r8.cell (i := 0) (by omega)
        have hz8 := HZ7.out.below.size
        have HSE8 : Hid (Sents w8 S0 sn) := HS.below (HZ7.out.next hb8).below hS0
        go_wp2_with fail
        refine (hAC _ HSE8.out).mono ?_
        rintro e w9 ⟨rfl, rfl⟩
        go_wp2_with fail
        refine bodyPost_ret (v := Value.tuple #[.agg #[.slice (some ⟨b8, 0, none⟩) n c8], .int .i64 ((k + 1 : Nat) : Int), .int .i64 j]) (by rw [results, Tryz.results29]; simp [go_sem, World.cell?_setCell_same _ _ _ q8]) rfl ⟨.inr ⟨b8, c8, vs8, by rw [HV.out, HG2.out, HLN.out], ?_⟩, ?_⟩
        · rw [HV.out, HG2.out]; exact (HOW.setBox ⟨_, r8⟩ 0 _).base' (by omega)
        · exact ((HZ7.out.next hb8).below).setCell (by show _ ≤ _ + 1; omega) _
    · have HG2 : Hid (allGo os os ops 0 = (os1, 0, m)) := by
        show _ = _
        have : j = m := by omega
        subst this
        rw [HG.out, allGo_end _ _ (by rw [HLM.out]; exact Nat.le_refl _)]
      have HL : Hid (os1.length = n) := by show _ = _; rw [HN.out]; exact ok_len HS1.out
      have hjm : ¬ ((j : Int) < (m : Int)) := by omega
      have y0 := HZ.out.x
      obtain ⟨f8, r8⟩ := HZ.out.r
      have z8 := r8.frozen 0
      have q8 := r8.cell (i := 0) (by omega)
      clear HG
      go_wp2_with fail
      refine bodyPost_ret (v := Value.tuple #[.agg #[.slice (some ⟨b1, 0, none⟩) n c1], .int .i64 0, .int .i64 m]) (by rw [results, Tryz.results29]; simp [go_sem, World.cell?_setCell_same _ _ _ q8]) rfl ⟨.inr ⟨b1, c1, vs1, by rw [HV.out, HG2.out, HL.out], ?_⟩, ?_⟩
      · rw [HV.out, HG2.out]; exact (HT.out.setBox ⟨_, r8⟩ 0 _).base' (by omega)
      · exact (HZ.out.below).setCell (by show _ ≤ _ + 1; omega) _
end Go.Proofs.YtnolbfijcnldjaaGreatDoor

/- Something to be done, as it is drawn, one in twelve bent (l3OpBent). -/
namespace Go.Proofs.YtnolbfijcnldjaaGreatDoor
open Go.RowKit

theorem But.both_ {W3 V F : World} {rb q : Nat} (h : But rb W3 V) (hb : But q V F) (hq : W3.heap.size ≤ q) (hr : rb ≤ q) : But rb W3 F := ⟨h.below.trans (hb.below.mono hr), fun i hi hl => (hb.block i (by omega) (by have := h.below.size; omega)).trans (h.block i hi hl)⟩
theorem RdTo.both_ {V F : World} {rb q P : Nat} (h : RdTo V rb P) (hb : But q V F) (hr : rb < q) : RdTo F rb P := by
  obtain ⟨p, hp, R⟩ := h
  exact ⟨p, hp, R.below hb.below hr⟩
/-- In the midst of it: the reader, the box of what is drawn. -/
structure OB (W0 W : World) (rb P q5 : Nat) (o : LOp) : Prop where
  but : But rb W0 W
  rd : RdTo W rb P
  at_ : OpAt W q5 0 o
  row : ∃ f, W.rowIs q5 27 7 f
  lo : W0.heap.size ≤ q5
  b : o.name.size ≤ 5 ∧ o.name2.size ≤ 5 ∧ o.text.size ≤ 5
theorem OB.next {W0 W W' : World} {rb P P' q5 : Nat} {o : LOp} (h : OB W0 W rb P q5 o) (hr0 : rb < W0.heap.size) (hb : But rb W W') (hr : RdTo W' rb P') : OB W0 W' rb P' q5 o := by
  obtain ⟨f, hf⟩ := h.row
  have hk := hb.block q5 (by have := h.lo; omega) hf.lt
  exact ⟨h.but.trans hb, hr, h.at_.of_block hk, ⟨f, hf.of_block hk⟩, h.lo, h.b⟩
theorem OB.put {W0 W : World} {rb P q5 : Nat} {o : LOp} (h : OB W0 W rb P q5 o) (hr0 : rb < W0.heap.size) (k : Nat) (v : Value) (o' : LOp) (ha : OpAt (W.setCell ⟨q5, k, none⟩ v) q5 0 o') (hb' : o'.name.size ≤ 5 ∧ o'.name2.size ≤ 5 ∧ o'.text.size ≤ 5) : OB W0 (W.setCell ⟨q5, k, none⟩ v) rb P q5 o' := by
  obtain ⟨f, hf⟩ := h.row
  have hs := (But.refl q5 W).set k v
  exact ⟨h.but.both_ hs h.lo (by have := h.lo; omega), h.rd.both_ hs (by have := h.lo; omega), ha, ⟨_, hf.set k v⟩, h.lo, hb'⟩
end Go.Proofs.YtnolbfijcnldjaaGreatDoor

/- What a code draws: a tree and something to be done (DrawActDo). -/
namespace Go.Proofs.YtnolbfijcnldjaaGreatDoor
open Go.RowKit

/-- The boxes of the answer, the box of the tree that was drawn first. -/
structure DA (w W : World) (T b c : Nat) : Prop where
  below : Below w.heap.size w W
  r1 : W.rowIs w.heap.size 25 1 (zrow #[.slice none 0 0])
  r2 : W.rowIs (w.heap.size + 1) 27 7 (zrow #[.int .i64 0, .int .i64 0, .string ⟨#[]⟩, .int .i64 0, .string ⟨#[]⟩, .int .i64 0, .string ⟨#[]⟩])
  rlt2 : w.heap.size + 1 + 1 < W.heap.size
  t : W.cell? ⟨T, 0, none⟩ = some (.slice (some ⟨b, 0, none⟩) 32 c)
  tlo : w.heap.size + 1 + 1 < T
  tlt : T < W.heap.size
theorem DA.next {w W W' : World} {T b c : Nat} (h : DA w W T b c) (hb : Below W.heap.size W W') : DA w W' T b c :=
  ⟨h.below.trans (hb.mono h.below.size), h.r1.of_block (hb.block _ (by have := h.rlt2; omega)), h.r2.of_block (hb.block _ (by have := h.rlt2; omega)), by have := hb.size; have := h.rlt2; omega,
    by rw [hb.cell (by simpa using h.tlt)]; exact h.t, h.tlo, by have := hb.size; have := h.tlt; omega⟩
end Go.Proofs.YtnolbfijcnldjaaGreatDoor

/- At every code the call of laws.FnActTurn returns true. -/
namespace Go.Proofs.YtnolbfijcnldjaaGreatDoor
open Go.RowKit

/-- What was drawn, in its boxes. -/
structure AC (w W : World) (T b k c1 : Nat) (os : List LObj) (o : LOp) : Prop where
  below : Below w.heap.size w W
  t : W.cell? ⟨T, 0, none⟩ = some (.slice (some ⟨b, 0, none⟩) k c1)
  k0 : W.cell? ⟨T + 1, 0, none⟩ = some (.int .i64 o.kind)
  k1 : W.cell? ⟨T + 1, 1, none⟩ = some (.int .i64 o.dir)
  k2 : W.cell? ⟨T + 1, 2, none⟩ = some (.string o.name)
  k3 : W.cell? ⟨T + 1, 3, none⟩ = some (.int .i64 o.dir2)
  k4 : W.cell? ⟨T + 1, 4, none⟩ = some (.string o.name2)
  k5 : W.cell? ⟨T + 1, 5, none⟩ = some (.int .i64 o.id)
  k6 : W.cell? ⟨T + 1, 6, none⟩ = some (.string o.text)
  at_ : ObjsAt W w.heap.size T (some ⟨b, 0, none⟩) k os
  lo : w.heap.size ≤ T
  lt : T + 1 < W.heap.size
theorem AC.next {w W W' : World} {T b k c1 : Nat} {os : List LObj} {o : LOp} (h : AC w W T b k c1 os o) (hb : Below W.heap.size W W') : AC w W' T b k c1 os o := by
  have hlt := h.lt
  have hc : ∀ j, W'.cell? ⟨T + 1, j, none⟩ = W.cell? ⟨T + 1, j, none⟩ := fun j => hb.cell (by simpa using hlt)
  exact ⟨h.below.trans (hb.mono h.below.size), by rw [hb.cell (by simp; omega)]; exact h.t, by rw [hc]; exact h.k0, by rw [hc]; exact h.k1, by rw [hc]; exact h.k2, by rw [hc]; exact h.k3, by rw [hc]; exact h.k4, by rw [hc]; exact h.k5, by rw [hc]; exact h.k6, h.at_.below hb (by omega), h.lo, by have := hb.size; omega⟩
/-- The tree that came out, in its box. -/
structure XT (W : World) (X : Nat) (x : Option Addr) (c : Nat) (rl : List LObj) : Prop where
  box : W.cell? ⟨X, 0, none⟩ = some (.slice x rl.length c)
  at_ : ObjsAt W 0 X x rl.length rl
  lt : X < W.heap.size
theorem XT.next {W W' : World} {X : Nat} {x : Option Addr} {c : Nat} {rl : List LObj} (h : XT W X x c rl) (hb : Below W.heap.size W W') : XT W' X x c rl :=
  ⟨by rw [hb.cell (by simpa using h.lt)]; exact h.box, h.at_.below hb (Nat.le_of_lt h.lt), by have := hb.size; have := h.lt; omega⟩
/-- One object of a list, whole. -/
theorem ObjsAt.one {W : World} {L U : Nat} {a : Option Addr} {n : Nat} {os : List LObj} (h : ObjsAt W L U a n os) {i : Nat} (hi : i < n) : ∃ b off x ka kc, a = some ⟨b, off, none⟩ ∧ os[i]? = some x ∧ W.cell? ⟨b, off + i * 4, none⟩ = some (.int .i64 x.kind) ∧ W.cell? ⟨b, off + i * 4 + 1, none⟩ = some (.int .i64 x.ver) ∧ W.cell? ⟨b, off + i * 4 + 2, none⟩ = some (.string x.text) ∧ W.cell? ⟨b, off + i * 4 + 3, none⟩ = some (.slice ka x.kids.length kc) ∧ EntsAt W L U ka x.kids.length x.kids := by
  obtain ⟨b, off, he, -, -, hc⟩ := h.at_ (by omega)
  obtain ⟨x, ka, kn, kc, h1, -, h2, h3, h6, h4, h5⟩ := hc i hi
  have hl := h5.len
  subst hl
  exact ⟨b, off, x, ka, kc, he, h1, h2, h3, h6, h4, h5⟩

/-- An object in a box. -/
structure OBx (W : World) (A : Nat) (x : LObj) (ka : Option Addr) (kc : Nat) : Prop where
  c0 : W.cell? ⟨A, 0, none⟩ = some (.int .i64 x.kind)
  c1 : W.cell? ⟨A, 1, none⟩ = some (.int .i64 x.ver)
  c2 : W.cell? ⟨A, 2, none⟩ = some (.string x.text)
  c3 : W.cell? ⟨A, 3, none⟩ = some (.slice ka x.kids.length kc)
  es : EntsAt W 0 A ka x.kids.length x.kids
  lt : A < W.heap.size
theorem Hid.mk' {p : Prop} (h : p) : Hid p := h
theorem OBx.next {W W' : World} {A : Nat} {x : LObj} {ka : Option Addr} {kc : Nat} (h : OBx W A x ka kc) (hb : Below W.heap.size W W') : OBx W' A x ka kc :=
  ⟨by rw [hb.cell (by simpa using h.lt)]; exact h.c0, by rw [hb.cell (by simpa using h.lt)]; exact h.c1, by rw [hb.cell (by simpa using h.lt)]; exact h.c2, by rw [hb.cell (by simpa using h.lt)]; exact h.c3, h.es.below hb (Nat.le_of_lt h.lt), by have := hb.size; have := h.lt; omega⟩
theorem wrap_nat {j : Nat} (h : j < 9223372036854775807) : Value.int .i64 (wrap64 ((j : Int) + 1)) = Value.int .i64 (((j + 1 : Nat)) : Int) := by
  have : wrap64 ((j : Int) + 1) = ((j + 1 : Nat) : Int) := by unfold wrap64; omega
  rw [this]
end Go.Proofs.YtnolbfijcnldjaaGreatDoor

/- What stands in the boxes of the laws of what is done. -/
namespace Go.Proofs.YtnolbfijcnldjaaGreatDoor
open Go.RowKit

/-- Something to be done, in its box. -/
structure PB (W : World) (A : Nat) (o : LOp) : Prop where
  k0 : W.cell? ⟨A, 0, none⟩ = some (.int .i64 o.kind)
  k1 : W.cell? ⟨A, 1, none⟩ = some (.int .i64 o.dir)
  k2 : W.cell? ⟨A, 2, none⟩ = some (.string o.name)
  k3 : W.cell? ⟨A, 3, none⟩ = some (.int .i64 o.dir2)
  k4 : W.cell? ⟨A, 4, none⟩ = some (.string o.name2)
  k5 : W.cell? ⟨A, 5, none⟩ = some (.int .i64 o.id)
  k6 : W.cell? ⟨A, 6, none⟩ = some (.string o.text)
  lt : A < W.heap.size
theorem PB.next {W W' : World} {A : Nat} {o : LOp} (h : PB W A o) (hb : Below W.heap.size W W') : PB W' A o := by
  have hlt := h.lt
  have hc : ∀ j, W'.cell? ⟨A, j, none⟩ = W.cell? ⟨A, j, none⟩ := fun j => hb.cell (by simpa using hlt)
  exact ⟨by rw [hc]; exact h.k0, by rw [hc]; exact h.k1, by rw [hc]; exact h.k2, by rw [hc]; exact h.k3, by rw [hc]; exact h.k4, by rw [hc]; exact h.k5, by rw [hc]; exact h.k6, by have := hb.size; omega⟩
end Go.Proofs.YtnolbfijcnldjaaGreatDoor
