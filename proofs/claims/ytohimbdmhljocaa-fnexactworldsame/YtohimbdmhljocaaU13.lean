/- Lemmas that the proofs of this seat share: WldI. -/
import Derived.Test.YtohimbdmhljocaaU11
/- WorldSame of the specification. -/
namespace Go.Proofs.Ytohimbdmhljocaa
open Go.RowKit Go.ChangeShapes Go.WideShapes
set_option maxHeartbeats 16000000 in
set_option maxRecDepth 20000 in
theorem specWorldSame (a0 : Option Addr) (n0 c0 : Nat) (a1 : Option Addr) (n1 c1 : Nat) (a2 : Option Addr) (n2 c2 : Nat) (a3 : Option Addr) (n3 c3 : Nat) (a4 : Option Addr) (n4 c4 : Nat) (a5 : Option Addr) (n5 c5 : Nat) (x0 : Option Addr) (m0 y0 : Nat) (x1 : Option Addr) (m1 y1 : Nat) (x2 : Option Addr) (m2 y2 : Nat) (x3 : Option Addr) (m3 y3 : Nat) (x4 : Option Addr) (m4 y4 : Nat) (x5 : Option Addr) (m5 y5 : Nat) (A B : LWorld) (L U L' U' : Nat) (w : World) (hU : U ≤ w.heap.size) (hU' : U' ≤ w.heap.size) (H : WorldAt w L U a0 n0 a1 n1 a2 n2 a3 n3 a4 n4 a5 n5 A) (H' : WorldAt w L' U' x0 m0 x1 m1 x2 m2 x3 m3 x4 m4 x5 m5 B) :
    Calls Try.prog 17 #[.agg #[.slice a0 n0 c0, .slice a1 n1 c1, .slice a2 n2 c2, .slice a3 n3 c3, .slice a4 n4 c4, .slice a5 n5 c5], .agg #[.slice x0 m0 y0, .slice x1 m1 y1, .slice x2 m2 y2, .slice x3 m3 y3, .slice x4 m4 y4, .slice x5 m5 y5]] w fun e w' => e = .returned (.bool (worldEq A B)) ∧ Below w.heap.size w w' := by
  have A0 : BoxI ((w.alloc (.cells #[.slice a0 n0 c0, .slice a1 n1 c1, .slice a2 n2 c2, .slice a3 n3 c3, .slice a4 n4 c4, .slice a5 n5 c5] 39)).alloc (.cells #[.slice x0 m0 y0, .slice x1 m1 y1, .slice x2 m2 y2, .slice x3 m3 y3, .slice x4 m4 y4, .slice x5 m5 y5] 39)) w.heap.size 39 [.slice a0 n0 c0, .slice a1 n1 c1, .slice a2 n2 c2, .slice a3 n3 c3, .slice a4 n4 c4, .slice a5 n5 c5] := (BoxI.new rfl).alloc _
  have A1 : BoxI ((w.alloc (.cells #[.slice a0 n0 c0, .slice a1 n1 c1, .slice a2 n2 c2, .slice a3 n3 c3, .slice a4 n4 c4, .slice a5 n5 c5] 39)).alloc (.cells #[.slice x0 m0 y0, .slice x1 m1 y1, .slice x2 m2 y2, .slice x3 m3 y3, .slice x4 m4 y4, .slice x5 m5 y5] 39)) (w.heap.size + 1) 39 [.slice x0 m0 y0, .slice x1 m1 y1, .slice x2 m2 y2, .slice x3 m3 y3, .slice x4 m4 y4, .slice x5 m5 y5] := BoxI.new (by simp)
  have hB0 : Below w.heap.size w ((w.alloc (.cells #[.slice a0 n0 c0, .slice a1 n1 c1, .slice a2 n2 c2, .slice a3 n3 c3, .slice a4 n4 c4, .slice a5 n5 c5] 39)).alloc (.cells #[.slice x0 m0 y0, .slice x1 m1 y1, .slice x2 m2 y2, .slice x3 m3 y3, .slice x4 m4 y4, .slice x5 m5 y5] 39)) := ((Below.refl _ _).alloc (Nat.le_refl _) _).alloc (by simp) _
  have HB0 := hidMk A0
  have HB1 := hidMk A1
  have HH := hidMk H
  have HH' := hidMk H'
  clear A0 A1 H H'
  go_enter Try.func17, Try.ntmps17
  go_wp2_with fail
  refine (specShopSame _ _ _ _ _ _ _ _ _ _ _ _ _ _ _ _ L U L' U' _ (by have := hB0.size; omega) (by have := hB0.size; omega) (HH.out.tree.below hB0 hU) (HH.out.dones.below hB0 hU) (HH'.out.tree.below hB0 hU') (HH'.out.dones.below hB0 hU')).mono ?_
  rintro e w1 ⟨rfl, hb1⟩
  have hB1 : Below w.heap.size w w1 := hB0.trans (hb1.mono hB0.size)
  have B0 := HB0.out.next hb1 HB0.out.lt
  have B1 := HB1.out.next hb1 HB1.out.lt
  clear HB0 HB1 hb1
  have HB0 := hidMk B0
  have HB1 := hidMk B1
  obtain ⟨_, _, f2, f3, f4, f5⟩ := B0.c6
  obtain ⟨_, _, g2, g3, g4, g5⟩ := B1.c6
  clear B0 B1
  rcases t1 : shopEq A.tree B.tree A.dones B.dones with _ | _
  · have HX := hidMk t1
    go_wp2_with fail
    go_ret
    exact ⟨ret_bool (by rw [worldEq, HX.out]; simp), hB1⟩
  have HX1 := hidMk t1
  clear t1
  by_cases h2 : n2 = m2
  case neg =>
    have hne : ((n2 : Int) != m2) = true := by simp; omega
    have HN : Hid (listEq keepEq A.keeps B.keeps = false) := listEq_len (by rw [← HH.out.keeps.len, ← HH'.out.keeps.len]; exact h2)
    go_wp2_with fail
    go_ret
    exact ⟨ret_bool (by rw [worldEq, HN.out]; simp), hB1⟩
  subst h2
  by_cases h3 : n3 = m3
  case neg =>
    have hne : ((n3 : Int) != m3) = true := by simp; omega
    have HN : Hid (listEq msgEqM A.net B.net = false) := listEq_len (by rw [← HH.out.net.len, ← HH'.out.net.len]; exact h3)
    go_wp2_with fail
    go_ret
    exact ⟨ret_bool (by rw [worldEq, HN.out]; simp), hB1⟩
  subst h3
  by_cases h4 : n4 = m4
  case neg =>
    have hne : ((n4 : Int) != m4) = true := by simp; omega
    have HN : Hid (listEq logEq A.past B.past = false) := listEq_len (by rw [← HH.out.past.len, ← HH'.out.past.len]; exact h4)
    go_wp2_with fail
    go_ret
    exact ⟨ret_bool (by rw [worldEq, HN.out]; simp), hB1⟩
  subst h4
  by_cases h5 : n5 = m5
  case neg =>
    have hne : ((n5 : Int) != m5) = true := by simp; omega
    have HN : Hid (listEq toldEq A.told B.told = false) := listEq_len (by rw [← HH.out.told.len, ← HH'.out.told.len]; exact h5)
    go_wp2_with fail
    go_ret
    exact ⟨ret_bool (by rw [worldEq, HN.out]; simp), hB1⟩
  subst h5
  have HS2 := HH.out.keeps.below eltKeep hB1 hU
  have HT2 := HH'.out.keeps.below eltKeep hB1 hU'
  have hbd2 := HS2.bd
  have HS3 := HH.out.net.below eltMsg hB1 hU
  have HT3 := HH'.out.net.below eltMsg hB1 hU'
  have hbd3 := HS3.bd
  have HS4 := HH.out.past.below eltLog hB1 hU
  have HT4 := HH'.out.past.below eltLog hB1 hU'
  have hbd4 := HS4.bd
  have HS5 := HH.out.told.below eltTold hB1 hU
  have HT5 := HH'.out.told.below eltTold hB1 hU'
  have hbd5 := HS5.bd
  unfold maxLen at hbd2 hbd3 hbd4 hbd5
  have hU3 : U ≤ w1.heap.size := by have := hB1.size; omega
  have hU3' : U' ≤ w1.heap.size := by have := hB1.size; omega
  have HV : Hid (worldEq A B = (listEq keepEq A.keeps B.keeps && listEq msgEqM A.net B.net && listEq logEq A.past B.past && listEq toldEq A.told B.told)) := by show _ = _; rw [worldEq, HX1.out]; simp
  have hBW := hB1
  clear HH HH' HX1
  go_wp2_with fail
  go_loopg [5] n2 (fun g i wr => ∃ j : Nat, j ≤ n2 ∧ Hid (g = n2 - j) ∧ i = .int .i64 j ∧ Hid (∀ i, i < j → ∀ x y, A.keeps[i]? = some x → B.keeps[i]? = some y → keepEq x y = true) ∧ Below w1.heap.size w1 wr)
  case atStart => exact ⟨0, Nat.zero_le _, by show _ = _; omega, rfl, fun i hi => by omega, Below.refl _ _⟩
  case round =>
    obtain ⟨j, hj, hk, rfl, hq, hb⟩ := hrel
    have hs1 := hb.size
    have BX0 := HB0.out.next hb HB0.out.lt
    have BX1 := HB1.out.next hb HB1.out.lt
    obtain ⟨_, _, f2, f3, f4, f5⟩ := BX0.c6
    obtain ⟨_, _, g2, g3, g4, g5⟩ := BX1.c6
    have hw0 := BX0.lt
    have hw1 := BX1.lt
    clear BX0 BX1
    by_cases hlt : j < n2
    · obtain ⟨b9, off, ha, hL, hbU, hc⟩ := HS2.at_ (by omega)
      obtain ⟨b9', off', ha', hL', hbU', hc'⟩ := HT2.at_ (by omega)
      subst ha ha'
      obtain ⟨x, vs, he, hc, hE⟩ := hc j hlt
      obtain ⟨x', vs', he2, hc', hE'⟩ := hc' j hlt
      obtain ⟨q, s, ea1, en1, ec1', b1, ea2, en2, ec2', ea3, en3, ec3', ea4, en4, ec4', rfl, hK⟩ := hE
      obtain ⟨q', s', ea1', en1', ec1'', b1', ea2', en2', ec2'', ea3', en3', ec3'', ea4', en4', ec4'', rfl, hM⟩ := hE'
      have c0 := hc 0 _ rfl
      have c1 := hc 1 _ rfl
      have c2 := hc 2 _ rfl
      have c3 := hc 3 _ rfl
      have c4 := hc 4 _ rfl
      have c5 := hc 5 _ rfl
      have c6 := hc 6 _ rfl
      simp only [Nat.add_zero] at c0
      rw [← hb.cell (by simp; omega)] at c0 c1 c2 c3 c4 c5 c6
      have d0 := hc' 0 _ rfl
      have d1 := hc' 1 _ rfl
      have d2 := hc' 2 _ rfl
      have d3 := hc' 3 _ rfl
      have d4 := hc' 4 _ rfl
      have d5 := hc' 5 _ rfl
      have d6 := hc' 6 _ rfl
      simp only [Nat.add_zero] at d0
      rw [← hb.cell (by simp; omega)] at d0 d1 d2 d3 d4 d5 d6
      have HE : Hid (A.keeps[j]? = some x ∧ B.keeps[j]? = some x') := ⟨he, he2⟩
      have hbl : b9 < wr.heap.size := by omega
      have hbl' : b9' < wr.heap.size := by omega
      clear he he2 hc hc'
      have hlt' : (j : Int) < (n2 : Int) := by omega
      have HK := hidMk (hK.below hb (by omega))
      have HM := hidMk (hM.below hb (by omega))
      clear hK hM
      go_upto_region 6 with fail
      refine wp_region_held_drew (S := (fun W => Below wr.heap.size wr W)) (by kernel_rfl) ?_ (fun hHeld => ?_)
      · exact (Below.refl _ _).drew
      refine listH (l2 := #[false, false, false, false, false, false, false, false, false, false, false, false]) (by kernel_rfl) ?_
      refine takeH (i := 0) (oi := _) (v := ?vs2x0) 58 #[true, false, false, false, false, false, false, false, false, false, false, false] rfl (by kernel_rfl) (by kernel_rfl) (by kernel_rfl) rfl (by kernel_rfl) (fun _ _ _ h => h) (Or.inl ⟨by rfl, ?ys2x0⟩) (by assumption) ?rs2x0
      case ys2x0 => (intro w' hSw; (try dsimp only at hSw); have x0 := (hSw.cell (by show b9 < wr.heap.size; exact hbl)).trans c0; have y0 := (hSw.cell (by show b9' < wr.heap.size; exact hbl')).trans d0; have x1 := (hSw.cell (by show b9 < wr.heap.size; exact hbl)).trans c1; have y1 := (hSw.cell (by show b9' < wr.heap.size; exact hbl')).trans d1; have x2 := (hSw.cell (by show b9 < wr.heap.size; exact hbl)).trans c2; have y2 := (hSw.cell (by show b9' < wr.heap.size; exact hbl')).trans d2; have x3 := (hSw.cell (by show b9 < wr.heap.size; exact hbl)).trans c3; have y3 := (hSw.cell (by show b9' < wr.heap.size; exact hbl')).trans d3; have x4 := (hSw.cell (by show b9 < wr.heap.size; exact hbl)).trans c4; have y4 := (hSw.cell (by show b9' < wr.heap.size; exact hbl')).trans d4; have x5 := (hSw.cell (by show b9 < wr.heap.size; exact hbl)).trans c5; have y5 := (hSw.cell (by show b9' < wr.heap.size; exact hbl')).trans d5; have x6 := (hSw.cell (by show b9 < wr.heap.size; exact hbl)).trans c6; have y6 := (hSw.cell (by show b9' < wr.heap.size; exact hbl')).trans d6; have xf := (hSw.cell (by show w.heap.size < wr.heap.size; exact hw0)).trans f2; have xg := (hSw.cell (by show w.heap.size + 1 < wr.heap.size; exact hw1)).trans g2; go_simp; try with_reducible rfl)
      simp only [Act.put, List.setIfInBounds_toArray, List.set_cons_succ, List.set_cons_zero]
      refine takeH (i := 1) (oi := _) (v := ?vs2x1) 59 #[true, true, false, false, false, false, false, false, false, false, false, false] rfl (by kernel_rfl) (by kernel_rfl) (by kernel_rfl) rfl (by kernel_rfl) (fun _ _ _ h => h) (Or.inl ⟨by rfl, ?ys2x1⟩) (by assumption) ?rs2x1
      case ys2x1 => (intro w' hSw; (try dsimp only at hSw); have x0 := (hSw.cell (by show b9 < wr.heap.size; exact hbl)).trans c0; have y0 := (hSw.cell (by show b9' < wr.heap.size; exact hbl')).trans d0; have x1 := (hSw.cell (by show b9 < wr.heap.size; exact hbl)).trans c1; have y1 := (hSw.cell (by show b9' < wr.heap.size; exact hbl')).trans d1; have x2 := (hSw.cell (by show b9 < wr.heap.size; exact hbl)).trans c2; have y2 := (hSw.cell (by show b9' < wr.heap.size; exact hbl')).trans d2; have x3 := (hSw.cell (by show b9 < wr.heap.size; exact hbl)).trans c3; have y3 := (hSw.cell (by show b9' < wr.heap.size; exact hbl')).trans d3; have x4 := (hSw.cell (by show b9 < wr.heap.size; exact hbl)).trans c4; have y4 := (hSw.cell (by show b9' < wr.heap.size; exact hbl')).trans d4; have x5 := (hSw.cell (by show b9 < wr.heap.size; exact hbl)).trans c5; have y5 := (hSw.cell (by show b9' < wr.heap.size; exact hbl')).trans d5; have x6 := (hSw.cell (by show b9 < wr.heap.size; exact hbl)).trans c6; have y6 := (hSw.cell (by show b9' < wr.heap.size; exact hbl')).trans d6; have xf := (hSw.cell (by show w.heap.size < wr.heap.size; exact hw0)).trans f2; have xg := (hSw.cell (by show w.heap.size + 1 < wr.heap.size; exact hw1)).trans g2; go_simp; try with_reducible rfl)
      simp only [Act.put, List.setIfInBounds_toArray, List.set_cons_succ, List.set_cons_zero]
      refine takeH (i := 2) (oi := _) (v := ?vs2x2) 60 #[true, true, true, false, false, false, false, false, false, false, false, false] rfl (by kernel_rfl) (by kernel_rfl) (by kernel_rfl) rfl (by kernel_rfl) (fun _ _ _ h => h) (Or.inl ⟨by rfl, ?ys2x2⟩) (by assumption) ?rs2x2
      case ys2x2 => (intro w' hSw; (try dsimp only at hSw); have x0 := (hSw.cell (by show b9 < wr.heap.size; exact hbl)).trans c0; have y0 := (hSw.cell (by show b9' < wr.heap.size; exact hbl')).trans d0; have x1 := (hSw.cell (by show b9 < wr.heap.size; exact hbl)).trans c1; have y1 := (hSw.cell (by show b9' < wr.heap.size; exact hbl')).trans d1; have x2 := (hSw.cell (by show b9 < wr.heap.size; exact hbl)).trans c2; have y2 := (hSw.cell (by show b9' < wr.heap.size; exact hbl')).trans d2; have x3 := (hSw.cell (by show b9 < wr.heap.size; exact hbl)).trans c3; have y3 := (hSw.cell (by show b9' < wr.heap.size; exact hbl')).trans d3; have x4 := (hSw.cell (by show b9 < wr.heap.size; exact hbl)).trans c4; have y4 := (hSw.cell (by show b9' < wr.heap.size; exact hbl')).trans d4; have x5 := (hSw.cell (by show b9 < wr.heap.size; exact hbl)).trans c5; have y5 := (hSw.cell (by show b9' < wr.heap.size; exact hbl')).trans d5; have x6 := (hSw.cell (by show b9 < wr.heap.size; exact hbl)).trans c6; have y6 := (hSw.cell (by show b9' < wr.heap.size; exact hbl')).trans d6; have xf := (hSw.cell (by show w.heap.size < wr.heap.size; exact hw0)).trans f2; have xg := (hSw.cell (by show w.heap.size + 1 < wr.heap.size; exact hw1)).trans g2; go_simp; try with_reducible rfl)
      simp only [Act.put, List.setIfInBounds_toArray, List.set_cons_succ, List.set_cons_zero]
      refine takeH (i := 3) (oi := _) (v := ?vs2x3) 61 #[true, true, true, true, false, false, false, false, false, false, false, false] rfl (by kernel_rfl) (by kernel_rfl) (by kernel_rfl) rfl (by kernel_rfl) (fun _ _ _ h => h) (Or.inl ⟨by rfl, ?ys2x3⟩) (by assumption) ?rs2x3
      case ys2x3 => (intro w' hSw; (try dsimp only at hSw); have x0 := (hSw.cell (by show b9 < wr.heap.size; exact hbl)).trans c0; have y0 := (hSw.cell (by show b9' < wr.heap.size; exact hbl')).trans d0; have x1 := (hSw.cell (by show b9 < wr.heap.size; exact hbl)).trans c1; have y1 := (hSw.cell (by show b9' < wr.heap.size; exact hbl')).trans d1; have x2 := (hSw.cell (by show b9 < wr.heap.size; exact hbl)).trans c2; have y2 := (hSw.cell (by show b9' < wr.heap.size; exact hbl')).trans d2; have x3 := (hSw.cell (by show b9 < wr.heap.size; exact hbl)).trans c3; have y3 := (hSw.cell (by show b9' < wr.heap.size; exact hbl')).trans d3; have x4 := (hSw.cell (by show b9 < wr.heap.size; exact hbl)).trans c4; have y4 := (hSw.cell (by show b9' < wr.heap.size; exact hbl')).trans d4; have x5 := (hSw.cell (by show b9 < wr.heap.size; exact hbl)).trans c5; have y5 := (hSw.cell (by show b9' < wr.heap.size; exact hbl')).trans d5; have x6 := (hSw.cell (by show b9 < wr.heap.size; exact hbl)).trans c6; have y6 := (hSw.cell (by show b9' < wr.heap.size; exact hbl')).trans d6; have xf := (hSw.cell (by show w.heap.size < wr.heap.size; exact hw0)).trans f2; have xg := (hSw.cell (by show w.heap.size + 1 < wr.heap.size; exact hw1)).trans g2; go_simp; try with_reducible rfl)
      simp only [Act.put, List.setIfInBounds_toArray, List.set_cons_succ, List.set_cons_zero]
      refine takeH (i := 4) (oi := _) (v := ?vs2x4) 62 #[true, true, true, true, true, false, false, false, false, false, false, false] rfl (by kernel_rfl) (by kernel_rfl) (by kernel_rfl) rfl (by kernel_rfl) (fun _ _ _ h => h) (Or.inl ⟨by rfl, ?ys2x4⟩) (by assumption) ?rs2x4
      case ys2x4 => (intro w' hSw; (try dsimp only at hSw); have x0 := (hSw.cell (by show b9 < wr.heap.size; exact hbl)).trans c0; have y0 := (hSw.cell (by show b9' < wr.heap.size; exact hbl')).trans d0; have x1 := (hSw.cell (by show b9 < wr.heap.size; exact hbl)).trans c1; have y1 := (hSw.cell (by show b9' < wr.heap.size; exact hbl')).trans d1; have x2 := (hSw.cell (by show b9 < wr.heap.size; exact hbl)).trans c2; have y2 := (hSw.cell (by show b9' < wr.heap.size; exact hbl')).trans d2; have x3 := (hSw.cell (by show b9 < wr.heap.size; exact hbl)).trans c3; have y3 := (hSw.cell (by show b9' < wr.heap.size; exact hbl')).trans d3; have x4 := (hSw.cell (by show b9 < wr.heap.size; exact hbl)).trans c4; have y4 := (hSw.cell (by show b9' < wr.heap.size; exact hbl')).trans d4; have x5 := (hSw.cell (by show b9 < wr.heap.size; exact hbl)).trans c5; have y5 := (hSw.cell (by show b9' < wr.heap.size; exact hbl')).trans d5; have x6 := (hSw.cell (by show b9 < wr.heap.size; exact hbl)).trans c6; have y6 := (hSw.cell (by show b9' < wr.heap.size; exact hbl')).trans d6; have xf := (hSw.cell (by show w.heap.size < wr.heap.size; exact hw0)).trans f2; have xg := (hSw.cell (by show w.heap.size + 1 < wr.heap.size; exact hw1)).trans g2; go_simp; try with_reducible rfl)
      simp only [Act.put, List.setIfInBounds_toArray, List.set_cons_succ, List.set_cons_zero]
      refine takeH (i := 5) (oi := _) (v := ?vs2x5) 63 #[true, true, true, true, true, true, false, false, false, false, false, false] rfl (by kernel_rfl) (by kernel_rfl) (by kernel_rfl) rfl (by kernel_rfl) (fun _ _ _ h => h) (Or.inl ⟨by rfl, ?ys2x5⟩) (by assumption) ?rs2x5
      case ys2x5 => (intro w' hSw; (try dsimp only at hSw); have x0 := (hSw.cell (by show b9 < wr.heap.size; exact hbl)).trans c0; have y0 := (hSw.cell (by show b9' < wr.heap.size; exact hbl')).trans d0; have x1 := (hSw.cell (by show b9 < wr.heap.size; exact hbl)).trans c1; have y1 := (hSw.cell (by show b9' < wr.heap.size; exact hbl')).trans d1; have x2 := (hSw.cell (by show b9 < wr.heap.size; exact hbl)).trans c2; have y2 := (hSw.cell (by show b9' < wr.heap.size; exact hbl')).trans d2; have x3 := (hSw.cell (by show b9 < wr.heap.size; exact hbl)).trans c3; have y3 := (hSw.cell (by show b9' < wr.heap.size; exact hbl')).trans d3; have x4 := (hSw.cell (by show b9 < wr.heap.size; exact hbl)).trans c4; have y4 := (hSw.cell (by show b9' < wr.heap.size; exact hbl')).trans d4; have x5 := (hSw.cell (by show b9 < wr.heap.size; exact hbl)).trans c5; have y5 := (hSw.cell (by show b9' < wr.heap.size; exact hbl')).trans d5; have x6 := (hSw.cell (by show b9 < wr.heap.size; exact hbl)).trans c6; have y6 := (hSw.cell (by show b9' < wr.heap.size; exact hbl')).trans d6; have xf := (hSw.cell (by show w.heap.size < wr.heap.size; exact hw0)).trans f2; have xg := (hSw.cell (by show w.heap.size + 1 < wr.heap.size; exact hw1)).trans g2; go_simp; try with_reducible rfl)
      simp only [Act.put, List.setIfInBounds_toArray, List.set_cons_succ, List.set_cons_zero]
      refine takeH (i := 6) (oi := _) (v := ?vs2x6) 64 #[true, true, true, true, true, true, true, false, false, false, false, false] rfl (by kernel_rfl) (by kernel_rfl) (by kernel_rfl) rfl (by kernel_rfl) (fun _ _ _ h => h) (Or.inl ⟨by rfl, ?ys2x6⟩) (by assumption) ?rs2x6
      case ys2x6 => (intro w' hSw; (try dsimp only at hSw); have x0 := (hSw.cell (by show b9 < wr.heap.size; exact hbl)).trans c0; have y0 := (hSw.cell (by show b9' < wr.heap.size; exact hbl')).trans d0; have x1 := (hSw.cell (by show b9 < wr.heap.size; exact hbl)).trans c1; have y1 := (hSw.cell (by show b9' < wr.heap.size; exact hbl')).trans d1; have x2 := (hSw.cell (by show b9 < wr.heap.size; exact hbl)).trans c2; have y2 := (hSw.cell (by show b9' < wr.heap.size; exact hbl')).trans d2; have x3 := (hSw.cell (by show b9 < wr.heap.size; exact hbl)).trans c3; have y3 := (hSw.cell (by show b9' < wr.heap.size; exact hbl')).trans d3; have x4 := (hSw.cell (by show b9 < wr.heap.size; exact hbl)).trans c4; have y4 := (hSw.cell (by show b9' < wr.heap.size; exact hbl')).trans d4; have x5 := (hSw.cell (by show b9 < wr.heap.size; exact hbl)).trans c5; have y5 := (hSw.cell (by show b9' < wr.heap.size; exact hbl')).trans d5; have x6 := (hSw.cell (by show b9 < wr.heap.size; exact hbl)).trans c6; have y6 := (hSw.cell (by show b9' < wr.heap.size; exact hbl')).trans d6; have xf := (hSw.cell (by show w.heap.size < wr.heap.size; exact hw0)).trans f2; have xg := (hSw.cell (by show w.heap.size + 1 < wr.heap.size; exact hw1)).trans g2; go_simp; try with_reducible rfl)
      simp only [Act.put, List.setIfInBounds_toArray, List.set_cons_succ, List.set_cons_zero]
      refine takeH (i := 7) (oi := _) (v := ?vs2x7) 65 #[true, true, true, true, true, true, true, true, false, false, false, false] rfl (by kernel_rfl) (by kernel_rfl) (by kernel_rfl) rfl (by kernel_rfl) (fun _ _ _ h => h) (Or.inl ⟨by rfl, ?ys2x7⟩) (by assumption) ?rs2x7
      case ys2x7 => (intro w' hSw; (try dsimp only at hSw); have x0 := (hSw.cell (by show b9 < wr.heap.size; exact hbl)).trans c0; have y0 := (hSw.cell (by show b9' < wr.heap.size; exact hbl')).trans d0; have x1 := (hSw.cell (by show b9 < wr.heap.size; exact hbl)).trans c1; have y1 := (hSw.cell (by show b9' < wr.heap.size; exact hbl')).trans d1; have x2 := (hSw.cell (by show b9 < wr.heap.size; exact hbl)).trans c2; have y2 := (hSw.cell (by show b9' < wr.heap.size; exact hbl')).trans d2; have x3 := (hSw.cell (by show b9 < wr.heap.size; exact hbl)).trans c3; have y3 := (hSw.cell (by show b9' < wr.heap.size; exact hbl')).trans d3; have x4 := (hSw.cell (by show b9 < wr.heap.size; exact hbl)).trans c4; have y4 := (hSw.cell (by show b9' < wr.heap.size; exact hbl')).trans d4; have x5 := (hSw.cell (by show b9 < wr.heap.size; exact hbl)).trans c5; have y5 := (hSw.cell (by show b9' < wr.heap.size; exact hbl')).trans d5; have x6 := (hSw.cell (by show b9 < wr.heap.size; exact hbl)).trans c6; have y6 := (hSw.cell (by show b9' < wr.heap.size; exact hbl')).trans d6; have xf := (hSw.cell (by show w.heap.size < wr.heap.size; exact hw0)).trans f2; have xg := (hSw.cell (by show w.heap.size + 1 < wr.heap.size; exact hw1)).trans g2; go_simp; try with_reducible rfl)
      simp only [Act.put, List.setIfInBounds_toArray, List.set_cons_succ, List.set_cons_zero]
      refine takeH (i := 8) (oi := _) (v := ?vs2x8) 66 #[true, true, true, true, true, true, true, true, true, false, false, false] rfl (by kernel_rfl) (by kernel_rfl) (by kernel_rfl) rfl (by kernel_rfl) (fun _ _ _ h => h) (Or.inl ⟨by rfl, ?ys2x8⟩) (by assumption) ?rs2x8
      case ys2x8 => (intro w' hSw; (try dsimp only at hSw); have x0 := (hSw.cell (by show b9 < wr.heap.size; exact hbl)).trans c0; have y0 := (hSw.cell (by show b9' < wr.heap.size; exact hbl')).trans d0; have x1 := (hSw.cell (by show b9 < wr.heap.size; exact hbl)).trans c1; have y1 := (hSw.cell (by show b9' < wr.heap.size; exact hbl')).trans d1; have x2 := (hSw.cell (by show b9 < wr.heap.size; exact hbl)).trans c2; have y2 := (hSw.cell (by show b9' < wr.heap.size; exact hbl')).trans d2; have x3 := (hSw.cell (by show b9 < wr.heap.size; exact hbl)).trans c3; have y3 := (hSw.cell (by show b9' < wr.heap.size; exact hbl')).trans d3; have x4 := (hSw.cell (by show b9 < wr.heap.size; exact hbl)).trans c4; have y4 := (hSw.cell (by show b9' < wr.heap.size; exact hbl')).trans d4; have x5 := (hSw.cell (by show b9 < wr.heap.size; exact hbl)).trans c5; have y5 := (hSw.cell (by show b9' < wr.heap.size; exact hbl')).trans d5; have x6 := (hSw.cell (by show b9 < wr.heap.size; exact hbl)).trans c6; have y6 := (hSw.cell (by show b9' < wr.heap.size; exact hbl')).trans d6; have xf := (hSw.cell (by show w.heap.size < wr.heap.size; exact hw0)).trans f2; have xg := (hSw.cell (by show w.heap.size + 1 < wr.heap.size; exact hw1)).trans g2; go_simp; try with_reducible rfl)
      simp only [Act.put, List.setIfInBounds_toArray, List.set_cons_succ, List.set_cons_zero]
      refine takeH (i := 9) (oi := _) (v := ?vs2x9) 67 #[true, true, true, true, true, true, true, true, true, true, false, false] rfl (by kernel_rfl) (by kernel_rfl) (by kernel_rfl) rfl (by kernel_rfl) (fun _ _ _ h => h) (Or.inl ⟨by rfl, ?ys2x9⟩) (by assumption) ?rs2x9
      case ys2x9 => (intro w' hSw; (try dsimp only at hSw); have x0 := (hSw.cell (by show b9 < wr.heap.size; exact hbl)).trans c0; have y0 := (hSw.cell (by show b9' < wr.heap.size; exact hbl')).trans d0; have x1 := (hSw.cell (by show b9 < wr.heap.size; exact hbl)).trans c1; have y1 := (hSw.cell (by show b9' < wr.heap.size; exact hbl')).trans d1; have x2 := (hSw.cell (by show b9 < wr.heap.size; exact hbl)).trans c2; have y2 := (hSw.cell (by show b9' < wr.heap.size; exact hbl')).trans d2; have x3 := (hSw.cell (by show b9 < wr.heap.size; exact hbl)).trans c3; have y3 := (hSw.cell (by show b9' < wr.heap.size; exact hbl')).trans d3; have x4 := (hSw.cell (by show b9 < wr.heap.size; exact hbl)).trans c4; have y4 := (hSw.cell (by show b9' < wr.heap.size; exact hbl')).trans d4; have x5 := (hSw.cell (by show b9 < wr.heap.size; exact hbl)).trans c5; have y5 := (hSw.cell (by show b9' < wr.heap.size; exact hbl')).trans d5; have x6 := (hSw.cell (by show b9 < wr.heap.size; exact hbl)).trans c6; have y6 := (hSw.cell (by show b9' < wr.heap.size; exact hbl')).trans d6; have xf := (hSw.cell (by show w.heap.size < wr.heap.size; exact hw0)).trans f2; have xg := (hSw.cell (by show w.heap.size + 1 < wr.heap.size; exact hw1)).trans g2; go_simp; try with_reducible rfl)
      simp only [Act.put, List.setIfInBounds_toArray, List.set_cons_succ, List.set_cons_zero]
      refine wpAnyH_ready (rs := [10]) (by kernel_rfl) (by simp) ?_
      refine AllReadyH.cons (o := _) rfl (fun K hK => ?_) AllReadyH.nil
      go_simp
      refine (specKeepSame _ _ _ _ _ _ _ _ _ _ _ _ _ _ _ _ _ _ _ _ _ _ _ _ _ _ _ _ _ _ x x' L U L' U' _ (by simp; omega) (by simp; omega) (HK.out.below (Below.refl _ _).drew (by omega)) (HM.out.below (Below.refl _ _).drew (by omega))).mono ?_
      rintro e w9 ⟨rfl, hb9⟩
      have hb1 : Below wr.heap.size wr w9 := (Below.refl _ _).drew.trans (hb9.mono (Nat.le_refl _))
      go_wp2_with fail
      refine hK.out _ _ ?_ (fun hHeld => ?_)
      · exact hb1
      clear hK K
      try simp only [Act.put]
      refine listH (l2 := #[true, true, true, true, true, true, true, true, true, true, true, false]) (by kernel_rfl) ?_
      refine takeH (i := 11) (oi := _) (v := ?vs2x11) 69 #[true, true, true, true, true, true, true, true, true, true, true, true] rfl (by kernel_rfl) (by kernel_rfl) (by kernel_rfl) rfl (by kernel_rfl) (fun _ _ _ h => h) (Or.inl ⟨by rfl, ?ys2x11⟩) (by assumption) ?rs2x11
      case ys2x11 => (intro w' hSw; (try dsimp only at hSw); have x0 := (hSw.cell (by show b9 < wr.heap.size; exact hbl)).trans c0; have y0 := (hSw.cell (by show b9' < wr.heap.size; exact hbl')).trans d0; have x1 := (hSw.cell (by show b9 < wr.heap.size; exact hbl)).trans c1; have y1 := (hSw.cell (by show b9' < wr.heap.size; exact hbl')).trans d1; have x2 := (hSw.cell (by show b9 < wr.heap.size; exact hbl)).trans c2; have y2 := (hSw.cell (by show b9' < wr.heap.size; exact hbl')).trans d2; have x3 := (hSw.cell (by show b9 < wr.heap.size; exact hbl)).trans c3; have y3 := (hSw.cell (by show b9' < wr.heap.size; exact hbl')).trans d3; have x4 := (hSw.cell (by show b9 < wr.heap.size; exact hbl)).trans c4; have y4 := (hSw.cell (by show b9' < wr.heap.size; exact hbl')).trans d4; have x5 := (hSw.cell (by show b9 < wr.heap.size; exact hbl)).trans c5; have y5 := (hSw.cell (by show b9' < wr.heap.size; exact hbl')).trans d5; have x6 := (hSw.cell (by show b9 < wr.heap.size; exact hbl)).trans c6; have y6 := (hSw.cell (by show b9' < wr.heap.size; exact hbl')).trans d6; have xf := (hSw.cell (by show w.heap.size < wr.heap.size; exact hw0)).trans f2; have xg := (hSw.cell (by show w.heap.size + 1 < wr.heap.size; exact hw1)).trans g2; go_simp; try with_reducible rfl)
      simp only [Act.put, List.setIfInBounds_toArray, List.set_cons_succ, List.set_cons_zero]
      refine wpAnyH_done (by kernel_rfl) ?_ _

      have hb2 : Below w1.heap.size w1 w9 := hb.trans (hb1.mono hb.size)
      cases hp : keepEq x x'
      · have HP := hidMk hp
        clear hp
        go_wp2_with fail
        go_ret
        exact ⟨ret_bool (by first | (rw [HV.out, listEq_no HE.out.1 HE.out.2 HP.out]; done) | (rw [HV.out, listEq_no HE.out.1 HE.out.2 HP.out]; simp)), hBW.trans (hb2.mono hBW.size)⟩
      · have HP := hidMk hp
        clear hp
        go_wp2_with fail
        go_roundg (n2 - (j + 1))
        case measure => have := hk.out; omega
        case rel =>
          refine ⟨j + 1, by omega, rfl, by go_num, fun i hi x y hx hy => ?_, hb2⟩
          by_cases e : i = j
          · subst e
            rw [HE.out.1] at hx
            rw [HE.out.2] at hy
            cases hx
            cases hy
            exact HP.out
          · exact hq.out i (by omega) x y hx hy
    · obtain rfl : j = n2 := by omega
      have HL2 : Hid (listEq keepEq A.keeps B.keeps = true) := listEq_yes (by rw [← HS2.len, ← HT2.len]) (fun i x y hx hy => hq.out i (by have := (List.getElem?_eq_some_iff.1 hx).1; have := HS2.len; omega) x y hx hy)
      replace HV : Hid (worldEq A B = (listEq msgEqM A.net B.net && listEq logEq A.past B.past && listEq toldEq A.told B.told)) := by have h := HV.out; rw [HL2.out] at h; exact hidMk (by simpa using h)
      go_wp2_with fail
      have hBW2 := hBW.trans (hb.mono hBW.size)
      clear hBW
      have hBW := hBW2
      clear hBW2
      have B0 := HB0.out.next hb HB0.out.lt
      have B1 := HB1.out.next hb HB1.out.lt
      clear HB0 HB1
      have HB0 := hidMk B0
      have HB1 := hidMk B1
      clear B0 B1 f2 f3 f4 f5 g2 g3 g4 g5 hlt hj hk hq HL2 HS2 HT2
      replace HS3 := HS3.below eltMsg hb (by omega)
      replace HT3 := HT3.below eltMsg hb (by omega)
      replace HS4 := HS4.below eltLog hb (by omega)
      replace HT4 := HT4.below eltLog hb (by omega)
      replace HS5 := HS5.below eltTold hb (by omega)
      replace HT5 := HT5.below eltTold hb (by omega)
      have hU3w := Nat.le_trans hU3 hs1
      have hU3w' := Nat.le_trans hU3' hs1
      clear hU3 hU3' hs1 hb
      have hU3 := hU3w
      have hU3' := hU3w'
      clear hU3w hU3w'
      rename World => w2
      go_loopg [6] n3 (fun g i wr => ∃ j : Nat, j ≤ n3 ∧ Hid (g = n3 - j) ∧ i = .int .i64 j ∧ Hid (∀ i, i < j → ∀ x y, A.net[i]? = some x → B.net[i]? = some y → msgEqM x y = true) ∧ Below w2.heap.size w2 wr)
      case atStart => exact ⟨0, Nat.zero_le _, by show _ = _; omega, rfl, fun i hi => by omega, Below.refl _ _⟩
      case round =>
        obtain ⟨j, hj, hk, rfl, hq, hb⟩ := hrel
        have hs1 := hb.size
        have BX0 := HB0.out.next hb HB0.out.lt
        have BX1 := HB1.out.next hb HB1.out.lt
        obtain ⟨_, _, f2, f3, f4, f5⟩ := BX0.c6
        obtain ⟨_, _, g2, g3, g4, g5⟩ := BX1.c6
        have hw0 := BX0.lt
        have hw1 := BX1.lt
        clear BX0 BX1
        by_cases hlt : j < n3
        · obtain ⟨b9, off, ha, hL, hbU, hc⟩ := HS3.at_ (by omega)
          obtain ⟨b9', off', ha', hL', hbU', hc'⟩ := HT3.at_ (by omega)
          subst ha ha'
          obtain ⟨x, vs, he, hc, hE⟩ := hc j hlt
          obtain ⟨x', vs', he2, hc', hE'⟩ := hc' j hlt
          obtain ⟨q, s, ba, bn, bc, oa, on, oc, ta, tn, tc, rfl, hK⟩ := hE
          obtain ⟨q', s', ba', bn', bc', oa', on', oc', ta', tn', tc', rfl, hM⟩ := hE'
          have c0 := hc 0 _ rfl
          have c1 := hc 1 _ rfl
          have c2 := hc 2 _ rfl
          have c3 := hc 3 _ rfl
          have c4 := hc 4 _ rfl
          have c5 := hc 5 _ rfl
          have c6 := hc 6 _ rfl
          have c7 := hc 7 _ rfl
          have c8 := hc 8 _ rfl
          simp only [Nat.add_zero] at c0
          rw [← hb.cell (by simp; omega)] at c0 c1 c2 c3 c4 c5 c6 c7 c8
          have d0 := hc' 0 _ rfl
          have d1 := hc' 1 _ rfl
          have d2 := hc' 2 _ rfl
          have d3 := hc' 3 _ rfl
          have d4 := hc' 4 _ rfl
          have d5 := hc' 5 _ rfl
          have d6 := hc' 6 _ rfl
          have d7 := hc' 7 _ rfl
          have d8 := hc' 8 _ rfl
          simp only [Nat.add_zero] at d0
          rw [← hb.cell (by simp; omega)] at d0 d1 d2 d3 d4 d5 d6 d7 d8
          have HE : Hid (A.net[j]? = some x ∧ B.net[j]? = some x') := ⟨he, he2⟩
          have hbl : b9 < wr.heap.size := by omega
          have hbl' : b9' < wr.heap.size := by omega
          clear he he2 hc hc'
          have hlt' : (j : Int) < (n3 : Int) := by omega
          have HK := hidMk (hK.below hb (by omega))
          have HM := hidMk (hM.below hb (by omega))
          clear hK hM
          go_upto_region 11 with fail
          refine wp_region_held_drew (S := (fun W => Below wr.heap.size wr W)) (by kernel_rfl) ?_ (fun hHeld => ?_)
          · exact (Below.refl _ _).drew
          refine listH (l2 := #[false, false, false, false, false, false, false, false, false, false, false, false]) (by kernel_rfl) ?_
          refine takeH (i := 0) (oi := _) (v := ?vs3x0) 77 #[true, false, false, false, false, false, false, false, false, false, false, false] rfl (by kernel_rfl) (by kernel_rfl) (by kernel_rfl) rfl (by kernel_rfl) (fun _ _ _ h => h) (Or.inl ⟨by rfl, ?ys3x0⟩) (by assumption) ?rs3x0
          case ys3x0 => (intro w' hSw; (try dsimp only at hSw); have x0 := (hSw.cell (by show b9 < wr.heap.size; exact hbl)).trans c0; have y0 := (hSw.cell (by show b9' < wr.heap.size; exact hbl')).trans d0; have x1 := (hSw.cell (by show b9 < wr.heap.size; exact hbl)).trans c1; have y1 := (hSw.cell (by show b9' < wr.heap.size; exact hbl')).trans d1; have x2 := (hSw.cell (by show b9 < wr.heap.size; exact hbl)).trans c2; have y2 := (hSw.cell (by show b9' < wr.heap.size; exact hbl')).trans d2; have x3 := (hSw.cell (by show b9 < wr.heap.size; exact hbl)).trans c3; have y3 := (hSw.cell (by show b9' < wr.heap.size; exact hbl')).trans d3; have x4 := (hSw.cell (by show b9 < wr.heap.size; exact hbl)).trans c4; have y4 := (hSw.cell (by show b9' < wr.heap.size; exact hbl')).trans d4; have x5 := (hSw.cell (by show b9 < wr.heap.size; exact hbl)).trans c5; have y5 := (hSw.cell (by show b9' < wr.heap.size; exact hbl')).trans d5; have x6 := (hSw.cell (by show b9 < wr.heap.size; exact hbl)).trans c6; have y6 := (hSw.cell (by show b9' < wr.heap.size; exact hbl')).trans d6; have x7 := (hSw.cell (by show b9 < wr.heap.size; exact hbl)).trans c7; have y7 := (hSw.cell (by show b9' < wr.heap.size; exact hbl')).trans d7; have x8 := (hSw.cell (by show b9 < wr.heap.size; exact hbl)).trans c8; have y8 := (hSw.cell (by show b9' < wr.heap.size; exact hbl')).trans d8; have xf := (hSw.cell (by show w.heap.size < wr.heap.size; exact hw0)).trans f3; have xg := (hSw.cell (by show w.heap.size + 1 < wr.heap.size; exact hw1)).trans g3; go_simp; try with_reducible rfl)
          simp only [Act.put, List.setIfInBounds_toArray, List.set_cons_succ, List.set_cons_zero]
          refine takeH (i := 1) (oi := _) (v := ?vs3x1) 78 #[true, true, false, false, false, false, false, false, false, false, false, false] rfl (by kernel_rfl) (by kernel_rfl) (by kernel_rfl) rfl (by kernel_rfl) (fun _ _ _ h => h) (Or.inl ⟨by rfl, ?ys3x1⟩) (by assumption) ?rs3x1
          case ys3x1 => (intro w' hSw; (try dsimp only at hSw); have x0 := (hSw.cell (by show b9 < wr.heap.size; exact hbl)).trans c0; have y0 := (hSw.cell (by show b9' < wr.heap.size; exact hbl')).trans d0; have x1 := (hSw.cell (by show b9 < wr.heap.size; exact hbl)).trans c1; have y1 := (hSw.cell (by show b9' < wr.heap.size; exact hbl')).trans d1; have x2 := (hSw.cell (by show b9 < wr.heap.size; exact hbl)).trans c2; have y2 := (hSw.cell (by show b9' < wr.heap.size; exact hbl')).trans d2; have x3 := (hSw.cell (by show b9 < wr.heap.size; exact hbl)).trans c3; have y3 := (hSw.cell (by show b9' < wr.heap.size; exact hbl')).trans d3; have x4 := (hSw.cell (by show b9 < wr.heap.size; exact hbl)).trans c4; have y4 := (hSw.cell (by show b9' < wr.heap.size; exact hbl')).trans d4; have x5 := (hSw.cell (by show b9 < wr.heap.size; exact hbl)).trans c5; have y5 := (hSw.cell (by show b9' < wr.heap.size; exact hbl')).trans d5; have x6 := (hSw.cell (by show b9 < wr.heap.size; exact hbl)).trans c6; have y6 := (hSw.cell (by show b9' < wr.heap.size; exact hbl')).trans d6; have x7 := (hSw.cell (by show b9 < wr.heap.size; exact hbl)).trans c7; have y7 := (hSw.cell (by show b9' < wr.heap.size; exact hbl')).trans d7; have x8 := (hSw.cell (by show b9 < wr.heap.size; exact hbl)).trans c8; have y8 := (hSw.cell (by show b9' < wr.heap.size; exact hbl')).trans d8; have xf := (hSw.cell (by show w.heap.size < wr.heap.size; exact hw0)).trans f3; have xg := (hSw.cell (by show w.heap.size + 1 < wr.heap.size; exact hw1)).trans g3; go_simp; try with_reducible rfl)
          simp only [Act.put, List.setIfInBounds_toArray, List.set_cons_succ, List.set_cons_zero]
          refine takeH (i := 2) (oi := _) (v := ?vs3x2) 79 #[true, true, true, false, false, false, false, false, false, false, false, false] rfl (by kernel_rfl) (by kernel_rfl) (by kernel_rfl) rfl (by kernel_rfl) (fun _ _ _ h => h) (Or.inl ⟨by rfl, ?ys3x2⟩) (by assumption) ?rs3x2
          case ys3x2 => (intro w' hSw; (try dsimp only at hSw); have x0 := (hSw.cell (by show b9 < wr.heap.size; exact hbl)).trans c0; have y0 := (hSw.cell (by show b9' < wr.heap.size; exact hbl')).trans d0; have x1 := (hSw.cell (by show b9 < wr.heap.size; exact hbl)).trans c1; have y1 := (hSw.cell (by show b9' < wr.heap.size; exact hbl')).trans d1; have x2 := (hSw.cell (by show b9 < wr.heap.size; exact hbl)).trans c2; have y2 := (hSw.cell (by show b9' < wr.heap.size; exact hbl')).trans d2; have x3 := (hSw.cell (by show b9 < wr.heap.size; exact hbl)).trans c3; have y3 := (hSw.cell (by show b9' < wr.heap.size; exact hbl')).trans d3; have x4 := (hSw.cell (by show b9 < wr.heap.size; exact hbl)).trans c4; have y4 := (hSw.cell (by show b9' < wr.heap.size; exact hbl')).trans d4; have x5 := (hSw.cell (by show b9 < wr.heap.size; exact hbl)).trans c5; have y5 := (hSw.cell (by show b9' < wr.heap.size; exact hbl')).trans d5; have x6 := (hSw.cell (by show b9 < wr.heap.size; exact hbl)).trans c6; have y6 := (hSw.cell (by show b9' < wr.heap.size; exact hbl')).trans d6; have x7 := (hSw.cell (by show b9 < wr.heap.size; exact hbl)).trans c7; have y7 := (hSw.cell (by show b9' < wr.heap.size; exact hbl')).trans d7; have x8 := (hSw.cell (by show b9 < wr.heap.size; exact hbl)).trans c8; have y8 := (hSw.cell (by show b9' < wr.heap.size; exact hbl')).trans d8; have xf := (hSw.cell (by show w.heap.size < wr.heap.size; exact hw0)).trans f3; have xg := (hSw.cell (by show w.heap.size + 1 < wr.heap.size; exact hw1)).trans g3; go_simp; try with_reducible rfl)
          simp only [Act.put, List.setIfInBounds_toArray, List.set_cons_succ, List.set_cons_zero]
          refine takeH (i := 3) (oi := _) (v := ?vs3x3) 80 #[true, true, true, true, false, false, false, false, false, false, false, false] rfl (by kernel_rfl) (by kernel_rfl) (by kernel_rfl) rfl (by kernel_rfl) (fun _ _ _ h => h) (Or.inl ⟨by rfl, ?ys3x3⟩) (by assumption) ?rs3x3
          case ys3x3 => (intro w' hSw; (try dsimp only at hSw); have x0 := (hSw.cell (by show b9 < wr.heap.size; exact hbl)).trans c0; have y0 := (hSw.cell (by show b9' < wr.heap.size; exact hbl')).trans d0; have x1 := (hSw.cell (by show b9 < wr.heap.size; exact hbl)).trans c1; have y1 := (hSw.cell (by show b9' < wr.heap.size; exact hbl')).trans d1; have x2 := (hSw.cell (by show b9 < wr.heap.size; exact hbl)).trans c2; have y2 := (hSw.cell (by show b9' < wr.heap.size; exact hbl')).trans d2; have x3 := (hSw.cell (by show b9 < wr.heap.size; exact hbl)).trans c3; have y3 := (hSw.cell (by show b9' < wr.heap.size; exact hbl')).trans d3; have x4 := (hSw.cell (by show b9 < wr.heap.size; exact hbl)).trans c4; have y4 := (hSw.cell (by show b9' < wr.heap.size; exact hbl')).trans d4; have x5 := (hSw.cell (by show b9 < wr.heap.size; exact hbl)).trans c5; have y5 := (hSw.cell (by show b9' < wr.heap.size; exact hbl')).trans d5; have x6 := (hSw.cell (by show b9 < wr.heap.size; exact hbl)).trans c6; have y6 := (hSw.cell (by show b9' < wr.heap.size; exact hbl')).trans d6; have x7 := (hSw.cell (by show b9 < wr.heap.size; exact hbl)).trans c7; have y7 := (hSw.cell (by show b9' < wr.heap.size; exact hbl')).trans d7; have x8 := (hSw.cell (by show b9 < wr.heap.size; exact hbl)).trans c8; have y8 := (hSw.cell (by show b9' < wr.heap.size; exact hbl')).trans d8; have xf := (hSw.cell (by show w.heap.size < wr.heap.size; exact hw0)).trans f3; have xg := (hSw.cell (by show w.heap.size + 1 < wr.heap.size; exact hw1)).trans g3; go_simp; try with_reducible rfl)
          simp only [Act.put, List.setIfInBounds_toArray, List.set_cons_succ, List.set_cons_zero]
          refine takeH (i := 4) (oi := _) (v := ?vs3x4) 81 #[true, true, true, true, true, false, false, false, false, false, false, false] rfl (by kernel_rfl) (by kernel_rfl) (by kernel_rfl) rfl (by kernel_rfl) (fun _ _ _ h => h) (Or.inl ⟨by rfl, ?ys3x4⟩) (by assumption) ?rs3x4
          case ys3x4 => (intro w' hSw; (try dsimp only at hSw); have x0 := (hSw.cell (by show b9 < wr.heap.size; exact hbl)).trans c0; have y0 := (hSw.cell (by show b9' < wr.heap.size; exact hbl')).trans d0; have x1 := (hSw.cell (by show b9 < wr.heap.size; exact hbl)).trans c1; have y1 := (hSw.cell (by show b9' < wr.heap.size; exact hbl')).trans d1; have x2 := (hSw.cell (by show b9 < wr.heap.size; exact hbl)).trans c2; have y2 := (hSw.cell (by show b9' < wr.heap.size; exact hbl')).trans d2; have x3 := (hSw.cell (by show b9 < wr.heap.size; exact hbl)).trans c3; have y3 := (hSw.cell (by show b9' < wr.heap.size; exact hbl')).trans d3; have x4 := (hSw.cell (by show b9 < wr.heap.size; exact hbl)).trans c4; have y4 := (hSw.cell (by show b9' < wr.heap.size; exact hbl')).trans d4; have x5 := (hSw.cell (by show b9 < wr.heap.size; exact hbl)).trans c5; have y5 := (hSw.cell (by show b9' < wr.heap.size; exact hbl')).trans d5; have x6 := (hSw.cell (by show b9 < wr.heap.size; exact hbl)).trans c6; have y6 := (hSw.cell (by show b9' < wr.heap.size; exact hbl')).trans d6; have x7 := (hSw.cell (by show b9 < wr.heap.size; exact hbl)).trans c7; have y7 := (hSw.cell (by show b9' < wr.heap.size; exact hbl')).trans d7; have x8 := (hSw.cell (by show b9 < wr.heap.size; exact hbl)).trans c8; have y8 := (hSw.cell (by show b9' < wr.heap.size; exact hbl')).trans d8; have xf := (hSw.cell (by show w.heap.size < wr.heap.size; exact hw0)).trans f3; have xg := (hSw.cell (by show w.heap.size + 1 < wr.heap.size; exact hw1)).trans g3; go_simp; try with_reducible rfl)
          simp only [Act.put, List.setIfInBounds_toArray, List.set_cons_succ, List.set_cons_zero]
          refine takeH (i := 5) (oi := _) (v := ?vs3x5) 82 #[true, true, true, true, true, true, false, false, false, false, false, false] rfl (by kernel_rfl) (by kernel_rfl) (by kernel_rfl) rfl (by kernel_rfl) (fun _ _ _ h => h) (Or.inl ⟨by rfl, ?ys3x5⟩) (by assumption) ?rs3x5
          case ys3x5 => (intro w' hSw; (try dsimp only at hSw); have x0 := (hSw.cell (by show b9 < wr.heap.size; exact hbl)).trans c0; have y0 := (hSw.cell (by show b9' < wr.heap.size; exact hbl')).trans d0; have x1 := (hSw.cell (by show b9 < wr.heap.size; exact hbl)).trans c1; have y1 := (hSw.cell (by show b9' < wr.heap.size; exact hbl')).trans d1; have x2 := (hSw.cell (by show b9 < wr.heap.size; exact hbl)).trans c2; have y2 := (hSw.cell (by show b9' < wr.heap.size; exact hbl')).trans d2; have x3 := (hSw.cell (by show b9 < wr.heap.size; exact hbl)).trans c3; have y3 := (hSw.cell (by show b9' < wr.heap.size; exact hbl')).trans d3; have x4 := (hSw.cell (by show b9 < wr.heap.size; exact hbl)).trans c4; have y4 := (hSw.cell (by show b9' < wr.heap.size; exact hbl')).trans d4; have x5 := (hSw.cell (by show b9 < wr.heap.size; exact hbl)).trans c5; have y5 := (hSw.cell (by show b9' < wr.heap.size; exact hbl')).trans d5; have x6 := (hSw.cell (by show b9 < wr.heap.size; exact hbl)).trans c6; have y6 := (hSw.cell (by show b9' < wr.heap.size; exact hbl')).trans d6; have x7 := (hSw.cell (by show b9 < wr.heap.size; exact hbl)).trans c7; have y7 := (hSw.cell (by show b9' < wr.heap.size; exact hbl')).trans d7; have x8 := (hSw.cell (by show b9 < wr.heap.size; exact hbl)).trans c8; have y8 := (hSw.cell (by show b9' < wr.heap.size; exact hbl')).trans d8; have xf := (hSw.cell (by show w.heap.size < wr.heap.size; exact hw0)).trans f3; have xg := (hSw.cell (by show w.heap.size + 1 < wr.heap.size; exact hw1)).trans g3; go_simp; try with_reducible rfl)
          simp only [Act.put, List.setIfInBounds_toArray, List.set_cons_succ, List.set_cons_zero]
          refine takeH (i := 6) (oi := _) (v := ?vs3x6) 83 #[true, true, true, true, true, true, true, false, false, false, false, false] rfl (by kernel_rfl) (by kernel_rfl) (by kernel_rfl) rfl (by kernel_rfl) (fun _ _ _ h => h) (Or.inl ⟨by rfl, ?ys3x6⟩) (by assumption) ?rs3x6
          case ys3x6 => (intro w' hSw; (try dsimp only at hSw); have x0 := (hSw.cell (by show b9 < wr.heap.size; exact hbl)).trans c0; have y0 := (hSw.cell (by show b9' < wr.heap.size; exact hbl')).trans d0; have x1 := (hSw.cell (by show b9 < wr.heap.size; exact hbl)).trans c1; have y1 := (hSw.cell (by show b9' < wr.heap.size; exact hbl')).trans d1; have x2 := (hSw.cell (by show b9 < wr.heap.size; exact hbl)).trans c2; have y2 := (hSw.cell (by show b9' < wr.heap.size; exact hbl')).trans d2; have x3 := (hSw.cell (by show b9 < wr.heap.size; exact hbl)).trans c3; have y3 := (hSw.cell (by show b9' < wr.heap.size; exact hbl')).trans d3; have x4 := (hSw.cell (by show b9 < wr.heap.size; exact hbl)).trans c4; have y4 := (hSw.cell (by show b9' < wr.heap.size; exact hbl')).trans d4; have x5 := (hSw.cell (by show b9 < wr.heap.size; exact hbl)).trans c5; have y5 := (hSw.cell (by show b9' < wr.heap.size; exact hbl')).trans d5; have x6 := (hSw.cell (by show b9 < wr.heap.size; exact hbl)).trans c6; have y6 := (hSw.cell (by show b9' < wr.heap.size; exact hbl')).trans d6; have x7 := (hSw.cell (by show b9 < wr.heap.size; exact hbl)).trans c7; have y7 := (hSw.cell (by show b9' < wr.heap.size; exact hbl')).trans d7; have x8 := (hSw.cell (by show b9 < wr.heap.size; exact hbl)).trans c8; have y8 := (hSw.cell (by show b9' < wr.heap.size; exact hbl')).trans d8; have xf := (hSw.cell (by show w.heap.size < wr.heap.size; exact hw0)).trans f3; have xg := (hSw.cell (by show w.heap.size + 1 < wr.heap.size; exact hw1)).trans g3; go_simp; try with_reducible rfl)
          simp only [Act.put, List.setIfInBounds_toArray, List.set_cons_succ, List.set_cons_zero]
          refine takeH (i := 7) (oi := _) (v := ?vs3x7) 84 #[true, true, true, true, true, true, true, true, false, false, false, false] rfl (by kernel_rfl) (by kernel_rfl) (by kernel_rfl) rfl (by kernel_rfl) (fun _ _ _ h => h) (Or.inl ⟨by rfl, ?ys3x7⟩) (by assumption) ?rs3x7
          case ys3x7 => (intro w' hSw; (try dsimp only at hSw); have x0 := (hSw.cell (by show b9 < wr.heap.size; exact hbl)).trans c0; have y0 := (hSw.cell (by show b9' < wr.heap.size; exact hbl')).trans d0; have x1 := (hSw.cell (by show b9 < wr.heap.size; exact hbl)).trans c1; have y1 := (hSw.cell (by show b9' < wr.heap.size; exact hbl')).trans d1; have x2 := (hSw.cell (by show b9 < wr.heap.size; exact hbl)).trans c2; have y2 := (hSw.cell (by show b9' < wr.heap.size; exact hbl')).trans d2; have x3 := (hSw.cell (by show b9 < wr.heap.size; exact hbl)).trans c3; have y3 := (hSw.cell (by show b9' < wr.heap.size; exact hbl')).trans d3; have x4 := (hSw.cell (by show b9 < wr.heap.size; exact hbl)).trans c4; have y4 := (hSw.cell (by show b9' < wr.heap.size; exact hbl')).trans d4; have x5 := (hSw.cell (by show b9 < wr.heap.size; exact hbl)).trans c5; have y5 := (hSw.cell (by show b9' < wr.heap.size; exact hbl')).trans d5; have x6 := (hSw.cell (by show b9 < wr.heap.size; exact hbl)).trans c6; have y6 := (hSw.cell (by show b9' < wr.heap.size; exact hbl')).trans d6; have x7 := (hSw.cell (by show b9 < wr.heap.size; exact hbl)).trans c7; have y7 := (hSw.cell (by show b9' < wr.heap.size; exact hbl')).trans d7; have x8 := (hSw.cell (by show b9 < wr.heap.size; exact hbl)).trans c8; have y8 := (hSw.cell (by show b9' < wr.heap.size; exact hbl')).trans d8; have xf := (hSw.cell (by show w.heap.size < wr.heap.size; exact hw0)).trans f3; have xg := (hSw.cell (by show w.heap.size + 1 < wr.heap.size; exact hw1)).trans g3; go_simp; try with_reducible rfl)
          simp only [Act.put, List.setIfInBounds_toArray, List.set_cons_succ, List.set_cons_zero]
          refine takeH (i := 8) (oi := _) (v := ?vs3x8) 85 #[true, true, true, true, true, true, true, true, true, false, false, false] rfl (by kernel_rfl) (by kernel_rfl) (by kernel_rfl) rfl (by kernel_rfl) (fun _ _ _ h => h) (Or.inl ⟨by rfl, ?ys3x8⟩) (by assumption) ?rs3x8
          case ys3x8 => (intro w' hSw; (try dsimp only at hSw); have x0 := (hSw.cell (by show b9 < wr.heap.size; exact hbl)).trans c0; have y0 := (hSw.cell (by show b9' < wr.heap.size; exact hbl')).trans d0; have x1 := (hSw.cell (by show b9 < wr.heap.size; exact hbl)).trans c1; have y1 := (hSw.cell (by show b9' < wr.heap.size; exact hbl')).trans d1; have x2 := (hSw.cell (by show b9 < wr.heap.size; exact hbl)).trans c2; have y2 := (hSw.cell (by show b9' < wr.heap.size; exact hbl')).trans d2; have x3 := (hSw.cell (by show b9 < wr.heap.size; exact hbl)).trans c3; have y3 := (hSw.cell (by show b9' < wr.heap.size; exact hbl')).trans d3; have x4 := (hSw.cell (by show b9 < wr.heap.size; exact hbl)).trans c4; have y4 := (hSw.cell (by show b9' < wr.heap.size; exact hbl')).trans d4; have x5 := (hSw.cell (by show b9 < wr.heap.size; exact hbl)).trans c5; have y5 := (hSw.cell (by show b9' < wr.heap.size; exact hbl')).trans d5; have x6 := (hSw.cell (by show b9 < wr.heap.size; exact hbl)).trans c6; have y6 := (hSw.cell (by show b9' < wr.heap.size; exact hbl')).trans d6; have x7 := (hSw.cell (by show b9 < wr.heap.size; exact hbl)).trans c7; have y7 := (hSw.cell (by show b9' < wr.heap.size; exact hbl')).trans d7; have x8 := (hSw.cell (by show b9 < wr.heap.size; exact hbl)).trans c8; have y8 := (hSw.cell (by show b9' < wr.heap.size; exact hbl')).trans d8; have xf := (hSw.cell (by show w.heap.size < wr.heap.size; exact hw0)).trans f3; have xg := (hSw.cell (by show w.heap.size + 1 < wr.heap.size; exact hw1)).trans g3; go_simp; try with_reducible rfl)
          simp only [Act.put, List.setIfInBounds_toArray, List.set_cons_succ, List.set_cons_zero]
          refine takeH (i := 9) (oi := _) (v := ?vs3x9) 86 #[true, true, true, true, true, true, true, true, true, true, false, false] rfl (by kernel_rfl) (by kernel_rfl) (by kernel_rfl) rfl (by kernel_rfl) (fun _ _ _ h => h) (Or.inl ⟨by rfl, ?ys3x9⟩) (by assumption) ?rs3x9
          case ys3x9 => (intro w' hSw; (try dsimp only at hSw); have x0 := (hSw.cell (by show b9 < wr.heap.size; exact hbl)).trans c0; have y0 := (hSw.cell (by show b9' < wr.heap.size; exact hbl')).trans d0; have x1 := (hSw.cell (by show b9 < wr.heap.size; exact hbl)).trans c1; have y1 := (hSw.cell (by show b9' < wr.heap.size; exact hbl')).trans d1; have x2 := (hSw.cell (by show b9 < wr.heap.size; exact hbl)).trans c2; have y2 := (hSw.cell (by show b9' < wr.heap.size; exact hbl')).trans d2; have x3 := (hSw.cell (by show b9 < wr.heap.size; exact hbl)).trans c3; have y3 := (hSw.cell (by show b9' < wr.heap.size; exact hbl')).trans d3; have x4 := (hSw.cell (by show b9 < wr.heap.size; exact hbl)).trans c4; have y4 := (hSw.cell (by show b9' < wr.heap.size; exact hbl')).trans d4; have x5 := (hSw.cell (by show b9 < wr.heap.size; exact hbl)).trans c5; have y5 := (hSw.cell (by show b9' < wr.heap.size; exact hbl')).trans d5; have x6 := (hSw.cell (by show b9 < wr.heap.size; exact hbl)).trans c6; have y6 := (hSw.cell (by show b9' < wr.heap.size; exact hbl')).trans d6; have x7 := (hSw.cell (by show b9 < wr.heap.size; exact hbl)).trans c7; have y7 := (hSw.cell (by show b9' < wr.heap.size; exact hbl')).trans d7; have x8 := (hSw.cell (by show b9 < wr.heap.size; exact hbl)).trans c8; have y8 := (hSw.cell (by show b9' < wr.heap.size; exact hbl')).trans d8; have xf := (hSw.cell (by show w.heap.size < wr.heap.size; exact hw0)).trans f3; have xg := (hSw.cell (by show w.heap.size + 1 < wr.heap.size; exact hw1)).trans g3; go_simp; try with_reducible rfl)
          simp only [Act.put, List.setIfInBounds_toArray, List.set_cons_succ, List.set_cons_zero]
          refine wpAnyH_ready (rs := [10]) (by kernel_rfl) (by simp) ?_
          refine AllReadyH.cons (o := _) rfl (fun K hK => ?_) AllReadyH.nil
          go_simp
          refine (specMsgSameE _ _ _ _ _ _ _ _ _ _ _ _ _ _ _ _ _ _ _ _ _ _ x x' L U L' U' _ (by simp; omega) (by simp; omega) (HK.out.below (Below.refl _ _).drew (by omega)) (HM.out.below (Below.refl _ _).drew (by omega))).mono ?_
          rintro e w9 ⟨rfl, hb9⟩
          have hb1 : Below wr.heap.size wr w9 := (Below.refl _ _).drew.trans (hb9.mono (Nat.le_refl _))
          go_wp2_with fail
          refine hK.out _ _ ?_ (fun hHeld => ?_)
          · exact hb1
          clear hK K
          try simp only [Act.put]
          refine listH (l2 := #[true, true, true, true, true, true, true, true, true, true, true, false]) (by kernel_rfl) ?_
          refine takeH (i := 11) (oi := _) (v := ?vs3x11) 88 #[true, true, true, true, true, true, true, true, true, true, true, true] rfl (by kernel_rfl) (by kernel_rfl) (by kernel_rfl) rfl (by kernel_rfl) (fun _ _ _ h => h) (Or.inl ⟨by rfl, ?ys3x11⟩) (by assumption) ?rs3x11
          case ys3x11 => (intro w' hSw; (try dsimp only at hSw); have x0 := (hSw.cell (by show b9 < wr.heap.size; exact hbl)).trans c0; have y0 := (hSw.cell (by show b9' < wr.heap.size; exact hbl')).trans d0; have x1 := (hSw.cell (by show b9 < wr.heap.size; exact hbl)).trans c1; have y1 := (hSw.cell (by show b9' < wr.heap.size; exact hbl')).trans d1; have x2 := (hSw.cell (by show b9 < wr.heap.size; exact hbl)).trans c2; have y2 := (hSw.cell (by show b9' < wr.heap.size; exact hbl')).trans d2; have x3 := (hSw.cell (by show b9 < wr.heap.size; exact hbl)).trans c3; have y3 := (hSw.cell (by show b9' < wr.heap.size; exact hbl')).trans d3; have x4 := (hSw.cell (by show b9 < wr.heap.size; exact hbl)).trans c4; have y4 := (hSw.cell (by show b9' < wr.heap.size; exact hbl')).trans d4; have x5 := (hSw.cell (by show b9 < wr.heap.size; exact hbl)).trans c5; have y5 := (hSw.cell (by show b9' < wr.heap.size; exact hbl')).trans d5; have x6 := (hSw.cell (by show b9 < wr.heap.size; exact hbl)).trans c6; have y6 := (hSw.cell (by show b9' < wr.heap.size; exact hbl')).trans d6; have x7 := (hSw.cell (by show b9 < wr.heap.size; exact hbl)).trans c7; have y7 := (hSw.cell (by show b9' < wr.heap.size; exact hbl')).trans d7; have x8 := (hSw.cell (by show b9 < wr.heap.size; exact hbl)).trans c8; have y8 := (hSw.cell (by show b9' < wr.heap.size; exact hbl')).trans d8; have xf := (hSw.cell (by show w.heap.size < wr.heap.size; exact hw0)).trans f3; have xg := (hSw.cell (by show w.heap.size + 1 < wr.heap.size; exact hw1)).trans g3; go_simp; try with_reducible rfl)
          simp only [Act.put, List.setIfInBounds_toArray, List.set_cons_succ, List.set_cons_zero]
          refine wpAnyH_done (by kernel_rfl) ?_ _

          have hb2 : Below w2.heap.size w2 w9 := hb.trans (hb1.mono hb.size)
          cases hp : msgEqM x x'
          · have HP := hidMk hp
            clear hp
            go_wp2_with fail
            go_ret
            exact ⟨ret_bool (by first | (rw [HV.out, listEq_no HE.out.1 HE.out.2 HP.out]; done) | (rw [HV.out, listEq_no HE.out.1 HE.out.2 HP.out]; simp)), hBW.trans (hb2.mono hBW.size)⟩
          · have HP := hidMk hp
            clear hp
            go_wp2_with fail
            go_roundg (n3 - (j + 1))
            case measure => have := hk.out; omega
            case rel =>
              refine ⟨j + 1, by omega, rfl, by go_num, fun i hi x y hx hy => ?_, hb2⟩
              by_cases e : i = j
              · subst e
                rw [HE.out.1] at hx
                rw [HE.out.2] at hy
                cases hx
                cases hy
                exact HP.out
              · exact hq.out i (by omega) x y hx hy
        · obtain rfl : j = n3 := by omega
          have HL3 : Hid (listEq msgEqM A.net B.net = true) := listEq_yes (by rw [← HS3.len, ← HT3.len]) (fun i x y hx hy => hq.out i (by have := (List.getElem?_eq_some_iff.1 hx).1; have := HS3.len; omega) x y hx hy)
          replace HV : Hid (worldEq A B = (listEq logEq A.past B.past && listEq toldEq A.told B.told)) := by have h := HV.out; rw [HL3.out] at h; exact hidMk (by simpa using h)
          go_wp2_with fail
          have hBW3 := hBW.trans (hb.mono hBW.size)
          clear hBW
          have hBW := hBW3
          clear hBW3
          have B0 := HB0.out.next hb HB0.out.lt
          have B1 := HB1.out.next hb HB1.out.lt
          clear HB0 HB1
          have HB0 := hidMk B0
          have HB1 := hidMk B1
          clear B0 B1 f2 f3 f4 f5 g2 g3 g4 g5 hlt hj hk hq HL3 HS3 HT3
          replace HS4 := HS4.below eltLog hb (by omega)
          replace HT4 := HT4.below eltLog hb (by omega)
          replace HS5 := HS5.below eltTold hb (by omega)
          replace HT5 := HT5.below eltTold hb (by omega)
          have hU3w := Nat.le_trans hU3 hs1
          have hU3w' := Nat.le_trans hU3' hs1
          clear hU3 hU3' hs1 hb
          have hU3 := hU3w
          have hU3' := hU3w'
          clear hU3w hU3w'
          rename World => w3
          go_loopg [7] n4 (fun g i wr => ∃ j : Nat, j ≤ n4 ∧ Hid (g = n4 - j) ∧ i = .int .i64 j ∧ Hid (∀ i, i < j → ∀ x y, A.past[i]? = some x → B.past[i]? = some y → logEq x y = true) ∧ Below w3.heap.size w3 wr)
          case atStart => exact ⟨0, Nat.zero_le _, by show _ = _; omega, rfl, fun i hi => by omega, Below.refl _ _⟩
          case round =>
            obtain ⟨j, hj, hk, rfl, hq, hb⟩ := hrel
            have hs1 := hb.size
            have BX0 := HB0.out.next hb HB0.out.lt
            have BX1 := HB1.out.next hb HB1.out.lt
            obtain ⟨_, _, f2, f3, f4, f5⟩ := BX0.c6
            obtain ⟨_, _, g2, g3, g4, g5⟩ := BX1.c6
            have hw0 := BX0.lt
            have hw1 := BX1.lt
            clear BX0 BX1
            by_cases hlt : j < n4
            · obtain ⟨b9, off, ha, hL, hbU, hc⟩ := HS4.at_ (by omega)
              obtain ⟨b9', off', ha', hL', hbU', hc'⟩ := HT4.at_ (by omega)
              subst ha ha'
              obtain ⟨x, vs, he, hc, hE⟩ := hc j hlt
              obtain ⟨x', vs', he2, hc', hE'⟩ := hc' j hlt
              obtain ⟨q, s, ea1, en1, ec1', ea2, en2, ec2', rfl, hK⟩ := hE
              obtain ⟨q', s', ea1', en1', ec1'', ea2', en2', ec2'', rfl, hM⟩ := hE'
              have c0 := hc 0 _ rfl
              have c1 := hc 1 _ rfl
              have c2 := hc 2 _ rfl
              have c3 := hc 3 _ rfl
              simp only [Nat.add_zero] at c0
              rw [← hb.cell (by simp; omega)] at c0 c1 c2 c3
              have d0 := hc' 0 _ rfl
              have d1 := hc' 1 _ rfl
              have d2 := hc' 2 _ rfl
              have d3 := hc' 3 _ rfl
              simp only [Nat.add_zero] at d0
              rw [← hb.cell (by simp; omega)] at d0 d1 d2 d3
              have HE : Hid (A.past[j]? = some x ∧ B.past[j]? = some x') := ⟨he, he2⟩
              have hbl : b9 < wr.heap.size := by omega
              have hbl' : b9' < wr.heap.size := by omega
              clear he he2 hc hc'
              have hlt' : (j : Int) < (n4 : Int) := by omega
              have HK := hidMk (hK.below hb (by omega))
              have HM := hidMk (hM.below hb (by omega))
              clear hK hM
              go_upto_region 16 with fail
              refine wp_region_held_drew (S := (fun W => Below wr.heap.size wr W)) (by kernel_rfl) ?_ (fun hHeld => ?_)
              · exact (Below.refl _ _).drew
              refine listH (l2 := #[false, false, false, false, false, false, false, false, false, false, false, false]) (by kernel_rfl) ?_
              refine takeH (i := 0) (oi := _) (v := ?vs4x0) 96 #[true, false, false, false, false, false, false, false, false, false, false, false] rfl (by kernel_rfl) (by kernel_rfl) (by kernel_rfl) rfl (by kernel_rfl) (fun _ _ _ h => h) (Or.inl ⟨by rfl, ?ys4x0⟩) (by assumption) ?rs4x0
              case ys4x0 => (intro w' hSw; (try dsimp only at hSw); have x0 := (hSw.cell (by show b9 < wr.heap.size; exact hbl)).trans c0; have y0 := (hSw.cell (by show b9' < wr.heap.size; exact hbl')).trans d0; have x1 := (hSw.cell (by show b9 < wr.heap.size; exact hbl)).trans c1; have y1 := (hSw.cell (by show b9' < wr.heap.size; exact hbl')).trans d1; have x2 := (hSw.cell (by show b9 < wr.heap.size; exact hbl)).trans c2; have y2 := (hSw.cell (by show b9' < wr.heap.size; exact hbl')).trans d2; have x3 := (hSw.cell (by show b9 < wr.heap.size; exact hbl)).trans c3; have y3 := (hSw.cell (by show b9' < wr.heap.size; exact hbl')).trans d3; have xf := (hSw.cell (by show w.heap.size < wr.heap.size; exact hw0)).trans f4; have xg := (hSw.cell (by show w.heap.size + 1 < wr.heap.size; exact hw1)).trans g4; go_simp; try with_reducible rfl)
              simp only [Act.put, List.setIfInBounds_toArray, List.set_cons_succ, List.set_cons_zero]
              refine takeH (i := 1) (oi := _) (v := ?vs4x1) 97 #[true, true, false, false, false, false, false, false, false, false, false, false] rfl (by kernel_rfl) (by kernel_rfl) (by kernel_rfl) rfl (by kernel_rfl) (fun _ _ _ h => h) (Or.inl ⟨by rfl, ?ys4x1⟩) (by assumption) ?rs4x1
              case ys4x1 => (intro w' hSw; (try dsimp only at hSw); have x0 := (hSw.cell (by show b9 < wr.heap.size; exact hbl)).trans c0; have y0 := (hSw.cell (by show b9' < wr.heap.size; exact hbl')).trans d0; have x1 := (hSw.cell (by show b9 < wr.heap.size; exact hbl)).trans c1; have y1 := (hSw.cell (by show b9' < wr.heap.size; exact hbl')).trans d1; have x2 := (hSw.cell (by show b9 < wr.heap.size; exact hbl)).trans c2; have y2 := (hSw.cell (by show b9' < wr.heap.size; exact hbl')).trans d2; have x3 := (hSw.cell (by show b9 < wr.heap.size; exact hbl)).trans c3; have y3 := (hSw.cell (by show b9' < wr.heap.size; exact hbl')).trans d3; have xf := (hSw.cell (by show w.heap.size < wr.heap.size; exact hw0)).trans f4; have xg := (hSw.cell (by show w.heap.size + 1 < wr.heap.size; exact hw1)).trans g4; go_simp; try with_reducible rfl)
              simp only [Act.put, List.setIfInBounds_toArray, List.set_cons_succ, List.set_cons_zero]
              refine takeH (i := 2) (oi := _) (v := ?vs4x2) 98 #[true, true, true, false, false, false, false, false, false, false, false, false] rfl (by kernel_rfl) (by kernel_rfl) (by kernel_rfl) rfl (by kernel_rfl) (fun _ _ _ h => h) (Or.inl ⟨by rfl, ?ys4x2⟩) (by assumption) ?rs4x2
              case ys4x2 => (intro w' hSw; (try dsimp only at hSw); have x0 := (hSw.cell (by show b9 < wr.heap.size; exact hbl)).trans c0; have y0 := (hSw.cell (by show b9' < wr.heap.size; exact hbl')).trans d0; have x1 := (hSw.cell (by show b9 < wr.heap.size; exact hbl)).trans c1; have y1 := (hSw.cell (by show b9' < wr.heap.size; exact hbl')).trans d1; have x2 := (hSw.cell (by show b9 < wr.heap.size; exact hbl)).trans c2; have y2 := (hSw.cell (by show b9' < wr.heap.size; exact hbl')).trans d2; have x3 := (hSw.cell (by show b9 < wr.heap.size; exact hbl)).trans c3; have y3 := (hSw.cell (by show b9' < wr.heap.size; exact hbl')).trans d3; have xf := (hSw.cell (by show w.heap.size < wr.heap.size; exact hw0)).trans f4; have xg := (hSw.cell (by show w.heap.size + 1 < wr.heap.size; exact hw1)).trans g4; go_simp; try with_reducible rfl)
              simp only [Act.put, List.setIfInBounds_toArray, List.set_cons_succ, List.set_cons_zero]
              refine takeH (i := 3) (oi := _) (v := ?vs4x3) 99 #[true, true, true, true, false, false, false, false, false, false, false, false] rfl (by kernel_rfl) (by kernel_rfl) (by kernel_rfl) rfl (by kernel_rfl) (fun _ _ _ h => h) (Or.inl ⟨by rfl, ?ys4x3⟩) (by assumption) ?rs4x3
              case ys4x3 => (intro w' hSw; (try dsimp only at hSw); have x0 := (hSw.cell (by show b9 < wr.heap.size; exact hbl)).trans c0; have y0 := (hSw.cell (by show b9' < wr.heap.size; exact hbl')).trans d0; have x1 := (hSw.cell (by show b9 < wr.heap.size; exact hbl)).trans c1; have y1 := (hSw.cell (by show b9' < wr.heap.size; exact hbl')).trans d1; have x2 := (hSw.cell (by show b9 < wr.heap.size; exact hbl)).trans c2; have y2 := (hSw.cell (by show b9' < wr.heap.size; exact hbl')).trans d2; have x3 := (hSw.cell (by show b9 < wr.heap.size; exact hbl)).trans c3; have y3 := (hSw.cell (by show b9' < wr.heap.size; exact hbl')).trans d3; have xf := (hSw.cell (by show w.heap.size < wr.heap.size; exact hw0)).trans f4; have xg := (hSw.cell (by show w.heap.size + 1 < wr.heap.size; exact hw1)).trans g4; go_simp; try with_reducible rfl)
              simp only [Act.put, List.setIfInBounds_toArray, List.set_cons_succ, List.set_cons_zero]
              refine takeH (i := 4) (oi := _) (v := ?vs4x4) 100 #[true, true, true, true, true, false, false, false, false, false, false, false] rfl (by kernel_rfl) (by kernel_rfl) (by kernel_rfl) rfl (by kernel_rfl) (fun _ _ _ h => h) (Or.inl ⟨by rfl, ?ys4x4⟩) (by assumption) ?rs4x4
              case ys4x4 => (intro w' hSw; (try dsimp only at hSw); have x0 := (hSw.cell (by show b9 < wr.heap.size; exact hbl)).trans c0; have y0 := (hSw.cell (by show b9' < wr.heap.size; exact hbl')).trans d0; have x1 := (hSw.cell (by show b9 < wr.heap.size; exact hbl)).trans c1; have y1 := (hSw.cell (by show b9' < wr.heap.size; exact hbl')).trans d1; have x2 := (hSw.cell (by show b9 < wr.heap.size; exact hbl)).trans c2; have y2 := (hSw.cell (by show b9' < wr.heap.size; exact hbl')).trans d2; have x3 := (hSw.cell (by show b9 < wr.heap.size; exact hbl)).trans c3; have y3 := (hSw.cell (by show b9' < wr.heap.size; exact hbl')).trans d3; have xf := (hSw.cell (by show w.heap.size < wr.heap.size; exact hw0)).trans f4; have xg := (hSw.cell (by show w.heap.size + 1 < wr.heap.size; exact hw1)).trans g4; go_simp; try with_reducible rfl)
              simp only [Act.put, List.setIfInBounds_toArray, List.set_cons_succ, List.set_cons_zero]
              refine takeH (i := 5) (oi := _) (v := ?vs4x5) 101 #[true, true, true, true, true, true, false, false, false, false, false, false] rfl (by kernel_rfl) (by kernel_rfl) (by kernel_rfl) rfl (by kernel_rfl) (fun _ _ _ h => h) (Or.inl ⟨by rfl, ?ys4x5⟩) (by assumption) ?rs4x5
              case ys4x5 => (intro w' hSw; (try dsimp only at hSw); have x0 := (hSw.cell (by show b9 < wr.heap.size; exact hbl)).trans c0; have y0 := (hSw.cell (by show b9' < wr.heap.size; exact hbl')).trans d0; have x1 := (hSw.cell (by show b9 < wr.heap.size; exact hbl)).trans c1; have y1 := (hSw.cell (by show b9' < wr.heap.size; exact hbl')).trans d1; have x2 := (hSw.cell (by show b9 < wr.heap.size; exact hbl)).trans c2; have y2 := (hSw.cell (by show b9' < wr.heap.size; exact hbl')).trans d2; have x3 := (hSw.cell (by show b9 < wr.heap.size; exact hbl)).trans c3; have y3 := (hSw.cell (by show b9' < wr.heap.size; exact hbl')).trans d3; have xf := (hSw.cell (by show w.heap.size < wr.heap.size; exact hw0)).trans f4; have xg := (hSw.cell (by show w.heap.size + 1 < wr.heap.size; exact hw1)).trans g4; go_simp; try with_reducible rfl)
              simp only [Act.put, List.setIfInBounds_toArray, List.set_cons_succ, List.set_cons_zero]
              refine takeH (i := 6) (oi := _) (v := ?vs4x6) 102 #[true, true, true, true, true, true, true, false, false, false, false, false] rfl (by kernel_rfl) (by kernel_rfl) (by kernel_rfl) rfl (by kernel_rfl) (fun _ _ _ h => h) (Or.inl ⟨by rfl, ?ys4x6⟩) (by assumption) ?rs4x6
              case ys4x6 => (intro w' hSw; (try dsimp only at hSw); have x0 := (hSw.cell (by show b9 < wr.heap.size; exact hbl)).trans c0; have y0 := (hSw.cell (by show b9' < wr.heap.size; exact hbl')).trans d0; have x1 := (hSw.cell (by show b9 < wr.heap.size; exact hbl)).trans c1; have y1 := (hSw.cell (by show b9' < wr.heap.size; exact hbl')).trans d1; have x2 := (hSw.cell (by show b9 < wr.heap.size; exact hbl)).trans c2; have y2 := (hSw.cell (by show b9' < wr.heap.size; exact hbl')).trans d2; have x3 := (hSw.cell (by show b9 < wr.heap.size; exact hbl)).trans c3; have y3 := (hSw.cell (by show b9' < wr.heap.size; exact hbl')).trans d3; have xf := (hSw.cell (by show w.heap.size < wr.heap.size; exact hw0)).trans f4; have xg := (hSw.cell (by show w.heap.size + 1 < wr.heap.size; exact hw1)).trans g4; go_simp; try with_reducible rfl)
              simp only [Act.put, List.setIfInBounds_toArray, List.set_cons_succ, List.set_cons_zero]
              refine takeH (i := 7) (oi := _) (v := ?vs4x7) 103 #[true, true, true, true, true, true, true, true, false, false, false, false] rfl (by kernel_rfl) (by kernel_rfl) (by kernel_rfl) rfl (by kernel_rfl) (fun _ _ _ h => h) (Or.inl ⟨by rfl, ?ys4x7⟩) (by assumption) ?rs4x7
              case ys4x7 => (intro w' hSw; (try dsimp only at hSw); have x0 := (hSw.cell (by show b9 < wr.heap.size; exact hbl)).trans c0; have y0 := (hSw.cell (by show b9' < wr.heap.size; exact hbl')).trans d0; have x1 := (hSw.cell (by show b9 < wr.heap.size; exact hbl)).trans c1; have y1 := (hSw.cell (by show b9' < wr.heap.size; exact hbl')).trans d1; have x2 := (hSw.cell (by show b9 < wr.heap.size; exact hbl)).trans c2; have y2 := (hSw.cell (by show b9' < wr.heap.size; exact hbl')).trans d2; have x3 := (hSw.cell (by show b9 < wr.heap.size; exact hbl)).trans c3; have y3 := (hSw.cell (by show b9' < wr.heap.size; exact hbl')).trans d3; have xf := (hSw.cell (by show w.heap.size < wr.heap.size; exact hw0)).trans f4; have xg := (hSw.cell (by show w.heap.size + 1 < wr.heap.size; exact hw1)).trans g4; go_simp; try with_reducible rfl)
              simp only [Act.put, List.setIfInBounds_toArray, List.set_cons_succ, List.set_cons_zero]
              refine takeH (i := 8) (oi := _) (v := ?vs4x8) 104 #[true, true, true, true, true, true, true, true, true, false, false, false] rfl (by kernel_rfl) (by kernel_rfl) (by kernel_rfl) rfl (by kernel_rfl) (fun _ _ _ h => h) (Or.inl ⟨by rfl, ?ys4x8⟩) (by assumption) ?rs4x8
              case ys4x8 => (intro w' hSw; (try dsimp only at hSw); have x0 := (hSw.cell (by show b9 < wr.heap.size; exact hbl)).trans c0; have y0 := (hSw.cell (by show b9' < wr.heap.size; exact hbl')).trans d0; have x1 := (hSw.cell (by show b9 < wr.heap.size; exact hbl)).trans c1; have y1 := (hSw.cell (by show b9' < wr.heap.size; exact hbl')).trans d1; have x2 := (hSw.cell (by show b9 < wr.heap.size; exact hbl)).trans c2; have y2 := (hSw.cell (by show b9' < wr.heap.size; exact hbl')).trans d2; have x3 := (hSw.cell (by show b9 < wr.heap.size; exact hbl)).trans c3; have y3 := (hSw.cell (by show b9' < wr.heap.size; exact hbl')).trans d3; have xf := (hSw.cell (by show w.heap.size < wr.heap.size; exact hw0)).trans f4; have xg := (hSw.cell (by show w.heap.size + 1 < wr.heap.size; exact hw1)).trans g4; go_simp; try with_reducible rfl)
              simp only [Act.put, List.setIfInBounds_toArray, List.set_cons_succ, List.set_cons_zero]
              refine takeH (i := 9) (oi := _) (v := ?vs4x9) 105 #[true, true, true, true, true, true, true, true, true, true, false, false] rfl (by kernel_rfl) (by kernel_rfl) (by kernel_rfl) rfl (by kernel_rfl) (fun _ _ _ h => h) (Or.inl ⟨by rfl, ?ys4x9⟩) (by assumption) ?rs4x9
              case ys4x9 => (intro w' hSw; (try dsimp only at hSw); have x0 := (hSw.cell (by show b9 < wr.heap.size; exact hbl)).trans c0; have y0 := (hSw.cell (by show b9' < wr.heap.size; exact hbl')).trans d0; have x1 := (hSw.cell (by show b9 < wr.heap.size; exact hbl)).trans c1; have y1 := (hSw.cell (by show b9' < wr.heap.size; exact hbl')).trans d1; have x2 := (hSw.cell (by show b9 < wr.heap.size; exact hbl)).trans c2; have y2 := (hSw.cell (by show b9' < wr.heap.size; exact hbl')).trans d2; have x3 := (hSw.cell (by show b9 < wr.heap.size; exact hbl)).trans c3; have y3 := (hSw.cell (by show b9' < wr.heap.size; exact hbl')).trans d3; have xf := (hSw.cell (by show w.heap.size < wr.heap.size; exact hw0)).trans f4; have xg := (hSw.cell (by show w.heap.size + 1 < wr.heap.size; exact hw1)).trans g4; go_simp; try with_reducible rfl)
              simp only [Act.put, List.setIfInBounds_toArray, List.set_cons_succ, List.set_cons_zero]
              refine wpAnyH_ready (rs := [10]) (by kernel_rfl) (by simp) ?_
              refine AllReadyH.cons (o := _) rfl (fun K hK => ?_) AllReadyH.nil
              go_simp
              refine (specLogSame _ _ _ _ _ _ _ _ _ _ _ _ _ _ _ _ x x' L U L' U' _ (by simp; omega) (by simp; omega) (HK.out.below (Below.refl _ _).drew (by omega)) (HM.out.below (Below.refl _ _).drew (by omega))).mono ?_
              rintro e w9 ⟨rfl, hb9⟩
              have hb1 : Below wr.heap.size wr w9 := (Below.refl _ _).drew.trans (hb9.mono (Nat.le_refl _))
              go_wp2_with fail
              refine hK.out _ _ ?_ (fun hHeld => ?_)
              · exact hb1
              clear hK K
              try simp only [Act.put]
              refine listH (l2 := #[true, true, true, true, true, true, true, true, true, true, true, false]) (by kernel_rfl) ?_
              refine takeH (i := 11) (oi := _) (v := ?vs4x11) 107 #[true, true, true, true, true, true, true, true, true, true, true, true] rfl (by kernel_rfl) (by kernel_rfl) (by kernel_rfl) rfl (by kernel_rfl) (fun _ _ _ h => h) (Or.inl ⟨by rfl, ?ys4x11⟩) (by assumption) ?rs4x11
              case ys4x11 => (intro w' hSw; (try dsimp only at hSw); have x0 := (hSw.cell (by show b9 < wr.heap.size; exact hbl)).trans c0; have y0 := (hSw.cell (by show b9' < wr.heap.size; exact hbl')).trans d0; have x1 := (hSw.cell (by show b9 < wr.heap.size; exact hbl)).trans c1; have y1 := (hSw.cell (by show b9' < wr.heap.size; exact hbl')).trans d1; have x2 := (hSw.cell (by show b9 < wr.heap.size; exact hbl)).trans c2; have y2 := (hSw.cell (by show b9' < wr.heap.size; exact hbl')).trans d2; have x3 := (hSw.cell (by show b9 < wr.heap.size; exact hbl)).trans c3; have y3 := (hSw.cell (by show b9' < wr.heap.size; exact hbl')).trans d3; have xf := (hSw.cell (by show w.heap.size < wr.heap.size; exact hw0)).trans f4; have xg := (hSw.cell (by show w.heap.size + 1 < wr.heap.size; exact hw1)).trans g4; go_simp; try with_reducible rfl)
              simp only [Act.put, List.setIfInBounds_toArray, List.set_cons_succ, List.set_cons_zero]
              refine wpAnyH_done (by kernel_rfl) ?_ _

              have hb2 : Below w3.heap.size w3 w9 := hb.trans (hb1.mono hb.size)
              cases hp : logEq x x'
              · have HP := hidMk hp
                clear hp
                go_wp2_with fail
                go_ret
                exact ⟨ret_bool (by first | (rw [HV.out, listEq_no HE.out.1 HE.out.2 HP.out]; done) | (rw [HV.out, listEq_no HE.out.1 HE.out.2 HP.out]; simp)), hBW.trans (hb2.mono hBW.size)⟩
              · have HP := hidMk hp
                clear hp
                go_wp2_with fail
                go_roundg (n4 - (j + 1))
                case measure => have := hk.out; omega
                case rel =>
                  refine ⟨j + 1, by omega, rfl, by go_num, fun i hi x y hx hy => ?_, hb2⟩
                  by_cases e : i = j
                  · subst e
                    rw [HE.out.1] at hx
                    rw [HE.out.2] at hy
                    cases hx
                    cases hy
                    exact HP.out
                  · exact hq.out i (by omega) x y hx hy
            · obtain rfl : j = n4 := by omega
              have HL4 : Hid (listEq logEq A.past B.past = true) := listEq_yes (by rw [← HS4.len, ← HT4.len]) (fun i x y hx hy => hq.out i (by have := (List.getElem?_eq_some_iff.1 hx).1; have := HS4.len; omega) x y hx hy)
              replace HV : Hid (worldEq A B = (listEq toldEq A.told B.told)) := by have h := HV.out; rw [HL4.out] at h; exact hidMk (by simpa using h)
              go_wp2_with fail
              have hBW4 := hBW.trans (hb.mono hBW.size)
              clear hBW
              have hBW := hBW4
              clear hBW4
              have B0 := HB0.out.next hb HB0.out.lt
              have B1 := HB1.out.next hb HB1.out.lt
              clear HB0 HB1
              have HB0 := hidMk B0
              have HB1 := hidMk B1
              clear B0 B1 f2 f3 f4 f5 g2 g3 g4 g5 hlt hj hk hq HL4 HS4 HT4
              replace HS5 := HS5.below eltTold hb (by omega)
              replace HT5 := HT5.below eltTold hb (by omega)
              have hU3w := Nat.le_trans hU3 hs1
              have hU3w' := Nat.le_trans hU3' hs1
              clear hU3 hU3' hs1 hb
              have hU3 := hU3w
              have hU3' := hU3w'
              clear hU3w hU3w'
              rename World => w4
              go_loopg [8] n5 (fun k i wr => ∃ j : Nat, j ≤ n5 ∧ Hid (k = n5 - j) ∧ i = .int .i64 j ∧ Hid (∀ i, i < j → ∀ x y, A.told[i]? = some x → B.told[i]? = some y → toldEq x y = true) ∧ ∃ q, wr = w4.drewN q)
              case atStart => exact ⟨0, Nat.zero_le _, by show _ = _; omega, rfl, fun i hi => by omega, 0, rfl⟩
              case round =>
                obtain ⟨j, hj, hk, rfl, hq, qq, rfl⟩ := hrel
                have BX0 := HB0.out
                have BX1 := HB1.out
                obtain ⟨_, _, _, _, _, f5⟩ := BX0.c6
                obtain ⟨_, _, _, _, _, g5⟩ := BX1.c6
                clear BX0 BX1
                by_cases hlt : j < n5
                · obtain ⟨b9, off, ha, hL, hbU, hc⟩ := HS5.at_ (by omega)
                  obtain ⟨b9', off', ha', hL', hbU', hc'⟩ := HT5.at_ (by omega)
                  subst ha ha'
                  obtain ⟨x, vs, he, hc, rfl⟩ := hc j hlt
                  obtain ⟨y, vs', he2, hc', rfl⟩ := hc' j hlt
                  have c0 := hc 0 _ rfl
                  have c1 := hc 1 _ rfl
                  have c2 := hc 2 _ rfl
                  have d0 := hc' 0 _ rfl
                  have d1 := hc' 1 _ rfl
                  have d2 := hc' 2 _ rfl
                  simp only [Nat.add_zero] at c0 d0
                  have HE : Hid (A.told[j]? = some x ∧ B.told[j]? = some y) := ⟨he, he2⟩
                  have hlt' : (j : Int) < (n5 : Int) := by omega
                  clear he he2 hc hc'
                  rcases toldParts x y with ⟨t0, t1, t2⟩ | t0 | ⟨t0, t1⟩ | ⟨t0, t1, t2⟩
                  · have HY : Hid (toldEq x y = true) := by show _ = _; simp only [toldEq, t0, t1, t2, Bool.and_true]
                    go_wp2_with fail
                    go_quiet (fail)
                    go_wp2_with fail
                    go_roundg (n5 - (j + 1))
                    case measure => have := hk.out; omega
                    case rel =>
                      refine ⟨j + 1, by omega, rfl, by go_num, fun i hi x' y' hx hy => ?_, _, rfl⟩
                      by_cases e : i = j
                      · subst e
                        rw [HE.out.1] at hx
                        rw [HE.out.2] at hy
                        cases hx
                        cases hy
                        exact HY.out
                      · exact hq.out i (by omega) x' y' hx hy
                  all_goals
                    have HN : Hid (toldEq x y = false) := by show _ = _; simp only [toldEq, *, Bool.and_false, Bool.false_and]
                    go_wp2_with fail
                    go_quiet (fail)
                    go_wp2_with fail
                    go_ret
                    exact ⟨ret_bool (by rw [HV.out, listEq_no HE.out.1 HE.out.2 HN.out]), hBW.trans ((by rw [World.drewN_drewN]; exact Below.drewN _ _ : Below _ _ _).mono hBW.size)⟩
                · obtain rfl : j = n5 := by omega
                  go_wp2_with fail
                  go_ret
                  exact ⟨ret_bool (by rw [HV.out]; exact (listEq_yes (by rw [← HS5.len, ← HT5.len]) (fun i x y hx hy => hq.out i (by have := (List.getElem?_eq_some_iff.1 hx).1; have := HS5.len; omega) x y hx hy)).symm), hBW.trans ((Below.drewN _ _).mono hBW.size)⟩
end Go.Proofs.Ytohimbdmhljocaa
