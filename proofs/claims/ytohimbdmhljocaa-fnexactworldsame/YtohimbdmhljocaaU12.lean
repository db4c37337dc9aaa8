/- Lemmas that the proofs of this seat share: WldH. -/
import Derived.Test.YtohimbdmhljocaaU11
/- WorldSame of the program. -/
namespace Go.Proofs.Ytohimbdmhljocaa
open Go.RowKit Go.ChangeShapes Go.WideShapes
set_option maxHeartbeats 16000000 in
set_option maxRecDepth 20000 in
theorem implWorldSame (a0 : Option Addr) (n0 c0 : Nat) (a1 : Option Addr) (n1 c1 : Nat) (a2 : Option Addr) (n2 c2 : Nat) (a3 : Option Addr) (n3 c3 : Nat) (a4 : Option Addr) (n4 c4 : Nat) (a5 : Option Addr) (n5 c5 : Nat) (x0 : Option Addr) (m0 y0 : Nat) (x1 : Option Addr) (m1 y1 : Nat) (x2 : Option Addr) (m2 y2 : Nat) (x3 : Option Addr) (m3 y3 : Nat) (x4 : Option Addr) (m4 y4 : Nat) (x5 : Option Addr) (m5 y5 : Nat) (A B : LWorld) (L U L' U' : Nat) (w : World) (hU : U ≤ w.heap.size) (hU' : U' ≤ w.heap.size) (H : WorldAt w L U a0 n0 a1 n1 a2 n2 a3 n3 a4 n4 a5 n5 A) (H' : WorldAt w L' U' x0 m0 x1 m1 x2 m2 x3 m3 x4 m4 x5 m5 B) :
    Calls Try.prog 19 #[.agg #[.slice a0 n0 c0, .slice a1 n1 c1, .slice a2 n2 c2, .slice a3 n3 c3, .slice a4 n4 c4, .slice a5 n5 c5], .agg #[.slice x0 m0 y0, .slice x1 m1 y1, .slice x2 m2 y2, .slice x3 m3 y3, .slice x4 m4 y4, .slice x5 m5 y5]] w fun e w' => e = .returned (.bool (worldEq A B)) ∧ Below w.heap.size w w' := by
  have A0 : BoxI ((w.alloc (.cells #[.slice a0 n0 c0, .slice a1 n1 c1, .slice a2 n2 c2, .slice a3 n3 c3, .slice a4 n4 c4, .slice a5 n5 c5] 39)).alloc (.cells #[.slice x0 m0 y0, .slice x1 m1 y1, .slice x2 m2 y2, .slice x3 m3 y3, .slice x4 m4 y4, .slice x5 m5 y5] 39)) w.heap.size 39 [.slice a0 n0 c0, .slice a1 n1 c1, .slice a2 n2 c2, .slice a3 n3 c3, .slice a4 n4 c4, .slice a5 n5 c5] := (BoxI.new rfl).alloc _
  have A1 : BoxI ((w.alloc (.cells #[.slice a0 n0 c0, .slice a1 n1 c1, .slice a2 n2 c2, .slice a3 n3 c3, .slice a4 n4 c4, .slice a5 n5 c5] 39)).alloc (.cells #[.slice x0 m0 y0, .slice x1 m1 y1, .slice x2 m2 y2, .slice x3 m3 y3, .slice x4 m4 y4, .slice x5 m5 y5] 39)) (w.heap.size + 1) 39 [.slice x0 m0 y0, .slice x1 m1 y1, .slice x2 m2 y2, .slice x3 m3 y3, .slice x4 m4 y4, .slice x5 m5 y5] := BoxI.new (by simp)
  have hB0 : Below w.heap.size w ((w.alloc (.cells #[.slice a0 n0 c0, .slice a1 n1 c1, .slice a2 n2 c2, .slice a3 n3 c3, .slice a4 n4 c4, .slice a5 n5 c5] 39)).alloc (.cells #[.slice x0 m0 y0, .slice x1 m1 y1, .slice x2 m2 y2, .slice x3 m3 y3, .slice x4 m4 y4, .slice x5 m5 y5] 39)) := ((Below.refl _ _).alloc (Nat.le_refl _) _).alloc (by simp) _
  have HB0 := hidMk A0
  have HB1 := hidMk A1
  have HH := hidMk H
  have HH' := hidMk H'
  clear A0 A1 H H'
  go_enter Try.func19, Try.ntmps19
  go_wp2_with fail
  refine (implShopSame _ _ _ _ _ _ _ _ _ _ _ _ _ _ _ _ L U L' U' _ (by have := hB0.size; omega) (by have := hB0.size; omega) (HH.out.tree.below hB0 hU) (HH.out.dones.below hB0 hU) (HH'.out.tree.below hB0 hU') (HH'.out.dones.below hB0 hU')).mono ?_
  rintro e w1 ⟨rfl, hb1⟩
  have hB1 : Below w.heap.size w w1 := hB0.trans (hb1.mono hB0.size)
  have B0 := HB0.out.next hb1 HB0.out.lt
  have B1 := HB1.out.next hb1 HB1.out.lt
  clear HB0 HB1 hb1
  have HB0 := hidMk B0
  have HB1 := hidMk B1
  obtain ⟨_, _, f2, f3, f4, f5⟩ := B0.c6
  obtain ⟨_, _, g2, g3, g4, g5⟩ := B1.c6
  clear B0 B1
  rcases t1 : shopEq A.tree B.tree A.dones B.dones with _ | _
  · have HX := hidMk t1
    go_wp2_with fail
    go_ret
    exact ⟨ret_bool (by rw [worldEq, HX.out]; simp), hB1⟩
  have HX1 := hidMk t1
  clear t1
  go_wp2_with fail
  refine (equalFuncKeep _ _ _ _ _ _ _ _ L U L' U' _ (by have := hB1.size; omega) (by have := hB1.size; omega) (HH.out.keeps.below eltKeep hB1 hU) (HH'.out.keeps.below eltKeep hB1 hU')).mono ?_
  rintro e w2 ⟨rfl, hb2⟩
  clear f2 g2 f3 g3 f4 g4 f5 g5
  have hB2 : Below w.heap.size w w2 := hB1.trans (hb2.mono hB1.size)
  have B0 := HB0.out.next hb2 HB0.out.lt
  have B1 := HB1.out.next hb2 HB1.out.lt
  clear HB0 HB1 hb2
  have HB0 := hidMk B0
  have HB1 := hidMk B1
  obtain ⟨_, _, _, f3, f4, f5⟩ := B0.c6
  obtain ⟨_, _, _, g3, g4, g5⟩ := B1.c6
  clear B0 B1
  rcases t1 : listEq keepEq A.keeps B.keeps with _ | _
  · have HX := hidMk t1
    go_wp2_with fail
    go_ret
    exact ⟨ret_bool (by rw [worldEq, HX.out]; simp), hB2⟩
  have HX2 := hidMk t1
  clear t1
  go_wp2_with fail
  refine (equalFuncMsg _ _ _ _ _ _ _ _ L U L' U' _ (by have := hB2.size; omega) (by have := hB2.size; omega) (HH.out.net.below eltMsg hB2 hU) (HH'.out.net.below eltMsg hB2 hU')).mono ?_
  rintro e w3 ⟨rfl, hb3⟩
  clear f3 g3 f4 g4 f5 g5
  have hB3 : Below w.heap.size w w3 := hB2.trans (hb3.mono hB2.size)
  have B0 := HB0.out.next hb3 HB0.out.lt
  have B1 := HB1.out.next hb3 HB1.out.lt
  clear HB0 HB1 hb3
  have HB0 := hidMk B0
  have HB1 := hidMk B1
  obtain ⟨_, _, _, _, f4, f5⟩ := B0.c6
  obtain ⟨_, _, _, _, g4, g5⟩ := B1.c6
  clear B0 B1
  rcases t1 : listEq msgEqM A.net B.net with _ | _
  · have HX := hidMk t1
    go_wp2_with fail
    go_ret
    exact ⟨ret_bool (by rw [worldEq, HX.out]; simp), hB3⟩
  have HX3 := hidMk t1
  clear t1
  go_wp2_with fail
  refine (equalFuncLog _ _ _ _ _ _ _ _ L U L' U' _ (by have := hB3.size; omega) (by have := hB3.size; omega) (HH.out.past.below eltLog hB3 hU) (HH'.out.past.below eltLog hB3 hU')).mono ?_
  rintro e w4 ⟨rfl, hb4⟩
  clear f4 g4 f5 g5
  have hB4 : Below w.heap.size w w4 := hB3.trans (hb4.mono hB3.size)
  have B0 := HB0.out.next hb4 HB0.out.lt
  have B1 := HB1.out.next hb4 HB1.out.lt
  clear HB0 HB1 hb4
  have HB0 := hidMk B0
  have HB1 := hidMk B1
  obtain ⟨_, _, _, _, _, f5⟩ := B0.c6
  obtain ⟨_, _, _, _, _, g5⟩ := B1.c6
  clear B0 B1
  rcases t1 : listEq logEq A.past B.past with _ | _
  · have HX := hidMk t1
    go_wp2_with fail
    go_ret
    exact ⟨ret_bool (by rw [worldEq, HX.out]; simp), hB4⟩
  have HX4 := hidMk t1
  clear t1
  go_wp2_with fail
  refine (equalTolds _ _ _ _ _ _ _ _ L U L' U' _ (HH.out.told.below eltTold hB4 hU) (HH'.out.told.below eltTold hB4 hU')).mono ?_
  rintro e w5 ⟨rfl, hb5⟩
  clear f5 g5
  go_wp2_with fail
  go_ret
  exact ⟨ret_bool (by rw [worldEq, HX1.out, HX2.out, HX3.out, HX4.out]; simp), hB4.trans (hb5.mono hB4.size)⟩

end Go.Proofs.Ytohimbdmhljocaa
