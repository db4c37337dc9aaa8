/- The walk of the law FnTreeUnder. -/
import Derived.Test.YtjenldenggaljaaDrawn
import Derived.Test.YtjenldenggaljaaFacts2
namespace Go.Proofs.Ytjenldenggaljaa
open Go.RowKit

/-- In the midst of a law: the box of the tree, and the tree. -/
structure LSt (w W : World) (T b n c : Nat) (os : List LObj) : Prop where
  below : Below w.heap.size w W
  t : W.cell? ⟨T, 0, none⟩ = some (.slice (some ⟨b, 0, none⟩) n c)
  lo : w.heap.size ≤ T
  lt : T < W.heap.size
  tree : ObjsAt W w.heap.size T (some ⟨b, 0, none⟩) n os
  le : n ≤ 32
  bn : Bn os
theorem LSt.next {w W W' : World} {T b n c : Nat} {os : List LObj} (h : LSt w W T b n c os) (hb : Below W.heap.size W W') : LSt w W' T b n c os := by
  have h1 := h.lt
  have h2 := h.lo
  exact ⟨h.below.trans (hb.mono (by omega)), by rw [hb.cell (by simpa using h1)]; exact h.t, h2, by have := hb.size; omega, h.tree.below hb (by omega), h.le, h.bn⟩
theorem LSt.start {w W : World} {b n c : Nat} {os : List LObj} (hT : TreeIn w W b n os) (hb : Below w.heap.size w W) : LSt w (W.alloc (Obj.cells #[.slice (some ⟨b, 0, none⟩) n c] 25)) W.heap.size b n c os :=
  ⟨hb.alloc hb.size _, by simp [go_sem], hb.size, by simp, hT.at_.below ((Below.refl _ _).alloc (Nat.le_refl _) _) (Nat.le_refl _), hT.le, hT.bn⟩
theorem LSt.drew {w W : World} {T b n c : Nat} {os : List LObj} (h : LSt w W T b n c os) : LSt w W.drew T b n c os := h.next (Below.refl _ _).drew

set_option maxHeartbeats 4000000 in
set_option maxRecDepth 20000 in
theorem walkTreeUnder (a : Option Addr) (n c : Nat) (zs : List Int) (w : World) (hc : n ≤ c) (hcb : n ≤ maxLen) (H : BytesAt w w.heap.size a n zs) :
    Calls Try.prog 5 #[.slice a n c] w fun e w' => e = .returned (.bool true) ∧ Below w.heap.size w w' := by
  unfold maxLen at hcb
  by_cases hbig : 1048576 < n
  · go_enter Try.func5, Try.ntmps5
    go_wp2_with fail
    go_ret
    exact ⟨rfl, Below.refl _ _⟩
  go_enter Try.func5, Try.ntmps5
  go_wp2_with fail
  refine (drawUnder a n c zs w (by omega) hc H).mono ?_
  rintro e W1 ⟨⟨b, k, c2, os, x, y, rfl, hT⟩, hb1⟩
  have S1 := LSt.start (c := c2) hT hb1
  clear hT hb1 H
  go_wp2_with fail
  generalize hTq : W1.heap.size = T at *
  generalize hW2 : W1.alloc (Obj.cells #[.slice (some ⟨b, 0, none⟩) k c2] 25) = W2 at *
  clear hW2 hTq
  have hbd := S1.bn.sizes
  refine (implUnder _ _ _ _ w.heap.size T x y _ (by have := S1.lt; omega) S1.tree).mono ?_
  rintro e W3 ⟨rfl, hb3⟩
  have S3 := S1.next hb3
  have q3 := S3.t
  clear S1 hb3
  go_wp2_with fail
  refine (specUnder _ _ _ _ w.heap.size T x y _ hbd (by have := S3.lt; omega) S3.tree).mono ?_
  rintro e W4 ⟨rfl, hb4⟩
  have S4 := S3.next hb4
  have q4 := S4.t
  clear S3 hb4 q3
  cases hu : underV os x y
  · have HU : Hid (underV os x y = false) := hu
    clear hu
    go_wp2_with fail
    refine (specTreeOk _ _ _ _ w.heap.size T _ hbd (by have := S4.lt; omega) S4.tree).mono ?_
    rintro e W5 ⟨rfl, hb5⟩
    have S5 := S4.next hb5
    have q5 := S5.t
    clear S4 hb5 q4
    cases hs : specOk os
    · clear hs
      go_wp2_with fail
      go_ret
      exact ⟨rfl, S5.below⟩
    · clear hs
      go_wp2_with fail
      go_loopg [7] 32 (fun g i wr => ∃ j : Nat, j ≤ 32 ∧ Hid (g = 32 - j) ∧ i = .int .i64 j ∧ Hid (LSt w wr T b k c2 os))
      case atStart => exact ⟨0, by omega, rfl, rfl, S5⟩
      case round =>
        obtain ⟨j, hj, hg, rfl, HS⟩ := hrel
        by_cases hlt : j < 32
        · have hltI : (j : Int) < 32 := by omega
          go_wp2_with fail
          go_roundg (32 - (j + 1))
          case measure => have := hg.out; omega
          case rel => exact ⟨j + 1, by omega, rfl, by go_num, HS⟩
        · have hltI : ¬ (j : Int) < 32 := by omega
          go_wp2_with fail
          go_ret
          exact ⟨rfl, HS.out.below⟩
  · have HU : Hid (underV os x y = true) := hu
    have HOK : Hid (specOk os = true) := (underV_true hu).1
    clear hu
    go_wp2_with fail
    refine (specTreeOk _ _ _ _ w.heap.size T _ hbd (by have := S4.lt; omega) S4.tree).mono ?_
    rintro e W5 ⟨rfl, hb5⟩
    have S5 := S4.next hb5
    have q5 := S5.t
    clear S4 hb5 q4
    rw [HOK.out]
    go_wp2_with fail
    go_loopg [7] 32 (fun g i wr => ∃ j : Nat, j ≤ 32 ∧ Hid (g = 32 - j) ∧ i = .int .i64 j ∧ Hid (LSt w wr T b k c2 os))
    case atStart => exact ⟨0, by omega, rfl, rfl, S5⟩
    case round =>
      obtain ⟨j, hj, hg, rfl, HS⟩ := hrel
      have q6 := HS.out.t
      have hz6 := HS.out.lt
      by_cases hlt : j < 32
      · have hltI : (j : Int) < 32 := by omega
        cases hv : underV os y j
        · have HV : Hid (underV os y j = false) := hv
          clear hv
          go_wp2_with (go_at_call 29; refine (implUnder _ _ _ _ w.heap.size T _ _ _ (by have := HS.out.lt; omega) HS.out.tree).mono ?_; rintro e W7 ⟨rfl, hb7⟩; rw [HV.out])
          have S7 := HS.out.next hb7
          go_roundg (32 - (j + 1))
          case measure => have := hg.out; omega
          case rel => exact ⟨j + 1, by omega, rfl, by go_num, S7⟩
        · have HV : Hid (underV os y j = true) := hv
          have HV2 : Hid (underV os x j = true) := underV_trans HU.out hv
          clear hv
          go_wp2_with fail
          refine (implUnder _ _ _ _ w.heap.size T _ _ _ (by have := HS.out.lt; omega) HS.out.tree).mono ?_
          rintro e W7 ⟨rfl, hb7⟩
          rw [HV.out]
          have S7 := HS.out.next hb7
          have q7 := S7.t
          go_wp2_with fail
          refine (implUnder _ _ _ _ w.heap.size T _ _ _ (by have := S7.lt; omega) S7.tree).mono ?_
          rintro e W8 ⟨rfl, hb8⟩
          rw [HV2.out]
          have S8 := S7.next hb8
          go_wp2_with fail
          go_roundg (32 - (j + 1))
          case measure => have := hg.out; omega
          case rel => exact ⟨j + 1, by omega, rfl, by go_num, S8⟩
      · have hltI : ¬ (j : Int) < 32 := by omega
        cases hv : underV os y x
        · have HV : Hid (underV os y x = false) := hv
          clear hv
          go_wp2_with (go_at_call 29; refine (implUnder _ _ _ _ w.heap.size T _ _ _ (by have := HS.out.lt; omega) HS.out.tree).mono ?_; rintro e W7 ⟨rfl, hb7⟩; rw [HV.out])
          go_ret
          exact ⟨rfl, (HS.out.next hb7).below⟩
        · have HV : Hid (underV os y x = true) := hv
          have hxy : (x == y) = true := by simp [underV_anti HU.out hv]
          clear hv
          go_wp2_with (go_at_call 29; refine (implUnder _ _ _ _ w.heap.size T _ _ _ (by have := HS.out.lt; omega) HS.out.tree).mono ?_; rintro e W7 ⟨rfl, hb7⟩; rw [HV.out])
          go_ret
          exact ⟨rfl, (HS.out.next hb7).below⟩
end Go.Proofs.Ytjenldenggaljaa
