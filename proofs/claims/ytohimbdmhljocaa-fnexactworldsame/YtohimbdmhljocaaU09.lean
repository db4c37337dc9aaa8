/- Lemmas that the proofs of this seat share: WldE, MsgB2, LogC. -/
import Derived.Test.YtohimbdmhljocaaU08
import Derived.Test.YtohimbdmhljocaaU05
import Derived.Test.YtohimbdmhljocaaU06
import Derived.Deep.RegionHeld3
import Derived.Test.YtohimbdmhljocaaU04
/- Lists of what has parts of its own, clients, messages, logs, worlds: told as one. -/
namespace Go.Proofs.Ytohimbdmhljocaa
open Go.RowKit Go.ChangeShapes Go.WideShapes

set_option maxHeartbeats 2000000 in
theorem eqOpSS_same (a a' : Option Addr) (n c c' : Nat) (xs : List (List LOp)) (L U L' U' : Nat) (w : World) (hU : U ≤ w.heap.size) (hU' : U' ≤ w.heap.size) (H : RowsAt 1 OpsE w L U a n xs) (H' : RowsAt 1 OpsE w L' U' a' n xs) :
    Calls Try.prog 114 #[.slice a n c, .slice a' n c'] w fun e w' => e = .returned (.bool true) ∧ Below w.heap.size w w' := by
  have hbd := H.bd
  unfold maxLen at hbd
  go_enter Try.func114, Try.ntmps114
  go_wp2_with fail
  go_loopg [5] n (fun k i wr => ∃ j : Nat, j ≤ n ∧ Hid (k = n - j) ∧ i = .int .i64 j ∧ Below w.heap.size w wr)
  case atStart => exact ⟨0, Nat.zero_le _, by show _ = _; omega, rfl, Below.refl _ _⟩
  case round =>
    obtain ⟨j, hj, hk, rfl, hb⟩ := hrel
    by_cases hlt : j < n
    · obtain ⟨b, off, ha, hL, hbU, hc⟩ := H.at_ (by omega)
      obtain ⟨b', off', ha', hL', hbU', hc'⟩ := H'.at_ (by omega)
      subst ha ha'
      obtain ⟨x, vs, he, hc, hE⟩ := hc j hlt
      obtain ⟨x', vs', he2, hc', hE'⟩ := hc' j hlt
      obtain rfl : x = x' := by rw [he] at he2; simpa using he2
      obtain ⟨oa, on, oc, rfl, hO⟩ := hE
      obtain ⟨oa', on', oc', rfl, hO2⟩ := hE'
      obtain rfl : on = on' := by rw [hO.len, hO2.len]
      have c0 := hc 0 _ rfl
      simp only [Nat.add_zero, Nat.mul_one] at c0
      rw [← hb.cell (by simp; omega)] at c0
      have d0 := hc' 0 _ rfl
      simp only [Nat.add_zero, Nat.mul_one] at d0
      rw [← hb.cell (by simp; omega)] at d0
      have hlt' : (j : Int) < (n : Int) := by omega
      have hs1 := hb.size
      have hO := hO.below hb hU
      have hO2 := hO2.below hb hU'
      clear he he2 hc hc'
      go_wp2_with fail
      go_region_with (go_at_call 69; go_must (refine (eqOpS_same _ _ _ _ _ _ L U L' U' _ (by simp; omega) (by simp; omega) (hO.below (by repeat (first | exact Below.refl _ _ | refine Below.drew ?_)) (Nat.le_trans hU hs1)) (hO2.below (by repeat (first | exact Below.refl _ _ | refine Below.drew ?_)) (Nat.le_trans hU' hs1))).mono ?_; rintro e w1 ⟨rfl, hb1⟩))
      all_goals
        go_wp2_with fail
        go_roundg (n - (j + 1))
        case measure => have := hk.out; omega
        case rel => exact ⟨j + 1, by omega, rfl, by go_num, hb.trans (Below.trans (by repeat (first | exact Below.refl _ _ | refine Below.drew ?_)) (hb1.mono hb.size))⟩
    · obtain rfl : j = n := by omega
      go_wp2_with fail
      go_ret
      exact ⟨rfl, hb⟩

theorem eqTold_same (i j k : Int) (w : World) :
    Calls Try.prog 77 #[.agg #[.int .i64 i, .int .i64 j, .int .i64 k], .agg #[.int .i64 i, .int .i64 j, .int .i64 k]] w fun e w' => e = .returned (.bool true) ∧ Below w.heap.size w w' := by
  go_enter Try.func77, Try.ntmps77
  go_wp2
  go_ret
  exact ⟨by simp, ((Below.refl _ _).alloc (Nat.le_refl _) _).alloc (by simp) _⟩

set_option maxHeartbeats 2000000 in
theorem eqToldS_same (a a' : Option Addr) (n c c' : Nat) (xs : List LTold) (L U L' U' : Nat) (w : World) (hU : U ≤ w.heap.size) (hU' : U' ≤ w.heap.size) (H : RowsAt 3 ToldE w L U a n xs) (H' : RowsAt 3 ToldE w L' U' a' n xs) :
    Calls Try.prog 32 #[.slice a n c, .slice a' n c'] w fun e w' => e = .returned (.bool true) ∧ Below w.heap.size w w' := by
  have hbd := H.bd
  unfold maxLen at hbd
  go_enter Try.func32, Try.ntmps32
  go_wp2_with fail
  go_loopg [5] n (fun k i wr => ∃ j : Nat, j ≤ n ∧ Hid (k = n - j) ∧ i = .int .i64 j ∧ Below w.heap.size w wr)
  case atStart => exact ⟨0, Nat.zero_le _, by show _ = _; omega, rfl, Below.refl _ _⟩
  case round =>
    obtain ⟨j, hj, hk, rfl, hb⟩ := hrel
    by_cases hlt : j < n
    · obtain ⟨b, off, ha, hL, hbU, hc⟩ := H.at_ (by omega)
      obtain ⟨b', off', ha', hL', hbU', hc'⟩ := H'.at_ (by omega)
      subst ha ha'
      obtain ⟨x, vs, he, hc, hE⟩ := hc j hlt
      obtain ⟨x', vs', he2, hc', hE'⟩ := hc' j hlt
      obtain rfl : x = x' := by rw [he] at he2; simpa using he2
      obtain rfl : vs = _ := hE
      obtain rfl : vs' = _ := hE'

      have c0 := hc 0 _ rfl
      have c1 := hc 1 _ rfl
      have c2 := hc 2 _ rfl
      simp only [Nat.add_zero] at c0
      rw [← hb.cell (by simp; omega)] at c0 c1 c2
      have d0 := hc' 0 _ rfl
      have d1 := hc' 1 _ rfl
      have d2 := hc' 2 _ rfl
      simp only [Nat.add_zero] at d0
      rw [← hb.cell (by simp; omega)] at d0 d1 d2
      have hlt' : (j : Int) < (n : Int) := by omega
      have hs1 := hb.size

      clear he he2 hc hc'
      go_wp2_with fail
      go_region_with (go_at_call 77; go_must (refine (eqTold_same _ _ _ _).mono ?_; rintro e w1 ⟨rfl, hb1⟩))
      all_goals
        go_wp2_with fail
        go_roundg (n - (j + 1))
        case measure => have := hk.out; omega
        case rel => exact ⟨j + 1, by omega, rfl, by go_num, hb.trans (Below.trans (by repeat (first | exact Below.refl _ _ | refine Below.drew ?_)) (hb1.mono hb.size))⟩
    · obtain rfl : j = n := by omega
      go_wp2_with fail
      go_ret
      exact ⟨rfl, hb⟩

set_option maxHeartbeats 2000000 in
theorem eqLogS_same (a a' : Option Addr) (n c c' : Nat) (xs : List LLog) (L U L' U' : Nat) (w : World) (hU : U ≤ w.heap.size) (hU' : U' ≤ w.heap.size) (H : RowsAt 4 LogE w L U a n xs) (H' : RowsAt 4 LogE w L' U' a' n xs) :
    Calls Try.prog 10 #[.slice a n c, .slice a' n c'] w fun e w' => e = .returned (.bool true) ∧ Below w.heap.size w w' := by
  have hbd := H.bd
  unfold maxLen at hbd
  go_enter Try.func10, Try.ntmps10
  go_wp2_with fail
  go_loopg [5] n (fun k i wr => ∃ j : Nat, j ≤ n ∧ Hid (k = n - j) ∧ i = .int .i64 j ∧ Below w.heap.size w wr)
  case atStart => exact ⟨0, Nat.zero_le _, by show _ = _; omega, rfl, Below.refl _ _⟩
  case round =>
    obtain ⟨j, hj, hk, rfl, hb⟩ := hrel
    by_cases hlt : j < n
    · obtain ⟨b, off, ha, hL, hbU, hc⟩ := H.at_ (by omega)
      obtain ⟨b', off', ha', hL', hbU', hc'⟩ := H'.at_ (by omega)
      subst ha ha'
      obtain ⟨x, vs, he, hc, hE⟩ := hc j hlt
      obtain ⟨x', vs', he2, hc', hE'⟩ := hc' j hlt
      obtain rfl : x = x' := by rw [he] at he2; simpa using he2
      obtain ⟨q, s, a1, n1, c1', a2, n2, c2', rfl, hL4⟩ := hE
      obtain ⟨q', s', a1', n1', c1'', a2', n2', c2'', rfl, hM4⟩ := hE'
      obtain rfl : n1 = n1' := by rw [hL4.b.len, hM4.b.len]
      obtain rfl : n2 = n2' := by rw [hL4.o.len, hM4.o.len]
      obtain rfl : q = q' := by rw [hL4.q, hM4.q]
      obtain rfl : s = s' := by rw [hL4.s, hM4.s]
      have c0 := hc 0 _ rfl
      have c1 := hc 1 _ rfl
      have c2 := hc 2 _ rfl
      have c3 := hc 3 _ rfl
      simp only [Nat.add_zero] at c0
      rw [← hb.cell (by simp; omega)] at c0 c1 c2 c3
      have d0 := hc' 0 _ rfl
      have d1 := hc' 1 _ rfl
      have d2 := hc' 2 _ rfl
      have d3 := hc' 3 _ rfl
      simp only [Nat.add_zero] at d0
      rw [← hb.cell (by simp; omega)] at d0 d1 d2 d3
      have hlt' : (j : Int) < (n : Int) := by omega
      have hs1 := hb.size
      have hL4 := hL4.below hb hU
      have hM4 := hM4.below hb hU'
      clear he he2 hc hc'
      go_wp2_with fail
      go_region_with (go_at_call 24; go_must (refine (eqLog_same _ _ _ _ _ _ _ _ _ _ _ _ x L U L' U' _ (by simp; omega) (by simp; omega) (hL4.below (by repeat (first | exact Below.refl _ _ | refine Below.drew ?_)) (Nat.le_trans hU hs1)) (hM4.below (by repeat (first | exact Below.refl _ _ | refine Below.drew ?_)) (Nat.le_trans hU' hs1))).mono ?_; rintro e w1 ⟨rfl, hb1⟩))
      all_goals
        go_wp2_with fail
        go_roundg (n - (j + 1))
        case measure => have := hk.out; omega
        case rel => exact ⟨j + 1, by omega, rfl, by go_num, hb.trans (Below.trans (by repeat (first | exact Below.refl _ _ | refine Below.drew ?_)) (hb1.mono hb.size))⟩
    · obtain rfl : j = n := by omega
      go_wp2_with fail
      go_ret
      exact ⟨rfl, hb⟩

set_option maxHeartbeats 2000000 in
theorem eqMsgS_same (a a' : Option Addr) (n c c' : Nat) (xs : List LMsg) (L U L' U' : Nat) (w : World) (hU : U ≤ w.heap.size) (hU' : U' ≤ w.heap.size) (H : RowsAt 9 MsgE w L U a n xs) (H' : RowsAt 9 MsgE w L' U' a' n xs) :
    Calls Try.prog 31 #[.slice a n c, .slice a' n c'] w fun e w' => e = .returned (.bool true) ∧ Below w.heap.size w w' := by
  have hbd := H.bd
  unfold maxLen at hbd
  go_enter Try.func31, Try.ntmps31
  go_wp2_with fail
  go_loopg [5] n (fun k i wr => ∃ j : Nat, j ≤ n ∧ Hid (k = n - j) ∧ i = .int .i64 j ∧ Below w.heap.size w wr)
  case atStart => exact ⟨0, Nat.zero_le _, by show _ = _; omega, rfl, Below.refl _ _⟩
  case round =>
    obtain ⟨j, hj, hk, rfl, hb⟩ := hrel
    by_cases hlt : j < n
    · obtain ⟨b, off, ha, hL, hbU, hc⟩ := H.at_ (by omega)
      obtain ⟨b', off', ha', hL', hbU', hc'⟩ := H'.at_ (by omega)
      subst ha ha'
      obtain ⟨x, vs, he, hc, hE⟩ := hc j hlt
      obtain ⟨x', vs', he2, hc', hE'⟩ := hc' j hlt
      obtain rfl : x = x' := by rw [he] at he2; simpa using he2
      obtain ⟨q, s, ba, bn, bc, oa, on, oc, ta, tn, tc, rfl, hM⟩ := hE
      obtain ⟨q', s', ba', bn', bc', oa', on', oc', ta', tn', tc', rfl, hN⟩ := hE'
      obtain rfl : bn = bn' := by rw [hM.log.b.len, hN.log.b.len]
      obtain rfl : on = on' := by rw [hM.log.o.len, hN.log.o.len]
      obtain rfl : tn = tn' := by rw [hM.tree.len, hN.tree.len]
      obtain rfl : q = q' := by rw [hM.log.q, hN.log.q]
      obtain rfl : s = s' := by rw [hM.log.s, hN.log.s]
      have c0 := hc 0 _ rfl
      have c1 := hc 1 _ rfl
      have c2 := hc 2 _ rfl
      have c3 := hc 3 _ rfl
      have c4 := hc 4 _ rfl
      have c5 := hc 5 _ rfl
      have c6 := hc 6 _ rfl
      have c7 := hc 7 _ rfl
      have c8 := hc 8 _ rfl
      simp only [Nat.add_zero] at c0
      rw [← hb.cell (by simp; omega)] at c0 c1 c2 c3 c4 c5 c6 c7 c8
      have d0 := hc' 0 _ rfl
      have d1 := hc' 1 _ rfl
      have d2 := hc' 2 _ rfl
      have d3 := hc' 3 _ rfl
      have d4 := hc' 4 _ rfl
      have d5 := hc' 5 _ rfl
      have d6 := hc' 6 _ rfl
      have d7 := hc' 7 _ rfl
      have d8 := hc' 8 _ rfl
      simp only [Nat.add_zero] at d0
      rw [← hb.cell (by simp; omega)] at d0 d1 d2 d3 d4 d5 d6 d7 d8
      have hlt' : (j : Int) < (n : Int) := by omega
      have hs1 := hb.size
      have hM := hM.below hb hU
      have hN := hN.below hb hU'
      clear he he2 hc hc'
      go_wp2_with fail
      go_region_with (go_at_call 76; go_must (refine (eqMsg_same _ _ _ _ _ _ _ _ _ _ _ _ _ _ _ _ _ _ _ _ _ x.log x.tree L U L' U' _ (by simp; omega) (by simp; omega) (hM.below (by repeat (first | exact Below.refl _ _ | refine Below.drew ?_)) (Nat.le_trans hU hs1)) (hN.below (by repeat (first | exact Below.refl _ _ | refine Below.drew ?_)) (Nat.le_trans hU' hs1))).mono ?_; rintro e w1 ⟨rfl, hb1⟩))
      all_goals
        go_wp2_with fail
        go_roundg (n - (j + 1))
        case measure => have := hk.out; omega
        case rel => exact ⟨j + 1, by omega, rfl, by go_num, hb.trans (Below.trans (by repeat (first | exact Below.refl _ _ | refine Below.drew ?_)) (hb1.mono hb.size))⟩
    · obtain rfl : j = n := by omega
      go_wp2_with fail
      go_ret
      exact ⟨rfl, hb⟩

set_option maxHeartbeats 2000000 in
theorem eqKeep_same (q s : Int) (a : Option Addr) (n c : Nat) (b : Bool) (a1 : Option Addr) (n1 c1 : Nat) (a2 : Option Addr) (n2 c2 : Nat) (a3 : Option Addr) (n3 c3 : Nat) (x : Option Addr) (y : Nat) (x1 : Option Addr) (y1 : Nat) (x2 : Option Addr) (y2 : Nat) (x3 : Option Addr) (y3 : Nat) (k : LKeep) (L U L' U' : Nat) (w : World) (hU : U ≤ w.heap.size) (hU' : U' ≤ w.heap.size) (H : KeepAt w L U q s a n b a1 n1 a2 n2 a3 n3 k) (H' : KeepAt w L' U' q s x n b x1 n1 x2 n2 x3 n3 k) :
    Calls Try.prog 75 #[.agg #[.int .i64 q, .int .i64 s, .slice a n c, .bool b, .slice a1 n1 c1, .slice a2 n2 c2, .slice a3 n3 c3], .agg #[.int .i64 q, .int .i64 s, .slice x n y, .bool b, .slice x1 n1 y1, .slice x2 n2 y2, .slice x3 n3 y3]] w fun e w' => e = .returned (.bool true) ∧ Below w.heap.size w w' := by
  have A0 : BoxI ((w.alloc (.cells #[.int .i64 q, .int .i64 s, .slice a n c, .bool b, .slice a1 n1 c1, .slice a2 n2 c2, .slice a3 n3 c3] 76)).alloc (.cells #[.int .i64 q, .int .i64 s, .slice x n y, .bool b, .slice x1 n1 y1, .slice x2 n2 y2, .slice x3 n3 y3] 76)) w.heap.size 76 [.int .i64 q, .int .i64 s, .slice a n c, .bool b, .slice a1 n1 c1, .slice a2 n2 c2, .slice a3 n3 c3] := (BoxI.new rfl).alloc _
  have A1 : BoxI ((w.alloc (.cells #[.int .i64 q, .int .i64 s, .slice a n c, .bool b, .slice a1 n1 c1, .slice a2 n2 c2, .slice a3 n3 c3] 76)).alloc (.cells #[.int .i64 q, .int .i64 s, .slice x n y, .bool b, .slice x1 n1 y1, .slice x2 n2 y2, .slice x3 n3 y3] 76)) (w.heap.size + 1) 76 [.int .i64 q, .int .i64 s, .slice x n y, .bool b, .slice x1 n1 y1, .slice x2 n2 y2, .slice x3 n3 y3] := BoxI.new (by simp)
  have hB0 : Below w.heap.size w ((w.alloc (.cells #[.int .i64 q, .int .i64 s, .slice a n c, .bool b, .slice a1 n1 c1, .slice a2 n2 c2, .slice a3 n3 c3] 76)).alloc (.cells #[.int .i64 q, .int .i64 s, .slice x n y, .bool b, .slice x1 n1 y1, .slice x2 n2 y2, .slice x3 n3 y3] 76)) := ((Below.refl _ _).alloc (Nat.le_refl _) _).alloc (by simp) _
  have HB0 := hidMk A0
  have HB1 := hidMk A1
  have HH := hidMk H
  have HH' := hidMk H'
  clear A0 A1 H H'
  go_enter Try.func75, Try.ntmps75
  go_wp2_with fail
  refine (eqTree_same _ _ _ _ _ _ L U L' U' _ (by have := hB0.size; omega) (by have := hB0.size; omega) (HH.out.base.below hB0 hU) (HH'.out.base.below hB0 hU')).mono ?_
  rintro e w1 ⟨rfl, hb1⟩
  have hB1 : Below w.heap.size w w1 := hB0.trans (hb1.mono hB0.size)
  have B0 := HB0.out.next hb1 HB0.out.lt
  have B1 := HB1.out.next hb1 HB1.out.lt
  clear HB0 HB1 hb1
  have HB0 := hidMk B0
  have HB1 := hidMk B1
  obtain ⟨_, _, _, f3, f4, _, _⟩ := B0.c7
  obtain ⟨_, _, _, g3, g4, _, _⟩ := B1.c7
  clear B0 B1
  go_wp2_with fail
  refine (eqOpS_same _ _ _ _ _ _ L U L' U' _ (by have := hB1.size; omega) (by have := hB1.size; omega) (HH.out.sent.below hB1 hU) (HH'.out.sent.below hB1 hU')).mono ?_
  rintro e w2 ⟨rfl, hb2⟩
  clear f3 f4 g3 g4
  have hB2 : Below w.heap.size w w2 := hB1.trans (hb2.mono hB1.size)
  have B0 := HB0.out.next hb2 HB0.out.lt
  have B1 := HB1.out.next hb2 HB1.out.lt
  clear HB0 HB1 hb2
  have HB0 := hidMk B0
  have HB1 := hidMk B1
  obtain ⟨_, _, _, _, _, f5, _⟩ := B0.c7
  obtain ⟨_, _, _, _, _, g5, _⟩ := B1.c7
  clear B0 B1
  go_wp2_with fail
  refine (eqOpS_same _ _ _ _ _ _ L U L' U' _ (by have := hB2.size; omega) (by have := hB2.size; omega) (HH.out.list.below hB2 hU) (HH'.out.list.below hB2 hU')).mono ?_
  rintro e w3 ⟨rfl, hb3⟩
  clear f5 g5
  have hB3 : Below w.heap.size w w3 := hB2.trans (hb3.mono hB2.size)
  have B0 := HB0.out.next hb3 HB0.out.lt
  have B1 := HB1.out.next hb3 HB1.out.lt
  clear HB0 HB1 hb3
  have HB0 := hidMk B0
  have HB1 := hidMk B1
  obtain ⟨_, _, _, _, _, _, f6⟩ := B0.c7
  obtain ⟨_, _, _, _, _, _, g6⟩ := B1.c7
  clear B0 B1
  go_wp2_with fail
  refine (eqOpSS_same _ _ _ _ _ _ L U L' U' _ (by have := hB3.size; omega) (by have := hB3.size; omega) (HH.out.shelf.below eltOps hB3 hU) (HH'.out.shelf.below eltOps hB3 hU')).mono ?_
  rintro e w4 ⟨rfl, hb4⟩
  clear f6 g6 HB0 HB1
  go_wp2_with fail
  go_ret
  exact ⟨rfl, hB3.trans (hb4.mono hB3.size)⟩

set_option maxHeartbeats 2000000 in
theorem eqKeepS_same (a a' : Option Addr) (n c c' : Nat) (xs : List LKeep) (L U L' U' : Nat) (w : World) (hU : U ≤ w.heap.size) (hU' : U' ≤ w.heap.size) (H : RowsAt 7 KeepE w L U a n xs) (H' : RowsAt 7 KeepE w L' U' a' n xs) :
    Calls Try.prog 30 #[.slice a n c, .slice a' n c'] w fun e w' => e = .returned (.bool true) ∧ Below w.heap.size w w' := by
  have hbd := H.bd
  unfold maxLen at hbd
  go_enter Try.func30, Try.ntmps30
  go_wp2_with fail
  go_loopg [5] n (fun k i wr => ∃ j : Nat, j ≤ n ∧ Hid (k = n - j) ∧ i = .int .i64 j ∧ Below w.heap.size w wr)
  case atStart => exact ⟨0, Nat.zero_le _, by show _ = _; omega, rfl, Below.refl _ _⟩
  case round =>
    obtain ⟨j, hj, hk, rfl, hb⟩ := hrel
    by_cases hlt : j < n
    · obtain ⟨b, off, ha, hL, hbU, hc⟩ := H.at_ (by omega)
      obtain ⟨b', off', ha', hL', hbU', hc'⟩ := H'.at_ (by omega)
      subst ha ha'
      obtain ⟨x, vs, he, hc, hE⟩ := hc j hlt
      obtain ⟨x', vs', he2, hc', hE'⟩ := hc' j hlt
      obtain rfl : x = x' := by rw [he] at he2; simpa using he2
      obtain ⟨q, s, a1, n1, c1', b1, a2, n2, c2', a3, n3, c3', a4, n4, c4', rfl, hK⟩ := hE
      obtain ⟨q', s', a1', n1', c1'', b1', a2', n2', c2'', a3', n3', c3'', a4', n4', c4'', rfl, hM⟩ := hE'
      obtain rfl : n1 = n1' := by rw [hK.base.len, hM.base.len]
      obtain rfl : n2 = n2' := by rw [hK.sent.len, hM.sent.len]
      obtain rfl : n3 = n3' := by rw [hK.list.len, hM.list.len]
      obtain rfl : n4 = n4' := by rw [hK.shelf.len, hM.shelf.len]
      obtain rfl : q = q' := by rw [hK.q, hM.q]
      obtain rfl : s = s' := by rw [hK.s, hM.s]
      obtain rfl : b1 = b1' := by rw [hK.b, hM.b]
      have c0 := hc 0 _ rfl
      have c1 := hc 1 _ rfl
      have c2 := hc 2 _ rfl
      have c3 := hc 3 _ rfl
      have c4 := hc 4 _ rfl
      have c5 := hc 5 _ rfl
      have c6 := hc 6 _ rfl
      simp only [Nat.add_zero] at c0
      rw [← hb.cell (by simp; omega)] at c0 c1 c2 c3 c4 c5 c6
      have d0 := hc' 0 _ rfl
      have d1 := hc' 1 _ rfl
      have d2 := hc' 2 _ rfl
      have d3 := hc' 3 _ rfl
      have d4 := hc' 4 _ rfl
      have d5 := hc' 5 _ rfl
      have d6 := hc' 6 _ rfl
      simp only [Nat.add_zero] at d0
      rw [← hb.cell (by simp; omega)] at d0 d1 d2 d3 d4 d5 d6
      have hlt' : (j : Int) < (n : Int) := by omega
      have hs1 := hb.size
      have hK := hK.below hb hU
      have hM := hM.below hb hU'
      clear he he2 hc hc'
      go_wp2_with fail
      go_region_with (go_at_call 75; go_must (refine (eqKeep_same _ _ _ _ _ _ _ _ _ _ _ _ _ _ _ _ _ _ _ _ _ _ _ x L U L' U' _ (by simp; omega) (by simp; omega) (hK.below (by repeat (first | exact Below.refl _ _ | refine Below.drew ?_)) (Nat.le_trans hU hs1)) (hM.below (by repeat (first | exact Below.refl _ _ | refine Below.drew ?_)) (Nat.le_trans hU' hs1))).mono ?_; rintro e w1 ⟨rfl, hb1⟩))
      all_goals
        go_wp2_with fail
        go_roundg (n - (j + 1))
        case measure => have := hk.out; omega
        case rel => exact ⟨j + 1, by omega, rfl, by go_num, hb.trans (Below.trans (by repeat (first | exact Below.refl _ _ | refine Below.drew ?_)) (hb1.mono hb.size))⟩
    · obtain rfl : j = n := by omega
      go_wp2_with fail
      go_ret
      exact ⟨rfl, hb⟩

theorem BoxI.c6 {W : World} {p : Nat} {t : TypeId} {v0 v1 v2 v3 v4 v5 : Value} (h : BoxI W p t [v0, v1, v2, v3, v4, v5]) : W.cell? ⟨p, 0, none⟩ = some v0 ∧ W.cell? ⟨p, 1, none⟩ = some v1 ∧ W.cell? ⟨p, 2, none⟩ = some v2 ∧ W.cell? ⟨p, 3, none⟩ = some v3 ∧ W.cell? ⟨p, 4, none⟩ = some v4 ∧ W.cell? ⟨p, 5, none⟩ = some v5 :=
  ⟨h.get 0 _ rfl, h.get 1 _ rfl, h.get 2 _ rfl, h.get 3 _ rfl, h.get 4 _ rfl, h.get 5 _ rfl⟩
set_option maxHeartbeats 2000000 in
theorem eqWorld_same (a0 : Option Addr) (n0 c0 : Nat) (a1 : Option Addr) (n1 c1 : Nat) (a2 : Option Addr) (n2 c2 : Nat) (a3 : Option Addr) (n3 c3 : Nat) (a4 : Option Addr) (n4 c4 : Nat) (a5 : Option Addr) (n5 c5 : Nat) (x0 : Option Addr) (y0 : Nat) (x1 : Option Addr) (y1 : Nat) (x2 : Option Addr) (y2 : Nat) (x3 : Option Addr) (y3 : Nat) (x4 : Option Addr) (y4 : Nat) (x5 : Option Addr) (y5 : Nat) (x : LWorld) (L U L' U' : Nat) (w : World) (hU : U ≤ w.heap.size) (hU' : U' ≤ w.heap.size) (H : WorldAt w L U a0 n0 a1 n1 a2 n2 a3 n3 a4 n4 a5 n5 x) (H' : WorldAt w L' U' x0 n0 x1 n1 x2 n2 x3 n3 x4 n4 x5 n5 x) :
    Calls Try.prog 13 #[.agg #[.slice a0 n0 c0, .slice a1 n1 c1, .slice a2 n2 c2, .slice a3 n3 c3, .slice a4 n4 c4, .slice a5 n5 c5], .agg #[.slice x0 n0 y0, .slice x1 n1 y1, .slice x2 n2 y2, .slice x3 n3 y3, .slice x4 n4 y4, .slice x5 n5 y5]] w fun e w' => e = .returned (.bool true) ∧ Below w.heap.size w w' := by
  have A0 : BoxI ((w.alloc (.cells #[.slice a0 n0 c0, .slice a1 n1 c1, .slice a2 n2 c2, .slice a3 n3 c3, .slice a4 n4 c4, .slice a5 n5 c5] 39)).alloc (.cells #[.slice x0 n0 y0, .slice x1 n1 y1, .slice x2 n2 y2, .slice x3 n3 y3, .slice x4 n4 y4, .slice x5 n5 y5] 39)) w.heap.size 39 [.slice a0 n0 c0, .slice a1 n1 c1, .slice a2 n2 c2, .slice a3 n3 c3, .slice a4 n4 c4, .slice a5 n5 c5] := (BoxI.new rfl).alloc _
  have A1 : BoxI ((w.alloc (.cells #[.slice a0 n0 c0, .slice a1 n1 c1, .slice a2 n2 c2, .slice a3 n3 c3, .slice a4 n4 c4, .slice a5 n5 c5] 39)).alloc (.cells #[.slice x0 n0 y0, .slice x1 n1 y1, .slice x2 n2 y2, .slice x3 n3 y3, .slice x4 n4 y4, .slice x5 n5 y5] 39)) (w.heap.size + 1) 39 [.slice x0 n0 y0, .slice x1 n1 y1, .slice x2 n2 y2, .slice x3 n3 y3, .slice x4 n4 y4, .slice x5 n5 y5] := BoxI.new (by simp)
  have hB0 : Below w.heap.size w ((w.alloc (.cells #[.slice a0 n0 c0, .slice a1 n1 c1, .slice a2 n2 c2, .slice a3 n3 c3, .slice a4 n4 c4, .slice a5 n5 c5] 39)).alloc (.cells #[.slice x0 n0 y0, .slice x1 n1 y1, .slice x2 n2 y2, .slice x3 n3 y3, .slice x4 n4 y4, .slice x5 n5 y5] 39)) := ((Below.refl _ _).alloc (Nat.le_refl _) _).alloc (by simp) _
  have HB0 := hidMk A0
  have HB1 := hidMk A1
  have HH := hidMk H
  have HH' := hidMk H'
  clear A0 A1 H H'
  go_enter Try.func13, Try.ntmps13
  go_wp2_with fail
  refine (eqShop_same _ _ _ _ _ _ _ _ _ _ _ _ L U L U L' U' L' U' _ (by have := hB0.size; omega) (by have := hB0.size; omega) (by have := hB0.size; omega) (by have := hB0.size; omega) (HH.out.tree.below hB0 hU) (HH.out.dones.below hB0 hU) (HH'.out.tree.below hB0 hU') (HH'.out.dones.below hB0 hU')).mono ?_
  rintro e w1 ⟨rfl, hb1⟩
  have hB1 : Below w.heap.size w w1 := hB0.trans (hb1.mono hB0.size)
  have B0 := HB0.out.next hb1 HB0.out.lt
  have B1 := HB1.out.next hb1 HB1.out.lt
  clear HB0 HB1 hb1
  have HB0 := hidMk B0
  have HB1 := hidMk B1
  obtain ⟨_, _, f2, _, _, _⟩ := B0.c6
  obtain ⟨_, _, g2, _, _, _⟩ := B1.c6
  clear B0 B1
  go_wp2_with fail
  refine (eqKeepS_same _ _ _ _ _ _ L U L' U' _ (by have := hB1.size; omega) (by have := hB1.size; omega) (HH.out.keeps.below eltKeep hB1 hU) (HH'.out.keeps.below eltKeep hB1 hU')).mono ?_
  rintro e w2 ⟨rfl, hb2⟩
  clear f2 g2
  have hB2 : Below w.heap.size w w2 := hB1.trans (hb2.mono hB1.size)
  have B0 := HB0.out.next hb2 HB0.out.lt
  have B1 := HB1.out.next hb2 HB1.out.lt
  clear HB0 HB1 hb2
  have HB0 := hidMk B0
  have HB1 := hidMk B1
  obtain ⟨_, _, _, f3, _, _⟩ := B0.c6
  obtain ⟨_, _, _, g3, _, _⟩ := B1.c6
  clear B0 B1
  go_wp2_with fail
  refine (eqMsgS_same _ _ _ _ _ _ L U L' U' _ (by have := hB2.size; omega) (by have := hB2.size; omega) (HH.out.net.below eltMsg hB2 hU) (HH'.out.net.below eltMsg hB2 hU')).mono ?_
  rintro e w3 ⟨rfl, hb3⟩
  clear f3 g3
  have hB3 : Below w.heap.size w w3 := hB2.trans (hb3.mono hB2.size)
  have B0 := HB0.out.next hb3 HB0.out.lt
  have B1 := HB1.out.next hb3 HB1.out.lt
  clear HB0 HB1 hb3
  have HB0 := hidMk B0
  have HB1 := hidMk B1
  obtain ⟨_, _, _, _, f4, _⟩ := B0.c6
  obtain ⟨_, _, _, _, g4, _⟩ := B1.c6
  clear B0 B1
  go_wp2_with fail
  refine (eqLogS_same _ _ _ _ _ _ L U L' U' _ (by have := hB3.size; omega) (by have := hB3.size; omega) (HH.out.past.below eltLog hB3 hU) (HH'.out.past.below eltLog hB3 hU')).mono ?_
  rintro e w4 ⟨rfl, hb4⟩
  clear f4 g4
  have hB4 : Below w.heap.size w w4 := hB3.trans (hb4.mono hB3.size)
  have B0 := HB0.out.next hb4 HB0.out.lt
  have B1 := HB1.out.next hb4 HB1.out.lt
  clear HB0 HB1 hb4
  have HB0 := hidMk B0
  have HB1 := hidMk B1
  obtain ⟨_, _, _, _, _, f5⟩ := B0.c6
  obtain ⟨_, _, _, _, _, g5⟩ := B1.c6
  clear B0 B1
  go_wp2_with fail
  refine (eqToldS_same _ _ _ _ _ _ L U L' U' _ (by have := hB4.size; omega) (by have := hB4.size; omega) (HH.out.told.below eltTold hB4 hU) (HH'.out.told.below eltTold hB4 hU')).mono ?_
  rintro e w5 ⟨rfl, hb5⟩
  clear f5 g5
  clear HB0 HB1
  go_wp2_with fail
  go_ret
  exact ⟨rfl, hB4.trans (hb5.mono hB4.size)⟩

set_option maxHeartbeats 4000000 in
theorem toWorld_any (a0 : Option Addr) (n0 c0 : Nat) (a1 : Option Addr) (n1 c1 : Nat) (a2 : Option Addr) (n2 c2 : Nat) (a3 : Option Addr) (n3 c3 : Nat) (a4 : Option Addr) (n4 c4 : Nat) (a5 : Option Addr) (n5 c5 : Nat) (x : LWorld) (L U : Nat) (w : World) (hs : WorldSm x) (hU : U ≤ w.heap.size) (H : WorldAt w L U a0 n0 a1 n1 a2 n2 a3 n3 a4 n4 a5 n5 x) :
    Calls Try.prog 18 #[.agg #[.slice a0 n0 c0, .slice a1 n1 c1, .slice a2 n2 c2, .slice a3 n3 c3, .slice a4 n4 c4, .slice a5 n5 c5]] w fun e w' => (∃ x0 x1 x2 x3 x4 x5, e = .returned (.agg #[.slice (some ⟨x0, 0, none⟩) n0 n0, .slice (some ⟨x1, 0, none⟩) n1 n1, .slice (some ⟨x2, 0, none⟩) n2 n2, .slice (some ⟨x3, 0, none⟩) n3 n3, .slice (some ⟨x4, 0, none⟩) n4 n4, .slice (some ⟨x5, 0, none⟩) n5 n5]) ∧ WorldAt w' w.heap.size w'.heap.size (some ⟨x0, 0, none⟩) n0 (some ⟨x1, 0, none⟩) n1 (some ⟨x2, 0, none⟩) n2 (some ⟨x3, 0, none⟩) n3 (some ⟨x4, 0, none⟩) n4 (some ⟨x5, 0, none⟩) n5 x) ∧ Below w.heap.size w w' := by
  have HH := hidMk H
  clear H
  have hA : ∀ o1 o2 o3 : Obj, Below w.heap.size w (((w.alloc o1).alloc o2).alloc o3) := fun o1 o2 o3 => (((Below.refl _ _).alloc (Nat.le_refl _) _).alloc (by simp) _).alloc (by simp <;> omega) _
  have hB0 := hA (.cells #[.slice a0 n0 c0, .slice a1 n1 c1, .slice a2 n2 c2, .slice a3 n3 c3, .slice a4 n4 c4, .slice a5 n5 c5] 54) (.cells #[.slice none 0 0, .slice none 0 0, .slice none 0 0, .slice none 0 0, .slice none 0 0, .slice none 0 0] 39) (.cells #[.slice none 0 0, .slice none 0 0, .slice none 0 0, .slice none 0 0, .slice none 0 0, .slice none 0 0] 39)
  have A0 : BoxI (((w.alloc (.cells #[.slice a0 n0 c0, .slice a1 n1 c1, .slice a2 n2 c2, .slice a3 n3 c3, .slice a4 n4 c4, .slice a5 n5 c5] 54)).alloc (.cells #[.slice none 0 0, .slice none 0 0, .slice none 0 0, .slice none 0 0, .slice none 0 0, .slice none 0 0] 39)).alloc (.cells #[.slice none 0 0, .slice none 0 0, .slice none 0 0, .slice none 0 0, .slice none 0 0, .slice none 0 0] 39)) w.heap.size 54 [.slice a0 n0 c0, .slice a1 n1 c1, .slice a2 n2 c2, .slice a3 n3 c3, .slice a4 n4 c4, .slice a5 n5 c5] := ((BoxI.new rfl).alloc _).alloc _
  have A1 : BoxI (((w.alloc (.cells #[.slice a0 n0 c0, .slice a1 n1 c1, .slice a2 n2 c2, .slice a3 n3 c3, .slice a4 n4 c4, .slice a5 n5 c5] 54)).alloc (.cells #[.slice none 0 0, .slice none 0 0, .slice none 0 0, .slice none 0 0, .slice none 0 0, .slice none 0 0] 39)).alloc (.cells #[.slice none 0 0, .slice none 0 0, .slice none 0 0, .slice none 0 0, .slice none 0 0, .slice none 0 0] 39)) (w.heap.size + 1) 39 [.slice none 0 0, .slice none 0 0, .slice none 0 0, .slice none 0 0, .slice none 0 0, .slice none 0 0] := (BoxI.new (by simp)).alloc _
  have A2 : BoxI (((w.alloc (.cells #[.slice a0 n0 c0, .slice a1 n1 c1, .slice a2 n2 c2, .slice a3 n3 c3, .slice a4 n4 c4, .slice a5 n5 c5] 54)).alloc (.cells #[.slice none 0 0, .slice none 0 0, .slice none 0 0, .slice none 0 0, .slice none 0 0, .slice none 0 0] 39)).alloc (.cells #[.slice none 0 0, .slice none 0 0, .slice none 0 0, .slice none 0 0, .slice none 0 0, .slice none 0 0] 39)) (w.heap.size + 1 + 1) 39 [.slice none 0 0, .slice none 0 0, .slice none 0 0, .slice none 0 0, .slice none 0 0, .slice none 0 0] := BoxI.new (by simp)
  have HB0 := hidMk A0
  have HB1 := hidMk A1
  have HB2 := hidMk A2
  clear A0 A1 A2 hA
  go_enter Try.func18, Try.ntmps18
  go_wp2_with fail
  refine (toShop_any _ _ _ _ _ _ _ _ L U _ (by have := HH.out.tree.len; have := hs.n; omega) hs.tree (by have := HH.out.dones.len; have := hs.dones; omega) (by have := hB0.size; omega) (HH.out.tree.below hB0 hU) (HH.out.dones.below hB0 hU)).mono ?_
  rintro y w1 ⟨⟨x0, x1, rfl, hk1, hk1'⟩, hb1⟩
  have hB1 : Below w.heap.size w w1 := hB0.trans (hb1.mono hB0.size)
  have B0 := HB0.out.next hb1 HB0.out.lt
  have B1 := HB1.out.next hb1 HB1.out.lt
  have B2 := HB2.out.next hb1 HB2.out.lt
  have hz1 : w.heap.size + 3 ≤ w1.heap.size := by have := hb1.size; simp at this; omega
  have K0 : ObjsAt w1 (w.heap.size + 3) w1.heap.size (some ⟨x0, 0, none⟩) n0 x.tree := hk1.wide (by simp <;> omega) (Nat.le_refl _)
  have K1 : DonesAt w1 (w.heap.size + 3) w1.heap.size (some ⟨x1, 0, none⟩) n1 x.dones := hk1'.wide (by simp <;> omega) (Nat.le_refl _)
  clear HB0 HB1 HB2 hB0 hb1 hk1 hk1'
  have HB0 := hidMk B0
  have HB1 := hidMk B1
  have HB2 := hidMk B2
  obtain ⟨_, _, p2, _, _, _⟩ := B0.c6
  obtain ⟨g0, g1, _, _, _, _⟩ := B2.c6
  have z2 := B2.fro
  clear B0 B1 B2
  go_wp2_with fail
  have hC : Below w.heap.size w ((w1.setCell ⟨w.heap.size + 1 + 1, 0, none⟩ (.slice (some ⟨x0, 0, none⟩) n0 n0)).setCell ⟨w.heap.size + 1 + 1, 1, none⟩ (.slice (some ⟨x1, 0, none⟩) n1 n1)) := ((hB1.setCell (by simp <;> omega) _).setCell (by simp <;> omega) _)
  refine (toKeepS_any _ _ _ _ L U _ (by have := HH.out.keeps.len; have := hs.nk; omega) hs.keeps (by have := hC.size; omega) (HH.out.keeps.below eltKeep hC hU)).mono ?_
  rintro y w2 ⟨⟨x2, rfl, hk⟩, hb⟩
  have hB2 : Below w.heap.size w w2 := hC.trans (hb.mono hC.size)
  have hz2 : w1.heap.size ≤ w2.heap.size := by have := hb.size; simp at this; omega
  have B0 : BoxI w2 w.heap.size 54 [.slice a0 n0 c0, .slice a1 n1 c1, .slice a2 n2 c2, .slice a3 n3 c3, .slice a4 n4 c4, .slice a5 n5 c5] := ((HB0.out.other _ _ (by simp <;> omega)).other _ _ (by simp <;> omega)).next hb (by have := hz1; simp <;> omega)
  have B1 : BoxI w2 (w.heap.size + 1) 39 [.slice none 0 0, .slice none 0 0, .slice none 0 0, .slice none 0 0, .slice none 0 0, .slice none 0 0] := ((HB1.out.other _ _ (by simp)).other _ _ (by simp)).next hb (by have := HB1.out.lt; simp <;> omega)
  have B2 : BoxI w2 (w.heap.size + 1 + 1) 39 [.slice (some ⟨x0, 0, none⟩) n0 n0, .slice (some ⟨x1, 0, none⟩) n1 n1, .slice none 0 0, .slice none 0 0, .slice none 0 0, .slice none 0 0] := ((HB2.out.set 0 (.slice (some ⟨x0, 0, none⟩) n0 n0)).set 1 (.slice (some ⟨x1, 0, none⟩) n1 n1)).next hb (by have := HB2.out.lt; simp <;> omega)
  replace K0 : ObjsAt w2 (w.heap.size + 3) w1.heap.size (some ⟨x0, 0, none⟩) n0 x.tree := K0.blocks_ (fun b h1 h2 => (hb.block b (by simp; omega)).trans ((Below.heap_setCell _ _ _ b (by simp; omega)).trans (Below.heap_setCell _ _ _ b (by simp; omega))))
  replace K1 : DonesAt w2 (w.heap.size + 3) w1.heap.size (some ⟨x1, 0, none⟩) n1 x.dones := K1.blocks (fun b h1 h2 => (hb.block b (by simp; omega)).trans ((Below.heap_setCell _ _ _ b (by simp; omega)).trans (Below.heap_setCell _ _ _ b (by simp; omega))))
  have K2 : RowsAt 7 KeepE w2 (w.heap.size + 3) w2.heap.size (some ⟨x2, 0, none⟩) n2 x.keeps := hk.wide eltKeep (by simp <;> omega) (Nat.le_refl _)
  clear HB0 HB1 HB2 hC hB1 hb hk p2 z2 g0 g1
  have HB0 := hidMk B0
  have HB1 := hidMk B1
  have HB2 := hidMk B2
  obtain ⟨_, _, _, p3, _, _⟩ := B0.c6
  obtain ⟨_, _, g2, _, _, _⟩ := B2.c6
  have z2 := B2.fro
  clear B0 B1 B2
  go_wp2_with fail
  have hC : Below w.heap.size w (w2.setCell ⟨w.heap.size + 1 + 1, 2, none⟩ (.slice (some ⟨x2, 0, none⟩) n2 n2)) := (hB2.setCell (by simp <;> omega) _)
  refine (toMsgS_any _ _ _ _ L U _ (by have := HH.out.net.len; have := hs.nn; omega) hs.net (by have := hC.size; omega) (HH.out.net.below eltMsg hC hU)).mono ?_
  rintro y w3 ⟨⟨x3, rfl, hk⟩, hb⟩
  have hB3 : Below w.heap.size w w3 := hC.trans (hb.mono hC.size)
  have hz3 : w2.heap.size ≤ w3.heap.size := by have := hb.size; simp at this; omega
  have B0 : BoxI w3 w.heap.size 54 [.slice a0 n0 c0, .slice a1 n1 c1, .slice a2 n2 c2, .slice a3 n3 c3, .slice a4 n4 c4, .slice a5 n5 c5] := (HB0.out.other _ _ (by simp <;> omega)).next hb (by have := hz2; simp <;> omega)
  have B1 : BoxI w3 (w.heap.size + 1) 39 [.slice none 0 0, .slice none 0 0, .slice none 0 0, .slice none 0 0, .slice none 0 0, .slice none 0 0] := (HB1.out.other _ _ (by simp)).next hb (by have := HB1.out.lt; simp <;> omega)
  have B2 : BoxI w3 (w.heap.size + 1 + 1) 39 [.slice (some ⟨x0, 0, none⟩) n0 n0, .slice (some ⟨x1, 0, none⟩) n1 n1, .slice (some ⟨x2, 0, none⟩) n2 n2, .slice none 0 0, .slice none 0 0, .slice none 0 0] := (HB2.out.set 2 (.slice (some ⟨x2, 0, none⟩) n2 n2)).next hb (by have := HB2.out.lt; simp <;> omega)
  replace K0 : ObjsAt w3 (w.heap.size + 3) w1.heap.size (some ⟨x0, 0, none⟩) n0 x.tree := K0.blocks_ (fun b h1 h2 => (hb.block b (by simp; omega)).trans (Below.heap_setCell _ _ _ b (by simp; omega)))
  replace K1 : DonesAt w3 (w.heap.size + 3) w1.heap.size (some ⟨x1, 0, none⟩) n1 x.dones := K1.blocks (fun b h1 h2 => (hb.block b (by simp; omega)).trans (Below.heap_setCell _ _ _ b (by simp; omega)))
  replace K2 : RowsAt 7 KeepE w3 (w.heap.size + 3) w2.heap.size (some ⟨x2, 0, none⟩) n2 x.keeps := K2.blocks eltKeep (fun b h1 h2 => (hb.block b (by simp; omega)).trans (Below.heap_setCell _ _ _ b (by simp; omega)))
  have K3 : RowsAt 9 MsgE w3 (w.heap.size + 3) w3.heap.size (some ⟨x3, 0, none⟩) n3 x.net := hk.wide eltMsg (by simp <;> omega) (Nat.le_refl _)
  clear HB0 HB1 HB2 hC hB2 hb hk p3 z2 g2
  have HB0 := hidMk B0
  have HB1 := hidMk B1
  have HB2 := hidMk B2
  obtain ⟨_, _, _, _, p4, _⟩ := B0.c6
  obtain ⟨_, _, _, g3, _, _⟩ := B2.c6
  have z2 := B2.fro
  clear B0 B1 B2
  go_wp2_with fail
  have hC : Below w.heap.size w (w3.setCell ⟨w.heap.size + 1 + 1, 3, none⟩ (.slice (some ⟨x3, 0, none⟩) n3 n3)) := (hB3.setCell (by simp <;> omega) _)
  refine (toLogS_any _ _ _ _ L U _ (by have := HH.out.past.len; have := hs.np; omega) hs.past (by have := hC.size; omega) (HH.out.past.below eltLog hC hU)).mono ?_
  rintro y w4 ⟨⟨x4, rfl, hk⟩, hb⟩
  have hB4 : Below w.heap.size w w4 := hC.trans (hb.mono hC.size)
  have hz4 : w3.heap.size ≤ w4.heap.size := by have := hb.size; simp at this; omega
  have B0 : BoxI w4 w.heap.size 54 [.slice a0 n0 c0, .slice a1 n1 c1, .slice a2 n2 c2, .slice a3 n3 c3, .slice a4 n4 c4, .slice a5 n5 c5] := (HB0.out.other _ _ (by simp <;> omega)).next hb (by have := hz3; simp <;> omega)
  have B1 : BoxI w4 (w.heap.size + 1) 39 [.slice none 0 0, .slice none 0 0, .slice none 0 0, .slice none 0 0, .slice none 0 0, .slice none 0 0] := (HB1.out.other _ _ (by simp)).next hb (by have := HB1.out.lt; simp <;> omega)
  have B2 : BoxI w4 (w.heap.size + 1 + 1) 39 [.slice (some ⟨x0, 0, none⟩) n0 n0, .slice (some ⟨x1, 0, none⟩) n1 n1, .slice (some ⟨x2, 0, none⟩) n2 n2, .slice (some ⟨x3, 0, none⟩) n3 n3, .slice none 0 0, .slice none 0 0] := (HB2.out.set 3 (.slice (some ⟨x3, 0, none⟩) n3 n3)).next hb (by have := HB2.out.lt; simp <;> omega)
  replace K0 : ObjsAt w4 (w.heap.size + 3) w1.heap.size (some ⟨x0, 0, none⟩) n0 x.tree := K0.blocks_ (fun b h1 h2 => (hb.block b (by simp; omega)).trans (Below.heap_setCell _ _ _ b (by simp; omega)))
  replace K1 : DonesAt w4 (w.heap.size + 3) w1.heap.size (some ⟨x1, 0, none⟩) n1 x.dones := K1.blocks (fun b h1 h2 => (hb.block b (by simp; omega)).trans (Below.heap_setCell _ _ _ b (by simp; omega)))
  replace K2 : RowsAt 7 KeepE w4 (w.heap.size + 3) w2.heap.size (some ⟨x2, 0, none⟩) n2 x.keeps := K2.blocks eltKeep (fun b h1 h2 => (hb.block b (by simp; omega)).trans (Below.heap_setCell _ _ _ b (by simp; omega)))
  replace K3 : RowsAt 9 MsgE w4 (w.heap.size + 3) w3.heap.size (some ⟨x3, 0, none⟩) n3 x.net := K3.blocks eltMsg (fun b h1 h2 => (hb.block b (by simp; omega)).trans (Below.heap_setCell _ _ _ b (by simp; omega)))
  have K4 : RowsAt 4 LogE w4 (w.heap.size + 3) w4.heap.size (some ⟨x4, 0, none⟩) n4 x.past := hk.wide eltLog (by simp <;> omega) (Nat.le_refl _)
  clear HB0 HB1 HB2 hC hB3 hb hk p4 z2 g3
  have HB0 := hidMk B0
  have HB1 := hidMk B1
  have HB2 := hidMk B2
  obtain ⟨_, _, _, _, _, p5⟩ := B0.c6
  obtain ⟨_, _, _, _, g4, _⟩ := B2.c6
  have z2 := B2.fro
  clear B0 B1 B2
  go_wp2_with fail
  have hC : Below w.heap.size w (w4.setCell ⟨w.heap.size + 1 + 1, 4, none⟩ (.slice (some ⟨x4, 0, none⟩) n4 n4)) := (hB4.setCell (by simp <;> omega) _)
  refine (toToldS_any _ _ _ _ L U _ (by have := HH.out.told.len; have := hs.told; omega) (fun _ _ => trivial) (by have := hC.size; omega) (HH.out.told.below eltTold hC hU)).mono ?_
  rintro y w5 ⟨⟨x5, rfl, hk⟩, hb⟩
  have hB5 : Below w.heap.size w w5 := hC.trans (hb.mono hC.size)
  have hz5 : w4.heap.size ≤ w5.heap.size := by have := hb.size; simp at this; omega
  have B0 : BoxI w5 w.heap.size 54 [.slice a0 n0 c0, .slice a1 n1 c1, .slice a2 n2 c2, .slice a3 n3 c3, .slice a4 n4 c4, .slice a5 n5 c5] := (HB0.out.other _ _ (by simp <;> omega)).next hb (by have := hz4; simp <;> omega)
  have B1 : BoxI w5 (w.heap.size + 1) 39 [.slice none 0 0, .slice none 0 0, .slice none 0 0, .slice none 0 0, .slice none 0 0, .slice none 0 0] := (HB1.out.other _ _ (by simp)).next hb (by have := HB1.out.lt; simp <;> omega)
  have B2 : BoxI w5 (w.heap.size + 1 + 1) 39 [.slice (some ⟨x0, 0, none⟩) n0 n0, .slice (some ⟨x1, 0, none⟩) n1 n1, .slice (some ⟨x2, 0, none⟩) n2 n2, .slice (some ⟨x3, 0, none⟩) n3 n3, .slice (some ⟨x4, 0, none⟩) n4 n4, .slice none 0 0] := (HB2.out.set 4 (.slice (some ⟨x4, 0, none⟩) n4 n4)).next hb (by have := HB2.out.lt; simp <;> omega)
  replace K0 : ObjsAt w5 (w.heap.size + 3) w1.heap.size (some ⟨x0, 0, none⟩) n0 x.tree := K0.blocks_ (fun b h1 h2 => (hb.block b (by simp; omega)).trans (Below.heap_setCell _ _ _ b (by simp; omega)))
  replace K1 : DonesAt w5 (w.heap.size + 3) w1.heap.size (some ⟨x1, 0, none⟩) n1 x.dones := K1.blocks (fun b h1 h2 => (hb.block b (by simp; omega)).trans (Below.heap_setCell _ _ _ b (by simp; omega)))
  replace K2 : RowsAt 7 KeepE w5 (w.heap.size + 3) w2.heap.size (some ⟨x2, 0, none⟩) n2 x.keeps := K2.blocks eltKeep (fun b h1 h2 => (hb.block b (by simp; omega)).trans (Below.heap_setCell _ _ _ b (by simp; omega)))
  replace K3 : RowsAt 9 MsgE w5 (w.heap.size + 3) w3.heap.size (some ⟨x3, 0, none⟩) n3 x.net := K3.blocks eltMsg (fun b h1 h2 => (hb.block b (by simp; omega)).trans (Below.heap_setCell _ _ _ b (by simp; omega)))
  replace K4 : RowsAt 4 LogE w5 (w.heap.size + 3) w4.heap.size (some ⟨x4, 0, none⟩) n4 x.past := K4.blocks eltLog (fun b h1 h2 => (hb.block b (by simp; omega)).trans (Below.heap_setCell _ _ _ b (by simp; omega)))
  have K5 : RowsAt 3 ToldE w5 (w.heap.size + 3) w5.heap.size (some ⟨x5, 0, none⟩) n5 x.told := hk.wide eltTold (by simp <;> omega) (Nat.le_refl _)
  clear HB0 HB1 HB2 hC hB4 hb hk p5 z2 g4
  have HB0 := hidMk B0
  have HB1 := hidMk B1
  have HB2 := hidMk B2
  have hAll : WorldAt w5 (w.heap.size + 3) w5.heap.size (some ⟨x0, 0, none⟩) n0 (some ⟨x1, 0, none⟩) n1 (some ⟨x2, 0, none⟩) n2 (some ⟨x3, 0, none⟩) n3 (some ⟨x4, 0, none⟩) n4 (some ⟨x5, 0, none⟩) n5 x := ⟨K0.wide (Nat.le_refl _) (by omega), K1.wide (Nat.le_refl _) (by omega), K2.wide eltKeep (Nat.le_refl _) (by omega), K3.wide eltMsg (Nat.le_refl _) (by omega), K4.wide eltLog (Nat.le_refl _) (by omega), K5⟩
  clear HB0 HB1 HB2 K0 K1 K2 K3 K4 K5 B0
  obtain ⟨e0, e1, e2, e3, e4, e5⟩ := B1.c6
  obtain ⟨d0, d1, d2, d3, d4, d5⟩ := B2.c6
  have y1 := B1.fro
  have y2 := B2.fro
  clear B1 B2
  go_wp2_with fail
  refine bodyPost_ret (v := .agg #[.slice (some ⟨x0, 0, none⟩) n0 n0, .slice (some ⟨x1, 0, none⟩) n1 n1, .slice (some ⟨x2, 0, none⟩) n2 n2, .slice (some ⟨x3, 0, none⟩) n3 n3, .slice (some ⟨x4, 0, none⟩) n4 n4, .slice (some ⟨x5, 0, none⟩) n5 n5]) (by simp [results, Try.results18, go_sem, e0, e1, e2, e3, e4, e5]) rfl ⟨⟨x0, x1, x2, x3, x4, x5, rfl, ?_⟩, ?_⟩
  · refine WorldAt.wide (L := w.heap.size + 3) (U := w5.heap.size) (hAll.blocks fun b h1 h2 => ?_) (by omega) (by simp)
    iterate 7 refine (Below.heap_setCell _ _ _ b (by simp <;> omega)).trans ?_
    rfl
  · iterate 7 refine Below.setCell ?_ (by simp <;> omega) _
    exact hB5
end Go.Proofs.Ytohimbdmhljocaa

/- Logs: what is ok, of the specification. -/
namespace Go.Proofs.Ytohimbdmhljocaa
open Go.RowKit

end Go.Proofs.Ytohimbdmhljocaa

/- Messages: what is ok. -/
namespace Go.Proofs.Ytohimbdmhljocaa
open Go.RowKit

theorem ownerOf_any (k who seq q s : Int) (ba : Option Addr) (bn bc : Nat) (oa : Option Addr) (on oc : Nat) (code : Int) (ta : Option Addr) (tn tc : Nat) (w : World) :
    Calls Try.prog 105 #[.agg #[.int .i64 k, .int .i64 who, .int .i64 seq, .int .i64 q, .int .i64 s, .slice ba bn bc, .slice oa on oc, .int .i64 code, .slice ta tn tc]] w fun e w' => e = .returned (.agg #[.int .i64 who, .int .i64 seq]) ∧ Below w.heap.size w w' := by
  go_enter Try.func105, Try.ntmps105
  go_wp2
  exact bodyPost_ret (v := .agg #[.int .i64 who, .int .i64 seq]) (by simp [results, Try.results105, go_sem]) rfl ⟨rfl, by
    repeat (first | exact Below.refl _ _ | refine Below.setCell ?_ (by simp <;> omega) _ | refine Below.alloc ?_ (by simp <;> omega) _)⟩

end Go.Proofs.Ytohimbdmhljocaa

/- Logs: compared by the specification; whose they are. -/
namespace Go.Proofs.Ytohimbdmhljocaa
open Go.RowKit

set_option maxHeartbeats 4000000 in
set_option maxRecDepth 20000 in
theorem specLogSame (q s : Int) (a : Option Addr) (n c : Nat) (a' : Option Addr) (n' c' : Nat) (p r : Int) (b : Option Addr) (m d : Nat) (b' : Option Addr) (m' d' : Nat) (l k : LLog) (L U L' U' : Nat) (w : World) (hU : U ≤ w.heap.size) (hU' : U' ≤ w.heap.size) (H : LogAt w L U q s a n a' n' l) (H' : LogAt w L' U' p r b m b' m' k) :
    Calls Try.prog 50 #[.agg #[.int .i64 q, .int .i64 s, .slice a n c, .slice a' n' c'], .agg #[.int .i64 p, .int .i64 r, .slice b m d, .slice b' m' d']] w fun e w' => e = .returned (.bool (logEq l k)) ∧ Below w.heap.size w w' := by
  have HV : Hid (logEq l k = ((q == p) && (s == r) && listEq baseEq l.bases k.bases && listEq opEq l.list k.list)) := by show _ = _; unfold logEq; rw [H.q, H.s, H'.q, H'.s]
  have HB := H.b
  have HO := H.o
  have HB' := H'.b
  have HO' := H'.o
  have hbd := HB.bd
  have hbd' := HB'.bd
  unfold maxLen at hbd hbd'
  clear H H'
  have hA : ∀ o1 o2 : Obj, Below w.heap.size w ((w.alloc o1).alloc o2) := fun o1 o2 => ((Below.refl _ _).alloc (Nat.le_refl _) _).alloc (by simp) _
  rcases t1 : (q == p) with _ | _
  · have u1 : (q != p) = true := by simp [bne, t1]
    go_enter Try.func50, Try.ntmps50
    go_wp2_with fail
    go_ret
    exact ⟨ret_bool (by rw [HV.out, t1]; rfl), hA _ _⟩
  have u1 : (q != p) = false := by simp [bne, t1]
  rcases t2 : (s == r) with _ | _
  · have u2 : (s != r) = true := by simp [bne, t2]
    go_enter Try.func50, Try.ntmps50
    go_wp2_with fail
    go_ret
    exact ⟨ret_bool (by rw [HV.out, t1, t2]; rfl), hA _ _⟩
  have u2 : (s != r) = false := by simp [bne, t2]
  by_cases hnn : n = m
  case neg =>
    have hne : ((n : Int) != m) = true := by simp; omega
    have HN : Hid (listEq baseEq l.bases k.bases = false) := listEq_len (by rw [← HB.len, ← HB'.len]; exact hnn)
    go_enter Try.func50, Try.ntmps50
    go_wp2_with fail
    go_ret
    exact ⟨ret_bool (by rw [HV.out, HN.out]; simp), hA _ _⟩
  subst hnn
  go_enter Try.func50, Try.ntmps50
  go_wp2_with fail
  refine (specOpSame _ _ _ _ _ _ _ _ L U L' U' _ (HO.below (hA _ _) hU) (HO'.below (hA _ _) hU')).mono ?_
  rintro e w4 ⟨rfl, m4, rfl⟩
  rcases t3 : listEq opEq l.list k.list with _ | _
  · go_wp2_with fail
    go_ret
    exact ⟨ret_bool (by rw [HV.out, t3]; simp), (hA _ _).trans ((Below.drewN _ _).mono (by simp <;> omega))⟩
  obtain ⟨w2, hw2⟩ : ∃ W : World, W = (w.alloc (Obj.cells #[.int .i64 q, .int .i64 s, .slice a n c, .slice a' n' c'] 66)).alloc (Obj.cells #[.int .i64 p, .int .i64 r, .slice b n d, .slice b' m' d'] 66) := ⟨_, rfl⟩
  rw [← hw2]
  have hD : Hid (Below w.heap.size w w2) := by show Below _ _ _; rw [hw2]; exact hA _ _
  have p2 : w2.cell? ⟨w.heap.size, 2, none⟩ = some (.slice a n c) := by rw [hw2]; simp [go_sem]
  have p4 : w2.cell? ⟨w.heap.size + 1, 2, none⟩ = some (.slice b n d) := by rw [hw2]; simp [go_sem]
  clear hw2
  go_wp2_with fail
  go_loopg [5] n (fun g i wr => ∃ j : Nat, j ≤ n ∧ Hid (g = n - j) ∧ i = .int .i64 j ∧ Hid (∀ i, i < j → ∀ x y, l.bases[i]? = some x → k.bases[i]? = some y → baseEq x y = true) ∧ ∃ q, wr = w2.drewN q)
  case atStart => exact ⟨0, Nat.zero_le _, by show _ = _; omega, rfl, fun i hi => by omega, m4, rfl⟩
  case round =>
    obtain ⟨j, hj, hk, rfl, hq, qq, rfl⟩ := hrel
    by_cases hlt : j < n
    · obtain ⟨b1, off, ha, hL, hbU, hc⟩ := HB.at_ (by omega)
      obtain ⟨b2, off', ha', hL', hbU', hc'⟩ := HB'.at_ (by omega)
      subst ha ha'
      obtain ⟨x, he, c0, c1⟩ := hc j hlt
      obtain ⟨y, he2, d0, d1⟩ := hc' j hlt
      rw [← hD.out.cell (by simp; omega)] at c0 c1 d0 d1
      have HE : Hid (l.bases[j]? = some x ∧ k.bases[j]? = some y) := ⟨he, he2⟩
      have hlt' : (j : Int) < (n : Int) := by omega
      clear he he2 hc hc'
      rcases baseParts x y with ⟨t0, t1⟩ | t0 | ⟨t0, t1⟩
      · have HY : Hid (baseEq x y = true) := by show _ = _; simp only [baseEq, t0, t1, Bool.and_true]
        go_wp2_with fail
        go_quiet (fail)
        go_wp2_with fail
        go_roundg (n - (j + 1))
        case measure => have := hk.out; omega
        case rel =>
          refine ⟨j + 1, by omega, rfl, by go_num, fun i hi x' y' hx hy => ?_, _, rfl⟩
          by_cases e : i = j
          · subst e
            rw [HE.out.1] at hx
            rw [HE.out.2] at hy
            cases hx
            cases hy
            exact HY.out
          · exact hq.out i (by omega) x' y' hx hy
      all_goals
        have HN : Hid (listEq baseEq l.bases k.bases = false) := listEq_no HE.out.1 HE.out.2 (by simp only [baseEq, *, Bool.and_false, Bool.false_and])
        go_wp2_with fail
        go_quiet (fail)
        go_wp2_with fail
        go_ret
        exact ⟨ret_bool (by rw [HV.out, HN.out]; simp), by rw [World.drewN_drewN]; exact hD.out.trans ((Below.drewN _ _).mono hD.out.size)⟩
    · have HN : Hid (listEq baseEq l.bases k.bases = true) := listEq_yes (by rw [← HB.len, ← HB'.len]) (fun i x y hx hy => hq.out i (by have := (List.getElem?_eq_some_iff.1 hx).1; have := HB.len; omega) x y hx hy)
      go_wp2_with fail
      go_ret
      exact ⟨ret_bool (by rw [HV.out, t1, t2, t3, HN.out]; rfl), hD.out.trans ((Below.drewN _ _).mono hD.out.size)⟩
end Go.Proofs.Ytohimbdmhljocaa
