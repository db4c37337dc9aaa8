/-
  At every number KeepOpen answers as the specification, field by field, and its answer owns its memory. No condition.
-/
import Derived.Test.YtppagjgpfmnekaaKeepA
import Derived.Test.YtppagjgpfmnekaaClosed
import Derived.OpenShut
import Derived.ShutString
import Derived.ChangeOld
import Derived.ProofKit
namespace Go.Proofs.Ytppagjgpfmnekaa
open Go.RowKit
/-- A client in its box. -/
structure KB (W : World) (A : Nat) (q : Int) (x : Option Addr) (n c : Nat) : Prop where
  c0 : W.cell? ⟨A, 0, none⟩ = some (.int .i64 q)
  c1 : W.cell? ⟨A, 1, none⟩ = some (.int .i64 0)
  c2 : W.cell? ⟨A, 2, none⟩ = some (.slice x n c)
  c3 : W.cell? ⟨A, 3, none⟩ = some (.bool false)
  c4 : W.cell? ⟨A, 4, none⟩ = some (.slice none 0 0)
  c5 : W.cell? ⟨A, 5, none⟩ = some (.slice none 0 0)
  c6 : W.cell? ⟨A, 6, none⟩ = some (.slice none 0 0)
  lt : A < W.heap.size
theorem KB.block {W W' : World} {A : Nat} {q : Int} {x : Option Addr} {n c : Nat} (h : KB W A q x n c) (hb : W'.heap[A]? = W.heap[A]?) (hs : W.heap.size ≤ W'.heap.size) : KB W' A q x n c := by
  have hc : ∀ j, W'.cell? ⟨A, j, none⟩ = W.cell? ⟨A, j, none⟩ := fun j => World.cell?_of_block (w := W) hb
  exact ⟨by rw [hc]; exact h.c0, by rw [hc]; exact h.c1, by rw [hc]; exact h.c2, by rw [hc]; exact h.c3, by rw [hc]; exact h.c4, by rw [hc]; exact h.c5, by rw [hc]; exact h.c6, by have := h.lt; omega⟩
theorem KB.next {W W' : World} {A : Nat} {q : Int} {x : Option Addr} {n c : Nat} (h : KB W A q x n c) (hb : Below W.heap.size W W') : KB W' A q x n c := h.block (hb.block A h.lt) hb.size
theorem KB.but {W W' : World} {A b : Nat} {q : Int} {x : Option Addr} {n c : Nat} (h : KB W A q x n c) (hb : But b W W') (hne : A ≠ b) : KB W' A q x n c := h.block (hb.block A hne h.lt) hb.below.size
theorem KB.new (W : World) (q : Int) (x : Option Addr) (n c : Nat) : KB (W.alloc (.cells #[.int .i64 q, .int .i64 0, .slice x n c, .bool false, .slice none 0 0, .slice none 0 0, .slice none 0 0] 28)) W.heap.size q x n c := by
  constructor <;> simp [go_sem]
theorem objs_none (w : World) (L U : Nat) : ObjsAt w L U none 0 [] := ⟨rfl, Nat.zero_le _, fun h => absurd rfl h⟩
set_option maxHeartbeats 4000000 in
theorem walkKeepOpenY (q : Int) (w : World) (hv : kb q = true) : Calls Try.prog 3 #[.int .i64 q] w fun e w' => e = .returned (.bool true) ∧ Below w.heap.size w w' := by
  have HV : Hid (kb q = true) := hv
  clear hv
  go_enter Try.func3, Try.ntmps3
  go_wp2_with fail
  refine (specKeepOpen q _).mono ?_
  rintro e v1 ⟨hk, hbk1⟩
  rw [if_pos HV.out] at hk
  obtain ⟨b1, rfl, hlo1, hr1⟩ := hk
  have hal1 : Below v1.heap.size v1 (v1.alloc (.cells #[.int .i64 q, .int .i64 0, .slice (some ⟨b1, 0, none⟩) 32 32, .bool false, .slice none 0 0, .slice none 0 0, .slice none 0 0] 28)) := (Below.refl _ _).alloc (Nat.le_refl _) _
  have HB1 : Hid (KB (v1.alloc (.cells #[.int .i64 q, .int .i64 0, .slice (some ⟨b1, 0, none⟩) 32 32, .bool false, .slice none 0 0, .slice none 0 0, .slice none 0 0] 28)) v1.heap.size q (some ⟨b1, 0, none⟩) 32 32) := KB.new v1 q (some ⟨b1, 0, none⟩) 32 32
  have hu1 : Below w.heap.size w (v1.alloc (.cells #[.int .i64 q, .int .i64 0, .slice (some ⟨b1, 0, none⟩) 32 32, .bool false, .slice none 0 0, .slice none 0 0, .slice none 0 0] 28)) := hbk1.trans (hal1.mono hbk1.size)
  have HR1 : Hid ((v1.alloc (.cells #[.int .i64 q, .int .i64 0, .slice (some ⟨b1, 0, none⟩) 32 32, .bool false, .slice none 0 0, .slice none 0 0, .slice none 0 0] 28)).rowIs b1 42 128 openF ∧ b1 < v1.heap.size ∧ w.heap.size ≤ b1) := ⟨hr1.of_block (hal1.block _ hr1.lt), hr1.lt, hlo1⟩
  clear hr1 hlo1
  have hs1 : w.heap.size ≤ v1.heap.size ∧ v1.heap.size < (v1.alloc (.cells #[.int .i64 q, .int .i64 0, .slice (some ⟨b1, 0, none⟩) 32 32, .bool false, .slice none 0 0, .slice none 0 0, .slice none 0 0] 28)).heap.size := ⟨hbk1.size, by simp⟩
  clear hbk1 hal1
  go_wp2_with fail
  generalize hW1 : v1.alloc (.cells #[.int .i64 q, .int .i64 0, .slice (some ⟨b1, 0, none⟩) 32 32, .bool false, .slice none 0 0, .slice none 0 0, .slice none 0 0] 28) = W1 at *
  generalize hA1 : v1.heap.size = A1 at *
  clear hW1 hA1
  refine (implKeepOpen q _).mono ?_
  rintro e v2 ⟨hk, hbk2⟩
  rw [if_pos HV.out] at hk
  obtain ⟨b2, rfl, hlo2, hr2⟩ := hk
  have hal2 : Below v2.heap.size v2 (v2.alloc (.cells #[.int .i64 q, .int .i64 0, .slice (some ⟨b2, 0, none⟩) 32 32, .bool false, .slice none 0 0, .slice none 0 0, .slice none 0 0] 28)) := (Below.refl _ _).alloc (Nat.le_refl _) _
  have HB2 : Hid (KB (v2.alloc (.cells #[.int .i64 q, .int .i64 0, .slice (some ⟨b2, 0, none⟩) 32 32, .bool false, .slice none 0 0, .slice none 0 0, .slice none 0 0] 28)) v2.heap.size q (some ⟨b2, 0, none⟩) 32 32) := KB.new v2 q (some ⟨b2, 0, none⟩) 32 32
  have hu2 : Below W1.heap.size W1 (v2.alloc (.cells #[.int .i64 q, .int .i64 0, .slice (some ⟨b2, 0, none⟩) 32 32, .bool false, .slice none 0 0, .slice none 0 0, .slice none 0 0] 28)) := hbk2.trans (hal2.mono hbk2.size)
  have HR2 : Hid ((v2.alloc (.cells #[.int .i64 q, .int .i64 0, .slice (some ⟨b2, 0, none⟩) 32 32, .bool false, .slice none 0 0, .slice none 0 0, .slice none 0 0] 28)).rowIs b2 42 128 openF ∧ b2 < v2.heap.size ∧ W1.heap.size ≤ b2) := ⟨hr2.of_block (hal2.block _ hr2.lt), hr2.lt, hlo2⟩
  clear hr2 hlo2
  have hs2 : W1.heap.size ≤ v2.heap.size ∧ v2.heap.size < (v2.alloc (.cells #[.int .i64 q, .int .i64 0, .slice (some ⟨b2, 0, none⟩) 32 32, .bool false, .slice none 0 0, .slice none 0 0, .slice none 0 0] 28)).heap.size := ⟨hbk2.size, by simp⟩
  clear hbk2 hal2
  have HB1a : Hid (KB (v2.alloc (.cells #[.int .i64 q, .int .i64 0, .slice (some ⟨b2, 0, none⟩) 32 32, .bool false, .slice none 0 0, .slice none 0 0, .slice none 0 0] 28)) A1 q (some ⟨b1, 0, none⟩) 32 32) := HB1.out.next hu2
  have HR1a : Hid ((v2.alloc (.cells #[.int .i64 q, .int .i64 0, .slice (some ⟨b2, 0, none⟩) 32 32, .bool false, .slice none 0 0, .slice none 0 0, .slice none 0 0] 28)).rowIs b1 42 128 openF) := HR1.out.1.of_block (hu2.block _ (by have := HR1.out.2.1; omega))
  have g0 := HB2.out.c0
  have g1 := HB2.out.c1
  have g2 := HB2.out.c2
  have g3 := HB2.out.c3
  have g4 := HB2.out.c4
  have g5 := HB2.out.c5
  have g6 := HB2.out.c6
  have p0 := HB1a.out.c0
  have p1 := HB1a.out.c1
  have p2 := HB1a.out.c2
  have p3 := HB1a.out.c3
  have p4 := HB1a.out.c4
  have p5 := HB1a.out.c5
  have p6 := HB1a.out.c6
  go_wp2_with fail
  generalize hW2 : v2.alloc (.cells #[.int .i64 q, .int .i64 0, .slice (some ⟨b2, 0, none⟩) 32 32, .bool false, .slice none 0 0, .slice none 0 0, .slice none 0 0] 28) = W2 at *
  generalize hA2 : v2.heap.size = A2 at *
  clear hW2 hA2 g0 g1 g2 g3 g4 g5 g6 p0 p1 p2 p3 p4 p5 p6
  refine (eqKeep_same q (some ⟨b2, 0, none⟩) (some ⟨b1, 0, none⟩) 32 32 32 openT 0 W2.heap.size 0 W2.heap.size W2 (Nat.le_refl _) (Nat.le_refl _) (open_objs_at HR2.out.1) (open_objs_at HR1a.out)).mono ?_
  rintro e w3 ⟨rfl, hb3⟩
  have HB2b : Hid (KB w3 A2 q (some ⟨b2, 0, none⟩) 32 32) := HB2.out.next hb3
  have HB1b : Hid (KB w3 A1 q (some ⟨b1, 0, none⟩) 32 32) := HB1a.out.next hb3
  have HR2b : Hid (w3.rowIs b2 42 128 openF) := HR2.out.1.of_block (hb3.block _ (by have := HR2.out.2.1; omega))
  have HR1b : Hid (w3.rowIs b1 42 128 openF) := HR1a.out.of_block (hb3.block _ HR1a.out.lt)
  have hz3 := hb3.size
  have g0 := HB2b.out.c0
  have g1 := HB2b.out.c1
  have g2 := HB2b.out.c2
  have g3 := HB2b.out.c3
  have g4 := HB2b.out.c4
  have g5 := HB2b.out.c5
  have g6 := HB2b.out.c6
  go_wp2_with fail
  refine (markKeep_row q b2 openF _ HR2b.out bare_open).mono ?_
  rintro e w4 ⟨rfl, ⟨f4, hr4, hf4, hm4⟩, hb4⟩
  have HB2c : Hid (KB w4 A2 q (some ⟨b2, 0, none⟩) 32 32) := HB2b.out.but hb4 (by have := HR2.out.2.1; omega)
  have HB1c : Hid (KB w4 A1 q (some ⟨b1, 0, none⟩) 32 32) := HB1b.out.but hb4 (by have := HR2.out.2.2; omega)
  have HR1c : Hid (w4.rowIs b1 42 128 openF) := HR1b.out.of_block (hb4.block _ (by have := HR2.out.2.2; have := HR1.out.2.1; omega) HR1b.out.lt)
  have HM4 : Hid (w4.rowIs b2 42 128 f4 ∧ Bare f4 ∧ Marked f4 32) := ⟨hr4, hf4, hm4⟩
  have hB4 : Below w.heap.size w w4 := (hu1.trans (hu2.mono hu1.size)).trans ((hb3.mono (by have := hu1.size; have := hu2.size; omega)).trans (hb4.below.mono (by have := HR2.out.2.2; have := hu1.size; omega)))
  clear hr4 hf4 hm4 hb4 HR1b HR2b HB1b HB2b g0 g1 g2 g3 g4 g5 g6
  have g0 := HB2c.out.c0
  have g1 := HB2c.out.c1
  have g2 := HB2c.out.c2
  have g3 := HB2c.out.c3
  have g4 := HB2c.out.c4
  have g5 := HB2c.out.c5
  have g6 := HB2c.out.c6
  go_wp2_with fail
  refine (heldKeep_row q b2 f4 _ HM4.out.1 HM4.out.2.1 HM4.out.2.2).mono ?_
  rintro e w5 ⟨rfl, hb5⟩
  have HB2d : Hid (KB w5 A2 q (some ⟨b2, 0, none⟩) 32 32) := HB2c.out.next hb5
  have HB1d : Hid (KB w5 A1 q (some ⟨b1, 0, none⟩) 32 32) := HB1c.out.next hb5
  have HR1d : Hid (w5.rowIs b1 42 128 openF) := HR1c.out.of_block (hb5.block _ HR1c.out.lt)
  have HM5 : Hid (w5.rowIs b2 42 128 f4 ∧ Bare f4 ∧ Marked f4 32) := ⟨HM4.out.1.of_block (hb5.block _ HM4.out.1.lt), HM4.out.2⟩
  have hB5 : Below w.heap.size w w5 := hB4.trans (hb5.mono hB4.size)
  clear hb5 hB4 HB2c HB1c g0 g1 g2 g3 g4 g5 g6 HR1c HM4
  go_wp2_with fail
  refine (implKeepOpen q _).mono ?_
  rintro e v6 ⟨hk, hbk6⟩
  rw [if_pos HV.out] at hk
  obtain ⟨b6, rfl, hlo6, hr6⟩ := hk
  have hal6 : Below v6.heap.size v6 (v6.alloc (.cells #[.int .i64 q, .int .i64 0, .slice (some ⟨b6, 0, none⟩) 32 32, .bool false, .slice none 0 0, .slice none 0 0, .slice none 0 0] 28)) := (Below.refl _ _).alloc (Nat.le_refl _) _
  have HB6 : Hid (KB (v6.alloc (.cells #[.int .i64 q, .int .i64 0, .slice (some ⟨b6, 0, none⟩) 32 32, .bool false, .slice none 0 0, .slice none 0 0, .slice none 0 0] 28)) v6.heap.size q (some ⟨b6, 0, none⟩) 32 32) := KB.new v6 q (some ⟨b6, 0, none⟩) 32 32
  have hu6 : Below w5.heap.size w5 (v6.alloc (.cells #[.int .i64 q, .int .i64 0, .slice (some ⟨b6, 0, none⟩) 32 32, .bool false, .slice none 0 0, .slice none 0 0, .slice none 0 0] 28)) := hbk6.trans (hal6.mono hbk6.size)
  have HR6 : Hid ((v6.alloc (.cells #[.int .i64 q, .int .i64 0, .slice (some ⟨b6, 0, none⟩) 32 32, .bool false, .slice none 0 0, .slice none 0 0, .slice none 0 0] 28)).rowIs b6 42 128 openF ∧ b6 < v6.heap.size ∧ w5.heap.size ≤ b6) := ⟨hr6.of_block (hal6.block _ hr6.lt), hr6.lt, hlo6⟩
  clear hr6 hlo6
  have hs6 : w5.heap.size ≤ v6.heap.size ∧ v6.heap.size < (v6.alloc (.cells #[.int .i64 q, .int .i64 0, .slice (some ⟨b6, 0, none⟩) 32 32, .bool false, .slice none 0 0, .slice none 0 0, .slice none 0 0] 28)).heap.size := ⟨hbk6.size, by simp⟩
  clear hbk6 hal6
  have HB2e : Hid (KB (v6.alloc (.cells #[.int .i64 q, .int .i64 0, .slice (some ⟨b6, 0, none⟩) 32 32, .bool false, .slice none 0 0, .slice none 0 0, .slice none 0 0] 28)) A2 q (some ⟨b2, 0, none⟩) 32 32) := HB2d.out.next hu6
  have HB1e : Hid (KB (v6.alloc (.cells #[.int .i64 q, .int .i64 0, .slice (some ⟨b6, 0, none⟩) 32 32, .bool false, .slice none 0 0, .slice none 0 0, .slice none 0 0] 28)) A1 q (some ⟨b1, 0, none⟩) 32 32) := HB1d.out.next hu6
  have HR1e : Hid ((v6.alloc (.cells #[.int .i64 q, .int .i64 0, .slice (some ⟨b6, 0, none⟩) 32 32, .bool false, .slice none 0 0, .slice none 0 0, .slice none 0 0] 28)).rowIs b1 42 128 openF) := HR1d.out.of_block (hu6.block _ HR1d.out.lt)
  have HM6 : Hid ((v6.alloc (.cells #[.int .i64 q, .int .i64 0, .slice (some ⟨b6, 0, none⟩) 32 32, .bool false, .slice none 0 0, .slice none 0 0, .slice none 0 0] 28)).rowIs b2 42 128 f4 ∧ Bare f4 ∧ Marked f4 32) := ⟨HM5.out.1.of_block (hu6.block _ HM5.out.1.lt), HM5.out.2⟩
  have g0 := HB6.out.c0
  have g1 := HB6.out.c1
  have g2 := HB6.out.c2
  have g3 := HB6.out.c3
  have g4 := HB6.out.c4
  have g5 := HB6.out.c5
  have g6 := HB6.out.c6
  have p0 := HB1e.out.c0
  have p1 := HB1e.out.c1
  have p2 := HB1e.out.c2
  have p3 := HB1e.out.c3
  have p4 := HB1e.out.c4
  have p5 := HB1e.out.c5
  have p6 := HB1e.out.c6
  go_wp2_with fail
  generalize hW6 : v6.alloc (.cells #[.int .i64 q, .int .i64 0, .slice (some ⟨b6, 0, none⟩) 32 32, .bool false, .slice none 0 0, .slice none 0 0, .slice none 0 0] 28) = W6 at *
  generalize hA6 : v6.heap.size = A6 at *
  clear hW6 hA6 g0 g1 g2 g3 g4 g5 g6 p0 p1 p2 p3 p4 p5 p6
  refine (eqKeep_same q (some ⟨b6, 0, none⟩) (some ⟨b1, 0, none⟩) 32 32 32 openT 0 W6.heap.size 0 W6.heap.size W6 (Nat.le_refl _) (Nat.le_refl _) (open_objs_at HR6.out.1) (open_objs_at HR1e.out)).mono ?_
  rintro e w7 ⟨rfl, hb7⟩
  have HB2f : Hid (KB w7 A2 q (some ⟨b2, 0, none⟩) 32 32) := HB2e.out.next hb7
  have hB7 : Below w.heap.size w w7 := hB5.trans ((hu6.mono hB5.size).trans (hb7.mono (by have := hB5.size; have := hu6.size; omega)))
  have HM7 : Hid (w7.rowIs b2 42 128 f4 ∧ Bare f4 ∧ Marked f4 32) := ⟨HM6.out.1.of_block (hb7.block _ HM6.out.1.lt), HM6.out.2⟩
  have g0 := HB2f.out.c0
  have g1 := HB2f.out.c1
  have g2 := HB2f.out.c2
  have g3 := HB2f.out.c3
  have g4 := HB2f.out.c4
  have g5 := HB2f.out.c5
  have g6 := HB2f.out.c6
  go_wp2_with fail
  refine (heldKeep_row q b2 f4 _ HM7.out.1 HM7.out.2.1 HM7.out.2.2).mono ?_
  rintro e w8 ⟨rfl, hb8⟩
  clear g0 g1 g2 g3 g4 g5 g6
  go_wp2_with fail
  go_ret
  exact ⟨rfl, hB7.trans (hb8.mono hB7.size)⟩
set_option maxHeartbeats 4000000 in
theorem walkKeepOpenN (q : Int) (w : World) (hv : kb q = false) : Calls Try.prog 3 #[.int .i64 q] w fun e w' => e = .returned (.bool true) ∧ Below w.heap.size w w' := by
  have HV : Hid (kb q = false) := hv
  clear hv
  go_enter Try.func3, Try.ntmps3
  go_wp2_with fail
  refine (specKeepOpen q _).mono ?_
  rintro e v1 ⟨hk, hbk1⟩
  rw [if_neg (by rw [HV.out]; simp)] at hk
  obtain rfl : e = _ := hk
  have hal1 : Below v1.heap.size v1 (v1.alloc (.cells #[.int .i64 0, .int .i64 0, .slice none 0 0, .bool false, .slice none 0 0, .slice none 0 0, .slice none 0 0] 28)) := (Below.refl _ _).alloc (Nat.le_refl _) _
  have HB1 : Hid (KB (v1.alloc (.cells #[.int .i64 0, .int .i64 0, .slice none 0 0, .bool false, .slice none 0 0, .slice none 0 0, .slice none 0 0] 28)) v1.heap.size 0 none 0 0) := KB.new v1 0 none 0 0
  have hu1 : Below w.heap.size w (v1.alloc (.cells #[.int .i64 0, .int .i64 0, .slice none 0 0, .bool false, .slice none 0 0, .slice none 0 0, .slice none 0 0] 28)) := hbk1.trans (hal1.mono hbk1.size)
  have hs1 : w.heap.size ≤ v1.heap.size ∧ v1.heap.size < (v1.alloc (.cells #[.int .i64 0, .int .i64 0, .slice none 0 0, .bool false, .slice none 0 0, .slice none 0 0, .slice none 0 0] 28)).heap.size := ⟨hbk1.size, by simp⟩
  clear hbk1 hal1
  go_wp2_with fail
  generalize hW1 : v1.alloc (.cells #[.int .i64 0, .int .i64 0, .slice none 0 0, .bool false, .slice none 0 0, .slice none 0 0, .slice none 0 0] 28) = W1 at *
  generalize hA1 : v1.heap.size = A1 at *
  clear hW1 hA1
  refine (implKeepOpen q _).mono ?_
  rintro e v2 ⟨hk, hbk2⟩
  rw [if_neg (by rw [HV.out]; simp)] at hk
  obtain rfl : e = _ := hk
  have hal2 : Below v2.heap.size v2 (v2.alloc (.cells #[.int .i64 0, .int .i64 0, .slice none 0 0, .bool false, .slice none 0 0, .slice none 0 0, .slice none 0 0] 28)) := (Below.refl _ _).alloc (Nat.le_refl _) _
  have HB2 : Hid (KB (v2.alloc (.cells #[.int .i64 0, .int .i64 0, .slice none 0 0, .bool false, .slice none 0 0, .slice none 0 0, .slice none 0 0] 28)) v2.heap.size 0 none 0 0) := KB.new v2 0 none 0 0
  have hu2 : Below W1.heap.size W1 (v2.alloc (.cells #[.int .i64 0, .int .i64 0, .slice none 0 0, .bool false, .slice none 0 0, .slice none 0 0, .slice none 0 0] 28)) := hbk2.trans (hal2.mono hbk2.size)
  have hs2 : W1.heap.size ≤ v2.heap.size ∧ v2.heap.size < (v2.alloc (.cells #[.int .i64 0, .int .i64 0, .slice none 0 0, .bool false, .slice none 0 0, .slice none 0 0, .slice none 0 0] 28)).heap.size := ⟨hbk2.size, by simp⟩
  clear hbk2 hal2
  have HB1a : Hid (KB (v2.alloc (.cells #[.int .i64 0, .int .i64 0, .slice none 0 0, .bool false, .slice none 0 0, .slice none 0 0, .slice none 0 0] 28)) A1 0 none 0 0) := HB1.out.next hu2
  have g0 := HB2.out.c0
  have g1 := HB2.out.c1
  have g2 := HB2.out.c2
  have g3 := HB2.out.c3
  have g4 := HB2.out.c4
  have g5 := HB2.out.c5
  have g6 := HB2.out.c6
  have p0 := HB1a.out.c0
  have p1 := HB1a.out.c1
  have p2 := HB1a.out.c2
  have p3 := HB1a.out.c3
  have p4 := HB1a.out.c4
  have p5 := HB1a.out.c5
  have p6 := HB1a.out.c6
  go_wp2_with fail
  generalize hW2 : v2.alloc (.cells #[.int .i64 0, .int .i64 0, .slice none 0 0, .bool false, .slice none 0 0, .slice none 0 0, .slice none 0 0] 28) = W2 at *
  generalize hA2 : v2.heap.size = A2 at *
  clear hW2 hA2 g0 g1 g2 g3 g4 g5 g6 p0 p1 p2 p3 p4 p5 p6
  refine (eqKeep_same 0 none none 0 0 0 [] 0 W2.heap.size 0 W2.heap.size W2 (Nat.le_refl _) (Nat.le_refl _) (objs_none _ _ _) (objs_none _ _ _)).mono ?_
  rintro e w3 ⟨rfl, hb3⟩
  have HB2b : Hid (KB w3 A2 0 none 0 0) := HB2.out.next hb3
  have HB1b : Hid (KB w3 A1 0 none 0 0) := HB1a.out.next hb3
  have hz3 := hb3.size
  have g0 := HB2b.out.c0
  have g1 := HB2b.out.c1
  have g2 := HB2b.out.c2
  have g3 := HB2b.out.c3
  have g4 := HB2b.out.c4
  have g5 := HB2b.out.c5
  have g6 := HB2b.out.c6
  go_wp2_with fail
  refine (markKeep_nil 0 _).mono ?_
  rintro e w4 ⟨rfl, hb4⟩
  have HB2c : Hid (KB w4 A2 0 none 0 0) := HB2b.out.next hb4
  have HB1c : Hid (KB w4 A1 0 none 0 0) := HB1b.out.next hb4
  have hB4 : Below w.heap.size w w4 := (hu1.trans (hu2.mono hu1.size)).trans ((hb3.mono (by have := hu1.size; have := hu2.size; omega)).trans (hb4.mono (by have := hu1.size; have := hu2.size; have := hb3.size; omega)))
  clear hb4 HB1b HB2b g0 g1 g2 g3 g4 g5 g6
  have g0 := HB2c.out.c0
  have g1 := HB2c.out.c1
  have g2 := HB2c.out.c2
  have g3 := HB2c.out.c3
  have g4 := HB2c.out.c4
  have g5 := HB2c.out.c5
  have g6 := HB2c.out.c6
  go_wp2_with fail
  refine (heldKeep_nil 0 _).mono ?_
  rintro e w5 ⟨rfl, hb5⟩
  have HB2d : Hid (KB w5 A2 0 none 0 0) := HB2c.out.next hb5
  have HB1d : Hid (KB w5 A1 0 none 0 0) := HB1c.out.next hb5
  have hB5 : Below w.heap.size w w5 := hB4.trans (hb5.mono hB4.size)
  clear hb5 hB4 HB2c HB1c g0 g1 g2 g3 g4 g5 g6
  go_wp2_with fail
  refine (implKeepOpen q _).mono ?_
  rintro e v6 ⟨hk, hbk6⟩
  rw [if_neg (by rw [HV.out]; simp)] at hk
  obtain rfl : e = _ := hk
  have hal6 : Below v6.heap.size v6 (v6.alloc (.cells #[.int .i64 0, .int .i64 0, .slice none 0 0, .bool false, .slice none 0 0, .slice none 0 0, .slice none 0 0] 28)) := (Below.refl _ _).alloc (Nat.le_refl _) _
  have HB6 : Hid (KB (v6.alloc (.cells #[.int .i64 0, .int .i64 0, .slice none 0 0, .bool false, .slice none 0 0, .slice none 0 0, .slice none 0 0] 28)) v6.heap.size 0 none 0 0) := KB.new v6 0 none 0 0
  have hu6 : Below w5.heap.size w5 (v6.alloc (.cells #[.int .i64 0, .int .i64 0, .slice none 0 0, .bool false, .slice none 0 0, .slice none 0 0, .slice none 0 0] 28)) := hbk6.trans (hal6.mono hbk6.size)
  have hs6 : w5.heap.size ≤ v6.heap.size ∧ v6.heap.size < (v6.alloc (.cells #[.int .i64 0, .int .i64 0, .slice none 0 0, .bool false, .slice none 0 0, .slice none 0 0, .slice none 0 0] 28)).heap.size := ⟨hbk6.size, by simp⟩
  clear hbk6 hal6
  have HB2e : Hid (KB (v6.alloc (.cells #[.int .i64 0, .int .i64 0, .slice none 0 0, .bool false, .slice none 0 0, .slice none 0 0, .slice none 0 0] 28)) A2 0 none 0 0) := HB2d.out.next hu6
  have HB1e : Hid (KB (v6.alloc (.cells #[.int .i64 0, .int .i64 0, .slice none 0 0, .bool false, .slice none 0 0, .slice none 0 0, .slice none 0 0] 28)) A1 0 none 0 0) := HB1d.out.next hu6
  have g0 := HB6.out.c0
  have g1 := HB6.out.c1
  have g2 := HB6.out.c2
  have g3 := HB6.out.c3
  have g4 := HB6.out.c4
  have g5 := HB6.out.c5
  have g6 := HB6.out.c6
  have p0 := HB1e.out.c0
  have p1 := HB1e.out.c1
  have p2 := HB1e.out.c2
  have p3 := HB1e.out.c3
  have p4 := HB1e.out.c4
  have p5 := HB1e.out.c5
  have p6 := HB1e.out.c6
  go_wp2_with fail
  generalize hW6 : v6.alloc (.cells #[.int .i64 0, .int .i64 0, .slice none 0 0, .bool false, .slice none 0 0, .slice none 0 0, .slice none 0 0] 28) = W6 at *
  generalize hA6 : v6.heap.size = A6 at *
  clear hW6 hA6 g0 g1 g2 g3 g4 g5 g6 p0 p1 p2 p3 p4 p5 p6
  refine (eqKeep_same 0 none none 0 0 0 [] 0 W6.heap.size 0 W6.heap.size W6 (Nat.le_refl _) (Nat.le_refl _) (objs_none _ _ _) (objs_none _ _ _)).mono ?_
  rintro e w7 ⟨rfl, hb7⟩
  have HB2f : Hid (KB w7 A2 0 none 0 0) := HB2e.out.next hb7
  have hB7 : Below w.heap.size w w7 := hB5.trans ((hu6.mono hB5.size).trans (hb7.mono (by have := hB5.size; have := hu6.size; omega)))
  have g0 := HB2f.out.c0
  have g1 := HB2f.out.c1
  have g2 := HB2f.out.c2
  have g3 := HB2f.out.c3
  have g4 := HB2f.out.c4
  have g5 := HB2f.out.c5
  have g6 := HB2f.out.c6
  go_wp2_with fail
  refine (heldKeep_nil 0 _).mono ?_
  rintro e w8 ⟨rfl, hb8⟩
  clear g0 g1 g2 g3 g4 g5 g6
  go_wp2_with fail
  go_ret
  exact ⟨rfl, hB7.trans (hb8.mono hB7.size)⟩
theorem walkKeepOpen (q : Int) (w : World) : Calls Try.prog 3 #[.int .i64 q] w fun e w' => e = .returned (.bool true) ∧ Below w.heap.size w w' := by
  cases hv : kb q
  · exact walkKeepOpenN q w hv
  · exact walkKeepOpenY q w hv

namespace fnExactKeepOpen
open Go.ChangeShapes Go.WideShapes Go.ChangeAt Go.RowKit
open Go.ChangeMaps (open_string shut_string)
set_option linter.unusedVariables false

theorem own : ownKnob Try.prog.godebug = none := by kernel_rfl

set_option maxRecDepth 100000 in
theorem lifted (os : Os) (started : os.Started) (H : Type) (enc : TypeId × Value → H) :
    ReturnsInHanded {} Try.checked os 3 .any (Rows.fnExactKeepOpenSpec.pre6 enc Try.prog Try.f3 Rows.fnExactKeepOpenRow.domain false) (Rows.fnExactKeepOpenSpec.post enc Try.prog Try.f3 false true false false) := by
  refine returnsInHanded_of_change (C := Try.checked) own started (by kernel_rfl) Try.func3
    (ChangeSpec.witness6 (enc := enc) (C := Try.checked) false ⟨#[], #[.int .i64 0], []⟩ 8 (by kernel_rfl) (by kernel_rfl) (by kernel_rfl) (by kernel_rfl)) ?_
  intro W base args ds gs before hval0 hW hcnd _
  have hval : ∀ (j : Nat) t v, Try.f3.params[j]? = some t → args[j]? = some v → Value.okWide Try.prog W .any base t v := hval0
  have hW' := hW
  obtain ⟨p, q, hA0, hV, rfl, hfz, hnd⟩ := hW
  have hA : DataW.TrodAll enc Try.prog W 0 (fun _ => true) true Try.f3.params.toList args.toList ds p := hA0
  rw [Try.params3] at hA hval
  obtain ⟨v0, vs0, d0, ds0, p0, q0, hargs, rfl, rfl, h0, r0⟩ := trodAll_cons hA
  obtain ⟨rfl, rfl, rfl⟩ := trodAll_nil r0
  obtain rfl : args = #[v0] := by cases args; simp_all
  obtain ⟨rfl, rfl⟩ := trodVars_none hV
  have k0 := h0
  have lt0 : ∀ x ∈ p0, x.block < W.heap.size := by obtain ⟨m, hm⟩ := k0; exact DataW.trod_lt m _ _ _ hm
  obtain ⟨a0, rfl, rfl, rfl, w0⟩ := open_int Try.underlying3 (hval 0 3 v0 rfl rfl) h0
  clear hA0 hval0
  refine (walkKeepOpen a0 W).mono fun e W' ⟨he, bel⟩ => ?_
  subst he
  exact ⟨_, rfl, _, _, _, [], _, [], hW', trodAll_mk1 (shut_bool Try.underlying4 _), (trodAll_cons_mk (Below.trod fLaid (by kernel_rfl) (of_decide_eq_true (by kernel_rfl)) k0 bel lt0) trodAll_mk0), rfl, bel.frame _, fun h => by cases h⟩

set_option maxHeartbeats 4000000 in
theorem closed : joinedFacts Try.prog 3 Try.f3 Rows.fnExactKeepOpenSpec Rows.fnExactKeepOpenRow = true := by
  refine closedOf rfl rfl rfl ?_ ?_ ?_ ?_ ?_ ?_ ?_ ?_ ?_ ?_ ?_ ?_ ?_ ?_ ?_ ?_ ?_ ?_ ?_ rfl rfl ?_ ?_ ?_
  all_goals (as_aux_lemma => kernel_rfl)

theorem over : Rows.fnExactKeepOpenRow.holds Try.pinned (OpenSpec.ofChange Rows.fnExactKeepOpenSpec) :=
  OpenClaim.holds_of_wide 3 Try.f3 rfl rfl rfl rfl rfl rfl rfl ⟨rfl, rfl, rfl, rfl, rfl⟩ rfl rfl rfl rfl rfl (by kernel_rfl) Try.func3 closed
    (of_decide_eq_true (by kernel_rfl)) (by unfold Func.isWrapper; first | (rw [if_pos (by decide +kernel)]; kernel_rfl) | (rw [if_neg (by decide +kernel)]; exact ⟨rfl, rfl⟩))
    (fun os started H enc _ => lifted os started H enc)
end fnExactKeepOpen

theorem fnExactKeepOpen_holds : Rows.FnExactKeepOpenSaid := fnExactKeepOpen.over
#print axioms fnExactKeepOpen_holds
end Go.Proofs.Ytppagjgpfmnekaa
