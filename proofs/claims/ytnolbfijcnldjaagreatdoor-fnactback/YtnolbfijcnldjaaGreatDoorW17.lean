/- Lemmas that the proofs of this seat share: CodeA, DeedA. -/
import Derived.Test.YtnolbfijcnldjaaGreatDoorW16
import Derived.Below
import Derived.Test.YtnolbfijcnldjaaGreatDoorW13
/- The eight sentinels in memory; actCode: the code of an error that is one of them, or nil. -/
namespace Go.Proofs.YtnolbfijcnldjaaGreatDoor
open Go.RowKit

/-- The variables errForm, errDirs .. errUsed lie in the blocks 0 to 7; each holds a pointer of its own. -/
structure Sents (w : World) (U : Nat) (a : Nat → Addr) : Prop where
  cell : ∀ i, i < 8 → w.cell? ⟨i, 0, none⟩ = some (.iface 224 (.pointer (some (a i))))
  row : ∀ i, i < 8 → ∃ c t, w.heap[(a i).block]? = some (.cells c t (0, 0))
  ne : ∀ i j, i < 8 → j < 8 → i ≠ j → a i ≠ a j
  lt : ∀ i, i < 8 → i < U ∧ (a i).block < U
theorem Sents.below {w w' : World} {U B : Nat} {a : Nat → Addr} (h : Sents w U a) (hb : Below B w w') (hU : U ≤ B) : Sents w' U a :=
  ⟨fun i hi => by rw [hb.cell (by have := h.lt i hi; simp; omega)]; exact h.cell i hi, fun i hi => by rw [hb.block _ (by have := h.lt i hi; omega)]; exact h.row i hi, h.ne, h.lt⟩
theorem Sents.blocks {w w' : World} {U : Nat} {a : Nat → Addr} (h : Sents w U a) (hb : ∀ k, k < U → w'.heap[k]? = w.heap[k]?) : Sents w' U a :=
  ⟨fun i hi => by rw [World.cell?_of_block (w := w) (hb _ (h.lt i hi).1)]; exact h.cell i hi, fun i hi => by rw [hb _ (h.lt i hi).2]; exact h.row i hi, h.ne, h.lt⟩
/-- The error of a code. -/
def errV (a : Nat → Addr) : Nat → Value
  | 0 => .nilIface
  | k + 1 => .iface 224 (.pointer (some (a ((k + 1) % 8))))

theorem actCode0 (w : World) : Calls Tryz.prog 65 #[.nilIface] w fun e w' => e = .returned (.int .i64 0) ∧ w' = w := by
  go_enter Tryz.func65, Tryz.ntmps65
  go_wp2_with fail
  go_ret
  exact ⟨rfl, rfl⟩
theorem actCode1 (a : Nat → Addr) (U : Nat) (w : World) (H : Sents w U a) : Calls Tryz.prog 65 #[.iface 224 (.pointer (some (a 1)))] w fun e w' => e = .returned (.int .i64 1) ∧ w' = w := by
  have c1 := H.cell 1 (by omega)
  obtain ⟨r1, t1, h1⟩ := H.row 1 (by omega)
  clear H
  go_enter Tryz.func65, Tryz.ntmps65
  go_wp2_with fail
  refine (is_same (a 1) _).mono ?_
  rintro e w2 ⟨rfl, rfl⟩
  go_wp2_with fail
  go_ret
  exact ⟨rfl, rfl⟩
theorem actCode2 (a : Nat → Addr) (U : Nat) (w : World) (H : Sents w U a) : Calls Tryz.prog 65 #[.iface 224 (.pointer (some (a 2)))] w fun e w' => e = .returned (.int .i64 2) ∧ w' = w := by
  have c1 := H.cell 1 (by omega)
  have c2 := H.cell 2 (by omega)
  obtain ⟨r1, t1, h1⟩ := H.row 1 (by omega)
  obtain ⟨r2, t2, h2⟩ := H.row 2 (by omega)
  have n1 := H.ne 2 1 (by omega) (by omega) (by omega)
  clear H
  go_enter Tryz.func65, Tryz.ntmps65
  go_wp2_with fail
  refine (is_other (a 2) (a 1) r2 r1 t2 t1 _ n1 h2 h1).mono ?_
  rintro e w2 ⟨rfl, rfl⟩
  go_wp2_with fail
  refine (is_same (a 2) _).mono ?_
  rintro e w2 ⟨rfl, rfl⟩
  go_wp2_with fail
  go_ret
  exact ⟨rfl, rfl⟩
theorem actCode3 (a : Nat → Addr) (U : Nat) (w : World) (H : Sents w U a) : Calls Tryz.prog 65 #[.iface 224 (.pointer (some (a 3)))] w fun e w' => e = .returned (.int .i64 3) ∧ w' = w := by
  have c1 := H.cell 1 (by omega)
  have c2 := H.cell 2 (by omega)
  have c3 := H.cell 3 (by omega)
  obtain ⟨r1, t1, h1⟩ := H.row 1 (by omega)
  obtain ⟨r2, t2, h2⟩ := H.row 2 (by omega)
  obtain ⟨r3, t3, h3⟩ := H.row 3 (by omega)
  have n1 := H.ne 3 1 (by omega) (by omega) (by omega)
  have n2 := H.ne 3 2 (by omega) (by omega) (by omega)
  clear H
  go_enter Tryz.func65, Tryz.ntmps65
  go_wp2_with fail
  refine (is_other (a 3) (a 1) r3 r1 t3 t1 _ n1 h3 h1).mono ?_
  rintro e w2 ⟨rfl, rfl⟩
  go_wp2_with fail
  refine (is_other (a 3) (a 2) r3 r2 t3 t2 _ n2 h3 h2).mono ?_
  rintro e w2 ⟨rfl, rfl⟩
  go_wp2_with fail
  refine (is_same (a 3) _).mono ?_
  rintro e w2 ⟨rfl, rfl⟩
  go_wp2_with fail
  go_ret
  exact ⟨rfl, rfl⟩
theorem actCode4 (a : Nat → Addr) (U : Nat) (w : World) (H : Sents w U a) : Calls Tryz.prog 65 #[.iface 224 (.pointer (some (a 4)))] w fun e w' => e = .returned (.int .i64 4) ∧ w' = w := by
  have c1 := H.cell 1 (by omega)
  have c2 := H.cell 2 (by omega)
  have c3 := H.cell 3 (by omega)
  have c4 := H.cell 4 (by omega)
  obtain ⟨r1, t1, h1⟩ := H.row 1 (by omega)
  obtain ⟨r2, t2, h2⟩ := H.row 2 (by omega)
  obtain ⟨r3, t3, h3⟩ := H.row 3 (by omega)
  obtain ⟨r4, t4, h4⟩ := H.row 4 (by omega)
  have n1 := H.ne 4 1 (by omega) (by omega) (by omega)
  have n2 := H.ne 4 2 (by omega) (by omega) (by omega)
  have n3 := H.ne 4 3 (by omega) (by omega) (by omega)
  clear H
  go_enter Tryz.func65, Tryz.ntmps65
  go_wp2_with fail
  refine (is_other (a 4) (a 1) r4 r1 t4 t1 _ n1 h4 h1).mono ?_
  rintro e w2 ⟨rfl, rfl⟩
  go_wp2_with fail
  refine (is_other (a 4) (a 2) r4 r2 t4 t2 _ n2 h4 h2).mono ?_
  rintro e w2 ⟨rfl, rfl⟩
  go_wp2_with fail
  refine (is_other (a 4) (a 3) r4 r3 t4 t3 _ n3 h4 h3).mono ?_
  rintro e w2 ⟨rfl, rfl⟩
  go_wp2_with fail
  refine (is_same (a 4) _).mono ?_
  rintro e w2 ⟨rfl, rfl⟩
  go_wp2_with fail
  go_ret
  exact ⟨rfl, rfl⟩
theorem actCode5 (a : Nat → Addr) (U : Nat) (w : World) (H : Sents w U a) : Calls Tryz.prog 65 #[.iface 224 (.pointer (some (a 5)))] w fun e w' => e = .returned (.int .i64 5) ∧ w' = w := by
  have c1 := H.cell 1 (by omega)
  have c2 := H.cell 2 (by omega)
  have c3 := H.cell 3 (by omega)
  have c4 := H.cell 4 (by omega)
  have c5 := H.cell 5 (by omega)
  obtain ⟨r1, t1, h1⟩ := H.row 1 (by omega)
  obtain ⟨r2, t2, h2⟩ := H.row 2 (by omega)
  obtain ⟨r3, t3, h3⟩ := H.row 3 (by omega)
  obtain ⟨r4, t4, h4⟩ := H.row 4 (by omega)
  obtain ⟨r5, t5, h5⟩ := H.row 5 (by omega)
  have n1 := H.ne 5 1 (by omega) (by omega) (by omega)
  have n2 := H.ne 5 2 (by omega) (by omega) (by omega)
  have n3 := H.ne 5 3 (by omega) (by omega) (by omega)
  have n4 := H.ne 5 4 (by omega) (by omega) (by omega)
  clear H
  go_enter Tryz.func65, Tryz.ntmps65
  go_wp2_with fail
  refine (is_other (a 5) (a 1) r5 r1 t5 t1 _ n1 h5 h1).mono ?_
  rintro e w2 ⟨rfl, rfl⟩
  go_wp2_with fail
  refine (is_other (a 5) (a 2) r5 r2 t5 t2 _ n2 h5 h2).mono ?_
  rintro e w2 ⟨rfl, rfl⟩
  go_wp2_with fail
  refine (is_other (a 5) (a 3) r5 r3 t5 t3 _ n3 h5 h3).mono ?_
  rintro e w2 ⟨rfl, rfl⟩
  go_wp2_with fail
  refine (is_other (a 5) (a 4) r5 r4 t5 t4 _ n4 h5 h4).mono ?_
  rintro e w2 ⟨rfl, rfl⟩
  go_wp2_with fail
  refine (is_same (a 5) _).mono ?_
  rintro e w2 ⟨rfl, rfl⟩
  go_wp2_with fail
  go_ret
  exact ⟨rfl, rfl⟩
theorem actCode6 (a : Nat → Addr) (U : Nat) (w : World) (H : Sents w U a) : Calls Tryz.prog 65 #[.iface 224 (.pointer (some (a 6)))] w fun e w' => e = .returned (.int .i64 6) ∧ w' = w := by
  have c1 := H.cell 1 (by omega)
  have c2 := H.cell 2 (by omega)
  have c3 := H.cell 3 (by omega)
  have c4 := H.cell 4 (by omega)
  have c5 := H.cell 5 (by omega)
  have c6 := H.cell 6 (by omega)
  obtain ⟨r1, t1, h1⟩ := H.row 1 (by omega)
  obtain ⟨r2, t2, h2⟩ := H.row 2 (by omega)
  obtain ⟨r3, t3, h3⟩ := H.row 3 (by omega)
  obtain ⟨r4, t4, h4⟩ := H.row 4 (by omega)
  obtain ⟨r5, t5, h5⟩ := H.row 5 (by omega)
  obtain ⟨r6, t6, h6⟩ := H.row 6 (by omega)
  have n1 := H.ne 6 1 (by omega) (by omega) (by omega)
  have n2 := H.ne 6 2 (by omega) (by omega) (by omega)
  have n3 := H.ne 6 3 (by omega) (by omega) (by omega)
  have n4 := H.ne 6 4 (by omega) (by omega) (by omega)
  have n5 := H.ne 6 5 (by omega) (by omega) (by omega)
  clear H
  go_enter Tryz.func65, Tryz.ntmps65
  go_wp2_with fail
  refine (is_other (a 6) (a 1) r6 r1 t6 t1 _ n1 h6 h1).mono ?_
  rintro e w2 ⟨rfl, rfl⟩
  go_wp2_with fail
  refine (is_other (a 6) (a 2) r6 r2 t6 t2 _ n2 h6 h2).mono ?_
  rintro e w2 ⟨rfl, rfl⟩
  go_wp2_with fail
  refine (is_other (a 6) (a 3) r6 r3 t6 t3 _ n3 h6 h3).mono ?_
  rintro e w2 ⟨rfl, rfl⟩
  go_wp2_with fail
  refine (is_other (a 6) (a 4) r6 r4 t6 t4 _ n4 h6 h4).mono ?_
  rintro e w2 ⟨rfl, rfl⟩
  go_wp2_with fail
  refine (is_other (a 6) (a 5) r6 r5 t6 t5 _ n5 h6 h5).mono ?_
  rintro e w2 ⟨rfl, rfl⟩
  go_wp2_with fail
  refine (is_same (a 6) _).mono ?_
  rintro e w2 ⟨rfl, rfl⟩
  go_wp2_with fail
  go_ret
  exact ⟨rfl, rfl⟩
theorem actCode7 (a : Nat → Addr) (U : Nat) (w : World) (H : Sents w U a) : Calls Tryz.prog 65 #[.iface 224 (.pointer (some (a 7)))] w fun e w' => e = .returned (.int .i64 7) ∧ w' = w := by
  have c1 := H.cell 1 (by omega)
  have c2 := H.cell 2 (by omega)
  have c3 := H.cell 3 (by omega)
  have c4 := H.cell 4 (by omega)
  have c5 := H.cell 5 (by omega)
  have c6 := H.cell 6 (by omega)
  have c7 := H.cell 7 (by omega)
  obtain ⟨r1, t1, h1⟩ := H.row 1 (by omega)
  obtain ⟨r2, t2, h2⟩ := H.row 2 (by omega)
  obtain ⟨r3, t3, h3⟩ := H.row 3 (by omega)
  obtain ⟨r4, t4, h4⟩ := H.row 4 (by omega)
  obtain ⟨r5, t5, h5⟩ := H.row 5 (by omega)
  obtain ⟨r6, t6, h6⟩ := H.row 6 (by omega)
  obtain ⟨r7, t7, h7⟩ := H.row 7 (by omega)
  have n1 := H.ne 7 1 (by omega) (by omega) (by omega)
  have n2 := H.ne 7 2 (by omega) (by omega) (by omega)
  have n3 := H.ne 7 3 (by omega) (by omega) (by omega)
  have n4 := H.ne 7 4 (by omega) (by omega) (by omega)
  have n5 := H.ne 7 5 (by omega) (by omega) (by omega)
  have n6 := H.ne 7 6 (by omega) (by omega) (by omega)
  clear H
  go_enter Tryz.func65, Tryz.ntmps65
  go_wp2_with fail
  refine (is_other (a 7) (a 1) r7 r1 t7 t1 _ n1 h7 h1).mono ?_
  rintro e w2 ⟨rfl, rfl⟩
  go_wp2_with fail
  refine (is_other (a 7) (a 2) r7 r2 t7 t2 _ n2 h7 h2).mono ?_
  rintro e w2 ⟨rfl, rfl⟩
  go_wp2_with fail
  refine (is_other (a 7) (a 3) r7 r3 t7 t3 _ n3 h7 h3).mono ?_
  rintro e w2 ⟨rfl, rfl⟩
  go_wp2_with fail
  refine (is_other (a 7) (a 4) r7 r4 t7 t4 _ n4 h7 h4).mono ?_
  rintro e w2 ⟨rfl, rfl⟩
  go_wp2_with fail
  refine (is_other (a 7) (a 5) r7 r5 t7 t5 _ n5 h7 h5).mono ?_
  rintro e w2 ⟨rfl, rfl⟩
  go_wp2_with fail
  refine (is_other (a 7) (a 6) r7 r6 t7 t6 _ n6 h7 h6).mono ?_
  rintro e w2 ⟨rfl, rfl⟩
  go_wp2_with fail
  refine (is_same (a 7) _).mono ?_
  rintro e w2 ⟨rfl, rfl⟩
  go_wp2_with fail
  go_ret
  exact ⟨rfl, rfl⟩
theorem actCode8 (a : Nat → Addr) (U : Nat) (w : World) (H : Sents w U a) : Calls Tryz.prog 65 #[.iface 224 (.pointer (some (a 0)))] w fun e w' => e = .returned (.int .i64 8) ∧ w' = w := by
  have c1 := H.cell 1 (by omega)
  have c2 := H.cell 2 (by omega)
  have c3 := H.cell 3 (by omega)
  have c4 := H.cell 4 (by omega)
  have c5 := H.cell 5 (by omega)
  have c6 := H.cell 6 (by omega)
  have c7 := H.cell 7 (by omega)
  obtain ⟨r0, t0, h0⟩ := H.row 0 (by omega)
  obtain ⟨r1, t1, h1⟩ := H.row 1 (by omega)
  obtain ⟨r2, t2, h2⟩ := H.row 2 (by omega)
  obtain ⟨r3, t3, h3⟩ := H.row 3 (by omega)
  obtain ⟨r4, t4, h4⟩ := H.row 4 (by omega)
  obtain ⟨r5, t5, h5⟩ := H.row 5 (by omega)
  obtain ⟨r6, t6, h6⟩ := H.row 6 (by omega)
  obtain ⟨r7, t7, h7⟩ := H.row 7 (by omega)
  have n1 := H.ne 0 1 (by omega) (by omega) (by omega)
  have n2 := H.ne 0 2 (by omega) (by omega) (by omega)
  have n3 := H.ne 0 3 (by omega) (by omega) (by omega)
  have n4 := H.ne 0 4 (by omega) (by omega) (by omega)
  have n5 := H.ne 0 5 (by omega) (by omega) (by omega)
  have n6 := H.ne 0 6 (by omega) (by omega) (by omega)
  have n7 := H.ne 0 7 (by omega) (by omega) (by omega)
  clear H
  go_enter Tryz.func65, Tryz.ntmps65
  go_wp2_with fail
  refine (is_other (a 0) (a 1) r0 r1 t0 t1 _ n1 h0 h1).mono ?_
  rintro e w2 ⟨rfl, rfl⟩
  go_wp2_with fail
  refine (is_other (a 0) (a 2) r0 r2 t0 t2 _ n2 h0 h2).mono ?_
  rintro e w2 ⟨rfl, rfl⟩
  go_wp2_with fail
  refine (is_other (a 0) (a 3) r0 r3 t0 t3 _ n3 h0 h3).mono ?_
  rintro e w2 ⟨rfl, rfl⟩
  go_wp2_with fail
  refine (is_other (a 0) (a 4) r0 r4 t0 t4 _ n4 h0 h4).mono ?_
  rintro e w2 ⟨rfl, rfl⟩
  go_wp2_with fail
  refine (is_other (a 0) (a 5) r0 r5 t0 t5 _ n5 h0 h5).mono ?_
  rintro e w2 ⟨rfl, rfl⟩
  go_wp2_with fail
  refine (is_other (a 0) (a 6) r0 r6 t0 t6 _ n6 h0 h6).mono ?_
  rintro e w2 ⟨rfl, rfl⟩
  go_wp2_with fail
  refine (is_other (a 0) (a 7) r0 r7 t0 t7 _ n7 h0 h7).mono ?_
  rintro e w2 ⟨rfl, rfl⟩
  go_wp2_with fail
  go_ret
  exact ⟨rfl, rfl⟩
theorem actCode_any (a : Nat → Addr) (U : Nat) (k : Nat) (w : World) (hk : k ≤ 8) (H : Sents w U a) : Calls Tryz.prog 65 #[errV a k] w fun e w' => e = .returned (.int .i64 k) ∧ w' = w := by
  match k, hk with
  | 0, _ => exact actCode0 w
  | 1, _ => exact actCode1 a U w H
  | 2, _ => exact actCode2 a U w H
  | 3, _ => exact actCode3 a U w H
  | 4, _ => exact actCode4 a U w H
  | 5, _ => exact actCode5 a U w H
  | 6, _ => exact actCode6 a U w H
  | 7, _ => exact actCode7 a U w H
  | 8, _ => exact actCode8 a U w H
end Go.Proofs.YtnolbfijcnldjaaGreatDoor

/- What is done to a trial, as types behind an interface: making. -/
namespace Go.Proofs.YtnolbfijcnldjaaGreatDoor
open Go.RowKit

/-- The two boxes of a deed: what is done, and the trial. -/
structure DBox (W : World) (S b n c : Nat) (o : LOp) : Prop where
  k0 : W.cell? ⟨S, 0, none⟩ = some (.int .i64 o.kind)
  k1 : W.cell? ⟨S, 1, none⟩ = some (.int .i64 o.dir)
  k2 : W.cell? ⟨S, 2, none⟩ = some (.string o.name)
  k3 : W.cell? ⟨S, 3, none⟩ = some (.int .i64 o.dir2)
  k4 : W.cell? ⟨S, 4, none⟩ = some (.string o.name2)
  k5 : W.cell? ⟨S, 5, none⟩ = some (.int .i64 o.id)
  k6 : W.cell? ⟨S, 6, none⟩ = some (.string o.text)
  tr : W.cell? ⟨S + 1, 0, none⟩ = some (.slice (some ⟨b, 0, none⟩) n c)
  sz : S + 1 < W.heap.size
theorem DBox.of {W W' : World} {S b n c : Nat} {o : LOp} (h : DBox W S b n c o) (hs : W.heap.size ≤ W'.heap.size) (hb : ∀ q, S ≤ q → q ≤ S + 1 → W'.heap[q]? = W.heap[q]?) : DBox W' S b n c o := by
  have h0 : ∀ j, W'.cell? ⟨S, j, none⟩ = W.cell? ⟨S, j, none⟩ := fun j => World.cell?_of_block (w := W) (hb S (by omega) (by omega))
  have h1 : ∀ j, W'.cell? ⟨S + 1, j, none⟩ = W.cell? ⟨S + 1, j, none⟩ := fun j => World.cell?_of_block (w := W) (hb (S + 1) (by omega) (by omega))
  exact ⟨by rw [h0]; exact h.k0, by rw [h0]; exact h.k1, by rw [h0]; exact h.k2, by rw [h0]; exact h.k3, by rw [h0]; exact h.k4, by rw [h0]; exact h.k5, by rw [h0]; exact h.k6, by rw [h1]; exact h.tr, by have := h.sz; omega⟩
theorem DBox.next {W W' : World} {S b n c : Nat} {o : LOp} (h : DBox W S b n c o) (hb : Below W.heap.size W W') : DBox W' S b n c o := h.of hb.size fun q _ h2 => hb.block q (by have := h.sz; omega)
theorem DBox.post {W W' : World} {S B b c n : Nat} {o : LOp} {os' : List LObj} {vs vs' : Nat → Value} (h : DBox W S b n c o) (hp : DPost W W' B b c n os' vs vs') (hb : b < S) (hv : ∀ i g, i < n → (vs i).ownBlock = some g → g < S ∨ S + 1 < g) : DBox W' S b n c o :=
  h.of hp.below.size fun q h1 h2 => hp.kt q (by have := h.sz; omega) (by omega) fun i hi e => by have := hv i q hi e; omega
/-- How a deed ends. -/
def DeedEnd (w : World) (a : Nat → Addr) (B b c n : Nat) (vs : Nat → Value) (r : List LObj × Int) (e : Ending) (w' : World) : Prop := ∃ k vs', r.2 = ((k : Nat) : Int) ∧ k ≤ 8 ∧ e = .returned (errV a k) ∧ DPost w w' B b c n r.1 vs vs'
theorem DeedEnd.no {w w' : World} {a : Nat → Addr} {B b c n : Nat} {vs : Nat → Value} {os : List LObj} {r : List LObj × Int} (k : Nat) (hk : k ≤ 8) (hr : r = (os, (k : Int))) (H : OwnT w B b c os vs) (hB : B ≤ w.heap.size) (hb : Below w.heap.size w w') {v : Value} (hv : v = errV a k) : DeedEnd w a B b c n vs r (.returned v) w' :=
  ⟨k, vs, by rw [hr], hk, by rw [hv], by rw [hr]; exact DPost.same H hB hb⟩
theorem OwnT.vlt {w : World} {B b c n : Nat} {os : List LObj} {vs : Nat → Value} (h : OwnT w B b c os vs) (hn : n = os.length) (i g : Nat) (hi : i < n) (hg : (vs i).ownBlock = some g) : g < w.heap.size := by
  have ho : os[i]? = some (os[i]'(by omega)) := by simp [show i < os.length by omega]
  exact (World.ownsRow.lt (h.at_ i _ ho).2.2.2.2.2.1 g hg).2
theorem DPost.vfar {w w' : World} {B b c n : Nat} {os' : List LObj} {vs vs' : Nat → Value} {S : Nat} (hp : DPost w w' B b c n os' vs vs') (hS : S + 1 < w.heap.size) (hv : ∀ i g, i < n → (vs i).ownBlock = some g → g < S ∨ S + 1 < g) : ∀ i g, i < n → (vs' i).ownBlock = some g → g < S ∨ S + 1 < g := fun i g hi hg => by
  rcases hp.sub i g hi hg with h | h
  · exact hv i g hi h
  · omega

set_option maxHeartbeats 4000000 in
set_option maxRecDepth 20000 in
theorem making_do (kk : Int) (a : Nat → Addr) (U B b c n : Nat) (o : LOp) (os : List LObj) (vs : Nat → Value) (w : World) (hU : U ≤ B) (HS : Sents w U a) (hB : B ≤ w.heap.size) (hs : specOk os = true) (hn : n = 32) (hok : opOk o = true) (hz : OpSz o) (H : OwnT w B b c os vs) (hkk : kk = if o.kind = 2 then 2 else 1) :
    Calls Tryz.prog 223 #[.agg #[.int .i64 o.kind, .int .i64 o.dir, .string o.name, .int .i64 o.dir2, .string o.name2, .int .i64 o.id, .string o.text, .int .i64 kk], .agg #[.slice (some ⟨b, 0, none⟩) n c]] w fun e w' => DeedEnd w a B b c n vs (actNew os o) e w' := by
  have hlen := ok_len hs
  have b1 := opOk_id hok
  have b2 := opOk_dir hok
  have b3 := opOk_dir2 hok
  have hbl := H.lt
  obtain ⟨i, hi⟩ : ∃ i : Nat, o.id = i := ⟨o.id.toNat, by omega⟩
  obtain ⟨x, hx⟩ : ∃ x, os[i]? = some x := ⟨os[i]'(by omega), by simp⟩
  have HX : Hid (os[i]? = some x) := hx
  obtain ⟨j, hj⟩ : ∃ j : Nat, o.dir = j := ⟨o.dir.toNat, by omega⟩
  obtain ⟨d, hd⟩ : ∃ d, os[j]? = some d := ⟨os[j]'(by omega), by simp⟩
  have HD : Hid (os[j]? = some d) := hd
  have hA : Below w.heap.size w ((w.alloc (Obj.cells #[.int .i64 o.kind, .int .i64 o.dir, .string o.name, .int .i64 o.dir2, .string o.name2, .int .i64 o.id, .string o.text, .int .i64 kk] 179)).alloc (Obj.cells #[.slice (some ⟨b, 0, none⟩) n c] 85)) := ((Below.refl _ _).alloc (Nat.le_refl _) _).alloc (by simp) _
  have hD0 : DBox ((w.alloc (Obj.cells #[.int .i64 o.kind, .int .i64 o.dir, .string o.name, .int .i64 o.dir2, .string o.name2, .int .i64 o.id, .string o.text, .int .i64 kk] 179)).alloc (Obj.cells #[.slice (some ⟨b, 0, none⟩) n c] 85)) w.heap.size b n c o := ⟨by simp [go_sem], by simp [go_sem], by simp [go_sem], by simp [go_sem], by simp [go_sem], by simp [go_sem], by simp [go_sem], by simp [go_sem], by simp⟩
  have hk7 : ((w.alloc (Obj.cells #[.int .i64 o.kind, .int .i64 o.dir, .string o.name, .int .i64 o.dir2, .string o.name2, .int .i64 o.id, .string o.text, .int .i64 kk] 179)).alloc (Obj.cells #[.slice (some ⟨b, 0, none⟩) n c] 85)).cell? ⟨w.heap.size, 7, none⟩ = some (.int .i64 kk) := by simp [go_sem]
  have HACT : Hid (actNew os o = if d.kind ≠ 2 then (os, 1) else if 0 ≤ findV d.kids o.name then (os, 3) else if x.kind ≠ 0 ∨ 0 < x.ver then (os, 7) else ((os.set i ⟨kk, 1, ⟨#[]⟩, []⟩).set j { d with kids := putL ⟨o.name, o.id⟩ d.kids, ver := d.ver + 1 }, 0)) := by
    show _ = _
    unfold actNew
    rw [hi, hj, Int.toNat_natCast, Int.toNat_natCast, hd, hx, hkk]
  have HIJ : Hid (o.id = i ∧ o.dir = j) := ⟨hi, hj⟩
  have hcd := H.at_ j d hd
  have hcx := H.at_ i x hx
  obtain ⟨ka, kc, hvd, hEd⟩ := hcd.2.2.2.2.2.1.at_ hcd.2.2.2.2.2.2
  have hc3 : w.cell? ⟨b, j * 4 + 3, none⟩ = some (.slice ka d.kids.length kc) := by rw [hcd.2.2.2.2.1, hvd]
  have hkb : d.kids.length ≤ 32 := ok_kids hs hd
  have hasc := ok_asc hs hd
  have hver := ok_ver hs hd
  have hverx := ok_ver hs hx
  have HFV : Hid ((findV d.kids o.name != -1) = decide (0 ≤ findV d.kids o.name)) := findV_neg hs hd o.name
  have HV : Hid (∀ q g, q < n → (vs q).ownBlock = some g → g < w.heap.size) := fun q g hq hg => H.vlt (by omega) q g hq hg
  have hjn : j < n := by omega
  have hin : i < n := by omega
  have hin' : (i : Int) < (n : Int) := by omega
  have hi0 : (0 : Int) ≤ (i : Int) := by omega
  have HSE : Hid (Sents w U a) := HS
  have HOT : Hid (OwnT w B b c os vs) := H
  have HEd : Hid (EntsAt w B w.heap.size ka d.kids.length d.kids) := hEd
  obtain ⟨W0, hW0⟩ : ∃ W0 : World, W0 = ((w.alloc (Obj.cells #[.int .i64 o.kind, .int .i64 o.dir, .string o.name, .int .i64 o.dir2, .string o.name2, .int .i64 o.id, .string o.text, .int .i64 kk] 179)).alloc (Obj.cells #[.slice (some ⟨b, 0, none⟩) n c] 85)) := ⟨_, rfl⟩
  rw [← hW0] at hA hD0 hk7
  have HN : Hid (n = 32 ∧ os.length = 32) := ⟨hn, hlen⟩
  have hnameS := hz.name
  have hij1 : 1 ≤ i := by omega
  have hz0 := hD0.sz
  have hUw : U ≤ w.heap.size := by omega
  have e0 := hD0.k0
  have e1 := hD0.k1
  have e2 := hD0.k2
  have e5 := hD0.k5
  have e7 := hD0.tr
  rw [HIJ.out.1] at e5
  rw [HIJ.out.2] at e1
  clear hi hj hn hlen hkk HS H hd hx hEd hcx hvd b1 b2 b3 hs hok hz
  go_enter Tryz.func223, Tryz.ntmps223
  go_upto_region 1 with fail
  rw [← hW0]
  clear hW0
  go_wp2_with fail
  refine (isDir_t b c n j d.kind _ hjn (by have := hA.size; omega) (by rw [hA.cell (by simpa using hbl)]; exact hcd.2.1)).mono ?_
  rintro z w1 ⟨rfl, hb1⟩
  have h1 := hD0.next hb1
  have hB1 : Below w.heap.size w w1 := hA.trans (hb1.mono hA.size)
  have k7 : w1.cell? ⟨w.heap.size, 7, none⟩ = some (.int .i64 kk) := by rw [hb1.cell (by simp; omega)]; exact hk7
  have e0 := h1.k0
  have e1 := h1.k1
  have e2 := h1.k2
  have e5 := h1.k5
  have e7 := h1.tr
  rw [HIJ.out.1] at e5
  rw [HIJ.out.2] at e1
  clear hb1 hA hD0 hk7
  rcases t1 : (d.kind == 2) with _ | _
  · have s1 : w1.cell? ⟨1, 0, none⟩ = some (.iface 224 (.pointer (some (a 1)))) := (HSE.out.below hB1 hUw).cell 1 (by omega)
    have hne : Hid (d.kind ≠ 2) := by show _ ≠ _; simpa using t1
    go_wp2_with fail
    go_ret
    exact DeedEnd.no 1 (by omega) (by rw [HACT.out, if_pos (by have := hne.out; omega)]; rfl) HOT.out hB hB1 rfl
  have HK2 : Hid (d.kind = 2) := by show _ = _; simpa using t1
  have hz1 := h1.sz
  go_wp2_with fail
  refine (find_t b c n j ka d.kids.length kc d.kids B w.heap.size o.name _ hjn (by have := hB1.size; omega) (by rw [hB1.cell (by simpa using hbl)]; exact hc3) (by omega) hasc hB1.size (HEd.out.below hB1 (Nat.le_refl _))).mono ?_
  rintro z w2 ⟨rfl, hb2⟩
  have h2 := h1.next hb2
  have hB2 : Below w.heap.size w w2 := hB1.trans (hb2.mono hB1.size)
  have k7' : w2.cell? ⟨w.heap.size, 7, none⟩ = some (.int .i64 kk) := by rw [hb2.cell (by simp; omega)]; exact k7
  have e0 := h2.k0
  have e1 := h2.k1
  have e2 := h2.k2
  have e5 := h2.k5
  have e7 := h2.tr
  rw [HIJ.out.1] at e5
  rw [HIJ.out.2] at e1
  clear hb2 hB1 h1 k7
  rcases f0 : decide (0 ≤ findV d.kids o.name) with _ | _
  case true =>
    have t2 : (findV d.kids o.name != -1) = true := by rw [HFV.out]; exact f0
    have s3 : w2.cell? ⟨3, 0, none⟩ = some (.iface 224 (.pointer (some (a 3)))) := (HSE.out.below hB2 hUw).cell 3 (by omega)
    have hf : Hid (0 ≤ findV d.kids o.name) := by show _ ≤ _; simpa using f0
    clear f0
    go_wp2_with fail
    go_ret
    exact DeedEnd.no 3 (by omega) (by rw [HACT.out, if_neg (by rw [HK2.out]; simp), if_pos (by have := hf.out; omega)]; rfl) HOT.out hB hB2 rfl
  have t2 : (findV d.kids o.name != -1) = false := by rw [HFV.out]; exact f0
  have hf : Hid (¬ 0 ≤ findV d.kids o.name) := by show ¬ _; simpa using f0
  have hcx := (HOT.out.below hB2).at_ i x HX.out
  clear f0
  have hz2 := h2.sz
  go_wp2_with fail
  refine (isFresh_any b 0 n c i x.kind x.ver _ hin (by have := hB2.size; omega) (by rw [Nat.zero_add]; exact hcx.2.1) (by rw [Nat.zero_add]; exact hcx.2.2.1)).mono ?_
  rintro z w3 ⟨rfl, hb3⟩
  have h3 := h2.next hb3
  have hB3 : Below w.heap.size w w3 := hB2.trans (hb3.mono hB2.size)
  have k7 : w3.cell? ⟨w.heap.size, 7, none⟩ = some (.int .i64 kk) := by rw [hb3.cell (by simp; omega)]; exact k7'
  have e0 := h3.k0
  have e1 := h3.k1
  have e2 := h3.k2
  have e5 := h3.k5
  have e7 := h3.tr
  rw [HIJ.out.1] at e5
  rw [HIJ.out.2] at e1
  clear hb3 hB2 h2 k7' hcx
  rcases f1 : (decide (i ≠ 0) && decide (x.kind = 0) && decide (x.ver = 0)) with _ | _
  · have s7 : w3.cell? ⟨7, 0, none⟩ = some (.iface 224 (.pointer (some (a 7)))) := (HSE.out.below hB3 hUw).cell 7 (by omega)
    have hg : Hid (x.kind ≠ 0 ∨ 0 < x.ver) := by
      show _ ∨ _
      by_cases q : x.kind = 0
      · right
        have : x.ver ≠ 0 := by intro q2; simp [q, q2] at f1; omega
        omega
      · exact .inl q
    clear f1
    go_wp2_with fail
    go_ret
    exact DeedEnd.no 7 (by omega) (by rw [HACT.out, if_neg (by rw [HK2.out]; simp), if_neg (by have := hf.out; omega), if_pos (by have := hg.out; omega)]; rfl) HOT.out hB hB3 rfl
  have hg : Hid (x.kind = 0 ∧ x.ver = 0) := by show _ ∧ _; simp at f1; exact ⟨f1.1.2, f1.2⟩
  have HNE : Hid (i ≠ j) := by
    intro e
    have h9 := HX.out
    rw [e, HD.out] at h9
    cases h9
    have := HK2.out
    have := hg.out.1
    omega
  have hOT3 := HOT.out.below hB3
  have hcx := hOT3.at_ i x HX.out
  obtain ⟨-, p0, p1, p2, p3, -, -⟩ := hcx
  have z0 := hOT3.frozen (i * 4)
  have z1 := hOT3.frozen (i * 4 + 1)
  have z2 := hOT3.frozen (i * 4 + 2)
  have z3 := hOT3.frozen (i * 4 + 3)
  have HOT3 : Hid (OwnT w3 B b c os vs) := hOT3
  have hz3 := h3.sz
  have hbl3 : b < w3.heap.size := hOT3.lt
  clear f1 hOT3 hcd hc3
  go_upto_region 8 with fail
  have hput : put4 w3 b i kk 1 = (((w3.setCell ⟨b, i * 4, none⟩ (.int .i64 kk)).setCell ⟨b, i * 4 + 1, none⟩ (.int .i64 1)).setCell ⟨b, i * 4 + 2, none⟩ (.string ⟨#[]⟩)).setCell ⟨b, i * 4 + 3, none⟩ (.slice none 0 0) := rfl
  rw [← hput]
  have hP4 : DPost w (put4 w3 b i kk 1) B b c n (os.set i ⟨kk, 1, ⟨#[]⟩, []⟩) vs (fun q => if q = i then .slice none 0 0 else vs q) :=
    ⟨HOT3.out.put4 HX.out kk 1, put4_below i kk 1 (hB3.mono hB) HOT.out.lo, Kt.put4 (Kt.of_below hB3 b n vs), fun q g hq hg => by
      by_cases e : q = i
      · simp [e, Value.ownBlock] at hg
      · simp only [e, if_false] at hg; exact .inl hg⟩
  have h4 : DBox (put4 w3 b i kk 1) w.heap.size b n c o := h3.of (by rw [put4_size]; exact Nat.le_refl _) fun q hq1 hq2 => put4_block w3 b i kk 1 (by omega)
  have hbs := HV.out
  clear hput
  generalize put4 w3 b i kk 1 = W4 at *
  clear p0 p1 p2 p3 z0 z1 z2 z3 e0 e1 e2 e5 e7 h3 k7
  have e0 := h4.k0
  have e1 := h4.k1
  have e2 := h4.k2
  have e5 := h4.k5
  have e7 := h4.tr
  rw [HIJ.out.1] at e5
  rw [HIJ.out.2] at e1
  have hz4 := h4.sz
  have hBW4 : B ≤ W4.heap.size := by omega
  go_wp2_with fail
  refine (enter_t B b c n j d ⟨o.name, (i : Int)⟩ (os.set i ⟨kk, 1, ⟨#[]⟩, []⟩) _ W4 (by rw [List.length_set, HN.out.2]; exact HN.out.1) (by rw [List.getElem?_set_ne HNE.out]; exact HD.out) hasc (by omega) hnameS hBW4 hP4.own).mono ?_
  rintro z W5 ⟨rfl, vs5, hP5⟩
  have hvf4 : ∀ q g, q < n → (if q = i then Value.slice none 0 0 else vs q).ownBlock = some g → g < w.heap.size ∨ w.heap.size + 1 < g := fun q g hq hg => by
    by_cases e : q = i
    · simp [e, Value.ownBlock] at hg
    · simp only [e, if_false] at hg; exact .inl (hbs q g hq hg)
  have h5 := h4.post hP5 hbl hvf4
  have hP45 := hP4.trans hP5
  have hvf5 := hP5.vfar hz4 hvf4
  have e1 := h5.k1
  have e7 := h5.tr
  rw [HIJ.out.2] at e1
  have hBW5 : B ≤ W5.heap.size := by have := hP5.below.size; omega
  have hz5 := h5.sz
  clear hP5 hP4 h4 hvf4
  go_wp2_with fail
  refine (turn_t B b c n j { d with kids := putL ⟨o.name, (i : Int)⟩ d.kids } _ vs5 W5 (by rw [List.length_set, List.length_set, HN.out.2]; exact HN.out.1) (List.getElem?_set_self (by rw [List.length_set, HN.out.2, ← HN.out.1]; exact hjn)) (by show _ ≤ d.ver; omega) (by show d.ver ≤ _; omega) hBW5 hP45.own).mono ?_
  rintro z W6 ⟨rfl, hP6⟩
  have hP := hP45.trans hP6
  clear hP6 hP45 e1 e7
  go_wp2_with fail
  go_ret
  refine ⟨0, vs5, ?_, by omega, rfl, ?_⟩
  · rw [HACT.out, if_neg (by rw [HK2.out]; simp), if_neg (by have := hf.out; omega), if_neg (by rw [hg.out.1, hg.out.2]; simp)]; rfl
  · rw [HACT.out, if_neg (by rw [HK2.out]; simp), if_neg (by have := hf.out; omega), if_neg (by rw [hg.out.1, hg.out.2]; simp), HIJ.out.1]
    simpa [List.set_set] using hP
end Go.Proofs.YtnolbfijcnldjaaGreatDoor
