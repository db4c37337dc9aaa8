/- Logs as the laws draw them. -/
import Derived.Test.YtdjffkiiglilnaaLogT
namespace Go.Proofs.Ytdjffkiiglilnaa
open Go.RowKit

theorem LogAt.blocks {w w' : World} {L U : Nat} {q s : Int} {a a' : Option Addr} {n n' : Nat} {l : LLog} (h : LogAt w L U q s a n a' n' l) (hb : ∀ b, L ≤ b → b < U → w'.heap[b]? = w.heap[b]?) : LogAt w' L U q s a n a' n' l := ⟨h.q, h.s, h.b.blocks hb, h.o.blocks hb⟩
/-- A log is drawn. -/
def DrawnLog (w : World) (e : Ending) (w' : World) : Prop :=
  (∃ x y a n k a' n' k' l, e = .returned (.agg #[.int .i64 x, .int .i64 y, .slice a n k, .slice a' n' k']) ∧ LogAt w' w.heap.size w'.heap.size x y a n a' n' l ∧ n ≤ 40 ∧ n' ≤ k' ∧ k' ≤ maxLen) ∧ Below w.heap.size w w'
/-- Two logs are drawn. -/
def DrawnLogs (w : World) (e : Ending) (w' : World) : Prop :=
  (∃ x1 y1 a1 n1 k1 a1' n1' k1' l1 x2 y2 a2 n2 k2 a2' n2' k2' l2, e = .returned (.tuple #[.agg #[.int .i64 x1, .int .i64 y1, .slice a1 n1 k1, .slice a1' n1' k1'], .agg #[.int .i64 x2, .int .i64 y2, .slice a2 n2 k2, .slice a2' n2' k2']]) ∧ (LogAt w' w.heap.size w'.heap.size x1 y1 a1 n1 a1' n1' l1 ∧ n1 ≤ 40 ∧ n1' ≤ k1' ∧ k1' ≤ maxLen) ∧ LogAt w' w.heap.size w'.heap.size x2 y2 a2 n2 a2' n2' l2 ∧ n2 ≤ 40 ∧ n2' ≤ k2' ∧ k2' ≤ maxLen) ∧ Below w.heap.size w w'

set_option maxHeartbeats 4000000 in
set_option maxRecDepth 20000 in
theorem drawLogOk (a : Option Addr) (n c : Nat) (zs : List Int) (w : World) (hn : n ≤ 1048576) (hc : n ≤ c) (H : BytesAt w w.heap.size a n zs) :
    Calls Try.prog 16 #[.slice a n c] w fun e w' => DrawnLog w e w' := by
  go_enter Try.func16, Try.ntmps16
  go_wp2_with fail
  have hA0 : Below w.heap.size w (w.alloc (Obj.cells #[.int .i64 0, .int .i64 0, .slice none 0 0, .slice none 0 0] 29)) := (Below.refl _ _).alloc (Nat.le_refl _) _
  have r0 : (w.alloc (Obj.cells #[.int .i64 0, .int .i64 0, .slice none 0 0, .slice none 0 0] 29)).rowIs w.heap.size 29 4 (zrow #[.int .i64 0, .int .i64 0, .slice none 0 0, .slice none 0 0]) := zrow_new w _ 29
  have hz0 : w.heap.size + 1 ≤ (w.alloc (Obj.cells #[.int .i64 0, .int .i64 0, .slice none 0 0, .slice none 0 0] 29)).heap.size := by simp
  generalize hW0 : w.alloc (Obj.cells #[.int .i64 0, .int .i64 0, .slice none 0 0, .slice none 0 0] 29) = W0 at *
  clear hW0
  refine (open16 a n c zs w.heap.size _ hn hc (H.below hA0 (Nat.le_refl _))).mono ?_
  rintro e W1 ⟨m1, d1, ys1, rfl, hm1, _, hB1, rfl⟩
  have R1 : RdTo (W0.alloc (.cells #[.slice a m1 d1, .int .i64 0] 118)) W0.heap.size 0 := ⟨0, Nat.le_refl _, rd_start hm1 (by omega) hB1⟩
  clear hB1
  go_wp2_with fail
  refine (l5_any W0.heap.size 0 _ (by omega) (by simp) R1).mono ?_
  rintro e W2 ⟨b1, c1, os1, vs1, x1, y1, a1, n1, k1, a1', n1', k1', l1, rfl, _, _, _, hL1, hbd1, _, hb2⟩
  have hs2 : W0.heap.size + 1 ≤ W2.heap.size := by have := hb2.below.size; simpa using this
  have hA2 : Below w.heap.size w W2 := (hA0.alloc (by omega) _).trans (hb2.below.mono (by omega))
  have r2 : W2.rowIs w.heap.size 29 4 (zrow #[.int .i64 0, .int .i64 0, .slice none 0 0, .slice none 0 0]) := r0.of_block ((hb2.block _ (by omega) (by simp; omega)).trans (((Below.refl W0.heap.size W0).alloc (Nat.le_refl _) _).block _ (by omega)))
  have HR2 : Hid (W2.rowIs w.heap.size 29 4 (zrow #[.int .i64 0, .int .i64 0, .slice none 0 0, .slice none 0 0])) := r2
  have HL1 : Hid (LogAt W2 (w.heap.size + 1) W2.heap.size x1 y1 a1 n1 a1' n1' l1) := hL1.wide (by simp; omega) (Nat.le_refl _)
  have g0 : W2.cell? ⟨w.heap.size, 0, none⟩ = some (.int .i64 0) := by rw [r2.cell (by omega)]; rfl
  have g1 : W2.cell? ⟨w.heap.size, 1, none⟩ = some (.int .i64 0) := by rw [r2.cell (by omega)]; rfl
  have g2 : W2.cell? ⟨w.heap.size, 2, none⟩ = some (.slice none 0 0) := by rw [r2.cell (by omega)]; rfl
  have g3 : W2.cell? ⟨w.heap.size, 3, none⟩ = some (.slice none 0 0) := by rw [r2.cell (by omega)]; rfl
  have z0 := r2.frozen 0
  have z1 := r2.frozen 1
  have z2 := r2.frozen 2
  have z3 := r2.frozen 3
  have hlt2 := r2.lt
  clear r0 r2 hL1 hb2 R1
  go_wp2_with fail
  refine bodyPost_ret (v := .agg #[.int .i64 x1, .int .i64 y1, .slice a1 n1 k1, .slice a1' n1' k1']) (by rw [results, Try.results16]; simp [go_sem, g0, g1, g2, g3, hlt2]) rfl ?_
  refine ⟨⟨x1, y1, a1, n1, k1, a1', n1', k1', l1, rfl, ?_, hbd1⟩, ?_⟩
  · refine LogAt.wide (L := w.heap.size + 1) (U := W2.heap.size) ?_ (by omega) (by simp <;> omega)
    refine HL1.out.blocks fun i h1 h2 => ?_
    refine Eq.trans (Below.block (((Below.refl W2.heap.size _).alloc (by simp) _).alloc (by simp) _) i h2) ?_
    iterate 4 refine (Below.heap_setCell _ _ _ i (by simp <;> omega)).trans ?_
    rfl
  · repeat (first | exact hA2 | refine Below.setCell ?_ (by simp <;> omega) _ | refine Below.alloc ?_ (by simp <;> omega) _)
end Go.Proofs.Ytdjffkiiglilnaa
