import Derived.Test.YtkllejaamnojpaaSlimI7
import Derived.Deep.RegionHeld
import Derived.Deep.QuietTactic
import Derived.BigQuiet
/- Lists that are made shorter: the program: what moves on. -/
namespace Go.Proofs.Ytkllejaamnojpaa
open Go.RowKit

structure BoxAt (w : World) (q : Nat) (o : LOp) : Prop where
  c0 : w.cell? ⟨q, 0, none⟩ = some (.int .i64 o.kind)
  c1 : w.cell? ⟨q, 1, none⟩ = some (.int .i64 o.dir)
  c2 : w.cell? ⟨q, 2, none⟩ = some (.string o.name)
  c3 : w.cell? ⟨q, 3, none⟩ = some (.int .i64 o.dir2)
  c4 : w.cell? ⟨q, 4, none⟩ = some (.string o.name2)
  c5 : w.cell? ⟨q, 5, none⟩ = some (.int .i64 o.id)
  c6 : w.cell? ⟨q, 6, none⟩ = some (.string o.text)
theorem BoxAt.of {w w' : World} {q : Nat} {o : LOp} (h : BoxAt w q o) (e : w'.heap[q]? = w.heap[q]?) : BoxAt w' q o := by
  have hc : ∀ j, w'.cell? ⟨q, j, none⟩ = w.cell? ⟨q, j, none⟩ := fun j => World.cell?_of_block (w := w) e
  exact ⟨by rw [hc]; exact h.c0, by rw [hc]; exact h.c1, by rw [hc]; exact h.c2, by rw [hc]; exact h.c3, by rw [hc]; exact h.c4, by rw [hc]; exact h.c5, by rw [hc]; exact h.c6⟩
theorem BoxAt.new (w : World) (o : LOp) : BoxAt (w.alloc (.cells #[.int .i64 o.kind, .int .i64 o.dir, .string o.name, .int .i64 o.dir2, .string o.name2, .int .i64 o.id, .string o.text] 30)) w.heap.size o :=
  ⟨by simp [go_sem], by simp [go_sem], by simp [go_sem], by simp [go_sem], by simp [go_sem], by simp [go_sem], by simp [go_sem]⟩
def A0 (o : LOp) : Array Value := #[.int .i64 o.kind, .int .i64 o.dir, .string o.name, .int .i64 o.dir2, .string o.name2, .int .i64 o.id, .string o.text]

theorem makes_b {k : Int} {r : Bool} (h : ((k == 1) || (k == 2)) = r) (w : World) : Calls Try.prog 153 #[.int .i64 k] w fun e w' => e = .returned (.bool r) ∧ w' = w := by
  have := makes_any k w
  rw [h] at this
  exact this
theorem moves_b {k : Int} {r : Bool} (h : (k == 4) = r) (w : World) : Calls Try.prog 129 #[.int .i64 k] w fun e w' => e = .returned (.bool r) ∧ w' = w := by
  have := moves_any k w
  rw [h] at this
  exact this

set_option maxHeartbeats 2000000 in
theorem movesOn_a1 (a b : LOp) (w : World) (hm : ((a.kind == 1) || (a.kind == 2)) = true) (b4 : (b.kind == 4) = false) :
    Calls Try.prog 121 #[.agg a.val, .agg b.val] w fun e w' => e = .returned (.bool false) ∧ Below w.heap.size w w' := by
  simp only [LOp.val]
  have hBB : Below w.heap.size w ((w.alloc (.cells #[.int .i64 a.kind, .int .i64 a.dir, .string a.name, .int .i64 a.dir2, .string a.name2, .int .i64 a.id, .string a.text] 30)).alloc (.cells #[.int .i64 b.kind, .int .i64 b.dir, .string b.name, .int .i64 b.dir2, .string b.name2, .int .i64 b.id, .string b.text] 30)) := ((Below.refl _ _).alloc (Nat.le_refl _) _).alloc (by simp) _
  go_enter Try.func121, Try.ntmps121
  go_upto_region 2 with fail
  go_quiet (first | (go_at_call 153; exact Calls.quiet_of_same (makes_b hm _)) | (go_at_call_of 129 (Value.int IntKind.i64 b.kind); exact Calls.quiet_of_same (moves_b b4 _)))
  go_wp2_with fail
  go_ret
  exact ⟨rfl, below_drewN hBB _⟩

set_option maxHeartbeats 2000000 in
theorem movesOn_a2 (a b : LOp) (w : World) (hm : ((a.kind == 1) || (a.kind == 2)) = true) (b4 : (b.kind == 4) = true) (hid : (a.id == b.id) = false) :
    Calls Try.prog 121 #[.agg a.val, .agg b.val] w fun e w' => e = .returned (.bool false) ∧ Below w.heap.size w w' := by
  simp only [LOp.val]
  have hBB : Below w.heap.size w ((w.alloc (.cells #[.int .i64 a.kind, .int .i64 a.dir, .string a.name, .int .i64 a.dir2, .string a.name2, .int .i64 a.id, .string a.text] 30)).alloc (.cells #[.int .i64 b.kind, .int .i64 b.dir, .string b.name, .int .i64 b.dir2, .string b.name2, .int .i64 b.id, .string b.text] 30)) := ((Below.refl _ _).alloc (Nat.le_refl _) _).alloc (by simp) _
  go_enter Try.func121, Try.ntmps121
  go_upto_region 2 with fail
  go_quiet (first | (go_at_call 153; exact Calls.quiet_of_same (makes_b hm _)) | (go_at_call_of 129 (Value.int IntKind.i64 b.kind); exact Calls.quiet_of_same (moves_b b4 _)))
  go_wp2_with fail
  go_ret
  exact ⟨rfl, below_drewN hBB _⟩

set_option maxHeartbeats 2000000 in
theorem movesOn_b0 (a b : LOp) (w : World) (hm : ((a.kind == 1) || (a.kind == 2)) = false) (k4 : (a.kind == 4) = false) :
    Calls Try.prog 121 #[.agg a.val, .agg b.val] w fun e w' => e = .returned (.bool false) ∧ Below w.heap.size w w' := by
  simp only [LOp.val]
  have hBB : Below w.heap.size w ((w.alloc (.cells #[.int .i64 a.kind, .int .i64 a.dir, .string a.name, .int .i64 a.dir2, .string a.name2, .int .i64 a.id, .string a.text] 30)).alloc (.cells #[.int .i64 b.kind, .int .i64 b.dir, .string b.name, .int .i64 b.dir2, .string b.name2, .int .i64 b.id, .string b.text] 30)) := ((Below.refl _ _).alloc (Nat.le_refl _) _).alloc (by simp) _
  go_enter Try.func121, Try.ntmps121
  go_upto_region 2 with fail
  go_quiet (first | (go_at_call 153; exact Calls.quiet_of_same (makes_b hm _)) | (go_at_call_of 129 (Value.int IntKind.i64 a.kind); exact Calls.quiet_of_same (moves_b k4 _)))
  go_wp2_with fail
  go_ret
  exact ⟨rfl, below_drewN hBB _⟩

set_option maxHeartbeats 2000000 in
theorem movesOn_b1 (a b : LOp) (w : World) (hm : ((a.kind == 1) || (a.kind == 2)) = false) (k4 : (a.kind == 4) = true) (b4 : (b.kind == 4) = false) :
    Calls Try.prog 121 #[.agg a.val, .agg b.val] w fun e w' => e = .returned (.bool false) ∧ Below w.heap.size w w' := by
  simp only [LOp.val]
  have hBB : Below w.heap.size w ((w.alloc (.cells #[.int .i64 a.kind, .int .i64 a.dir, .string a.name, .int .i64 a.dir2, .string a.name2, .int .i64 a.id, .string a.text] 30)).alloc (.cells #[.int .i64 b.kind, .int .i64 b.dir, .string b.name, .int .i64 b.dir2, .string b.name2, .int .i64 b.id, .string b.text] 30)) := ((Below.refl _ _).alloc (Nat.le_refl _) _).alloc (by simp) _
  go_enter Try.func121, Try.ntmps121
  go_upto_region 2 with fail
  go_quiet (first | (go_at_call 153; exact Calls.quiet_of_same (makes_b hm _)) | (go_at_call_of 129 (Value.int IntKind.i64 a.kind); exact Calls.quiet_of_same (moves_b k4 _)) | (go_at_call_of 129 (Value.int IntKind.i64 b.kind); exact Calls.quiet_of_same (moves_b b4 _)))
  go_wp2_with fail
  go_ret
  exact ⟨rfl, below_drewN hBB _⟩

set_option maxHeartbeats 2000000 in
theorem movesOn_b2 (a b : LOp) (w : World) (hm : ((a.kind == 1) || (a.kind == 2)) = false) (k4 : (a.kind == 4) = true) (b4 : (b.kind == 4) = true) (hid : (a.id == b.id) = false) :
    Calls Try.prog 121 #[.agg a.val, .agg b.val] w fun e w' => e = .returned (.bool false) ∧ Below w.heap.size w w' := by
  simp only [LOp.val]
  have hBB : Below w.heap.size w ((w.alloc (.cells #[.int .i64 a.kind, .int .i64 a.dir, .string a.name, .int .i64 a.dir2, .string a.name2, .int .i64 a.id, .string a.text] 30)).alloc (.cells #[.int .i64 b.kind, .int .i64 b.dir, .string b.name, .int .i64 b.dir2, .string b.name2, .int .i64 b.id, .string b.text] 30)) := ((Below.refl _ _).alloc (Nat.le_refl _) _).alloc (by simp) _
  go_enter Try.func121, Try.ntmps121
  go_upto_region 2 with fail
  go_quiet (first | (go_at_call 153; exact Calls.quiet_of_same (makes_b hm _)) | (go_at_call_of 129 (Value.int IntKind.i64 a.kind); exact Calls.quiet_of_same (moves_b k4 _)) | (go_at_call_of 129 (Value.int IntKind.i64 b.kind); exact Calls.quiet_of_same (moves_b b4 _)))
  go_wp2_with fail
  go_ret
  exact ⟨rfl, below_drewN hBB _⟩
end Go.Proofs.Ytkllejaamnojpaa
