/- Marks laid into a tree and looked for again; a tree that is opened: contracts. -/
import Derived.Test.YtnfegihemhidgaaEq
import Derived.Deep.DeepCutAuto
import Derived.Laws.IdiomStrings
namespace Go.Proofs.Ytnfegihemhidgaa
open Go.RowKit

def dg (x : Nat) : UInt8 := UInt8.ofNat (48 + x % 10)
def digs : Nat → Nat → ByteArray → ByteArray
  | 0, _, s => s
  | f + 1, k, s => if 0 < k then digs f (k / 10) (⟨#[dg k]⟩ ++ s) else s
def mkT (k : Nat) : ByteArray := ⟨#[109]⟩ ++ digs k k ⟨#[]⟩

/-- What a tree that is opened holds, cell by cell. -/
def openF (i : Nat) : Value := if i = 0 then .int .i64 2 else if i = 1 then .int .i64 1 else if i % 4 = 2 then .string ⟨#[]⟩ else if i % 4 = 3 then .slice none 0 0 else .int .i64 0
def zs128 : Array Value := madeCells #[.int .i64 0, .int .i64 0, .string ByteArray.empty, .slice none 0 0] (32 * 4)
theorem make128 (w : World) : (Instr.makeSlice 37 (.int .i64 32) (.int .i64 32)).run Try.prog w = .ok (.slice (some ⟨w.heap.size, 0, none⟩) 32 32) (w.alloc (.cells zs128 68)) := by
  have h := run_make_many 37 68 _ 4 56 Try.underlying37 info34 32 (by omega) (by omega) w
  have e : ((32 : Nat) : Int) = 32 := by omega
  rw [e] at h
  exact h
theorem zs128_at (i : Nat) (hi : i < 128) : zs128[i]? = some (if i % 4 = 2 then .string ⟨#[]⟩ else if i % 4 = 3 then .slice none 0 0 else .int .i64 0) := by
  have h4 : i % 4 < 4 := Nat.mod_lt _ (by omega)
  unfold zs128 madeCells
  simp [hi]
  rcases (show i % 4 = 0 ∨ i % 4 = 1 ∨ i % 4 = 2 ∨ i % 4 = 3 by omega) with h | h | h | h <;> simp [h] <;> rfl
theorem row128 (w : World) : (w.alloc (.cells zs128 68)).rowIs w.heap.size 68 128 (fun i => if i % 4 = 2 then .string ⟨#[]⟩ else if i % 4 = 3 then .slice none 0 0 else .int .i64 0) := by
  have h := World.rowIs_alloc w zs128 68 (fun i => if i % 4 = 2 then .string ⟨#[]⟩ else if i % 4 = 3 then .slice none 0 0 else .int .i64 0) (fun i hi => zs128_at i (by unfold zs128 at hi; rw [size_madeCells] at hi; omega))
  have e : zs128.size = 128 := by unfold zs128; rw [size_madeCells]
  rwa [e] at h

def OpenEnd (w : World) (e : Ending) (w' : World) : Prop := ∃ b, e = .returned (.agg #[.slice (some ⟨b, 0, none⟩) 32 32]) ∧ w.heap.size ≤ b ∧ w'.rowIs b 68 128 openF

def openA : Array Value := (((zs128.setIfInBounds 0 (Value.int IntKind.i64 2)).setIfInBounds 1 (Value.int IntKind.i64 1)).setIfInBounds 2 (Value.string ⟨#[]⟩)).setIfInBounds 3 (Value.slice none 0 0)
theorem openA_row (w : World) : (w.alloc (.cells openA 68)).rowIs w.heap.size 68 128 openF := by
  have e0 : zs128.size = 128 := by unfold zs128; rw [size_madeCells]
  have e : openA.size = 128 := by unfold openA; simp [e0]
  have h := World.rowIs_alloc w openA 68 openF (fun i hi => by
    rw [e] at hi
    have hz := zs128_at i hi
    unfold openA openF
    rw [Array.getElem?_setIfInBounds, Array.getElem?_setIfInBounds, Array.getElem?_setIfInBounds, Array.getElem?_setIfInBounds]
    simp only [Array.size_setIfInBounds, e0]
    by_cases h3 : i = 3
    · subst h3; rfl
    by_cases h2 : i = 2
    · subst h2; rfl
    by_cases h1 : i = 1
    · subst h1; rfl
    by_cases h0 : i = 0
    · subst h0; rfl
    rw [if_neg (fun h => h3 h.symm), if_neg (fun h => h2 h.symm), if_neg (fun h => h1 h.symm), if_neg (fun h => h0 h.symm), hz, if_neg h0, if_neg h1])
  rwa [e] at h

/-- A tree of which no directory has a name, cell by cell. -/
def Bare (f : Nat → Value) : Prop := ∀ i, i < 32 → (∃ k v s, f (i * 4) = .int .i64 k ∧ f (i * 4 + 1) = .int .i64 v ∧ f (i * 4 + 2) = .string s) ∧ f (i * 4 + 3) = .slice none 0 0
/-- The marks on the first j objects. -/
def Marked (f : Nat → Value) (j : Nat) : Prop := ∀ i, i < j → f (i * 4) = .int .i64 ((1 + 3 * i : Nat) : Int) ∧ f (i * 4 + 1) = .int .i64 ((2 + 3 * i : Nat) : Int) ∧ f (i * 4 + 2) = .string (mkT (3 + 3 * i))
theorem bare_open : Bare openF := by
  intro i hi
  refine ⟨?_, ?_⟩
  · by_cases h : i = 0
    · subst h; exact ⟨2, 1, ⟨#[]⟩, rfl, rfl, rfl⟩
    · exact ⟨0, 0, ⟨#[]⟩, by unfold openF; rw [if_neg (by omega), if_neg (by omega), if_neg (by omega), if_neg (by omega)], by unfold openF; rw [if_neg (by omega), if_neg (by omega), if_neg (by omega), if_neg (by omega)], by unfold openF; rw [if_neg (by omega), if_neg (by omega), if_pos (by omega)]⟩
  · unfold openF; rw [if_neg (by omega), if_neg (by omega), if_neg (by omega), if_pos (by omega)]

/-- All blocks that were there but one are as they were. -/
structure But (b : Nat) (w w' : World) : Prop where
  below : Below b w w'
  block : ∀ k, k ≠ b → k < w.heap.size → w'.heap[k]? = w.heap[k]?
theorem But.cell {b : Nat} {w w' : World} (h : But b w w') {q : Addr} (h1 : q.block ≠ b) (h2 : q.block < w.heap.size) : w'.cell? q = w.cell? q := World.cell?_of_block (w := w) (h.block q.block h1 h2)
theorem But.refl (b : Nat) (w : World) : But b w w := ⟨Below.refl _ _, fun _ _ _ => rfl⟩
theorem But.trans {b : Nat} {w w1 w2 : World} (h : But b w w1) (k : But b w1 w2) : But b w w2 :=
  ⟨h.below.trans k.below, fun i h1 h2 => (k.block i h1 (by have := h.below.size; omega)).trans (h.block i h1 h2)⟩
theorem But.next {b : Nat} {w w1 w2 : World} (h : But b w w1) (hb : b ≤ w1.heap.size) (k : Below w1.heap.size w1 w2) : But b w w2 :=
  h.trans ⟨k.mono hb, fun i _ h2 => k.block i h2⟩
theorem But.set {b : Nat} {w w1 : World} (h : But b w w1) (o : Nat) (v : Value) : But b w (w1.setCell ⟨b, o, none⟩ v) :=
  h.trans ⟨(Below.refl _ _).setCell (by exact Nat.le_refl _) _, fun i h1 _ => Below.heap_setCell w1 ⟨b, o, none⟩ v i h1⟩

def openT : List LObj := (List.range 32).map fun i => if i = 0 then ⟨2, 1, ⟨#[]⟩, []⟩ else ⟨0, 0, ⟨#[]⟩, []⟩
theorem open_objs_at {w : World} {b : Nat} (h : w.rowIs b 68 128 openF) : ObjsAt w 0 w.heap.size (some ⟨b, 0, none⟩) 32 openT := by
  refine ⟨by simp [openT], by unfold maxLen; omega, fun _ => ⟨b, 0, rfl, Nat.zero_le _, h.lt, fun i hi => ?_⟩⟩
  refine ⟨if i = 0 then ⟨2, 1, ⟨#[]⟩, []⟩ else ⟨0, 0, ⟨#[]⟩, []⟩, none, 0, 0, ?_, ?_, ?_, ?_, ?_, ?_, ?_⟩
  · simp [openT, hi]
  · by_cases e : i = 0
    · rw [if_pos e]; exact Nat.zero_le _
    · rw [if_neg e]; exact Nat.zero_le _
  · rw [Nat.zero_add, h.cell (by omega)]
    by_cases e : i = 0
    · subst e; rfl
    · unfold openF; rw [if_neg (by omega), if_neg (by omega), if_neg (by omega), if_neg (by omega), if_neg e]
  · rw [Nat.zero_add, h.cell (by omega)]
    by_cases e : i = 0
    · subst e; rfl
    · unfold openF; rw [if_neg (by omega), if_neg (by omega), if_neg (by omega), if_neg (by omega), if_neg e]
  · rw [Nat.zero_add, h.cell (by omega)]
    by_cases e : i = 0
    · subst e; rfl
    · unfold openF; rw [if_neg (by omega), if_neg (by omega), if_pos (by omega), if_neg e]
  · rw [Nat.zero_add, h.cell (by omega)]
    unfold openF; rw [if_neg (by omega), if_neg (by omega), if_neg (by omega), if_pos (by omega)]
  · by_cases e : i = 0
    · rw [if_pos e]; exact ⟨rfl, by simp, fun h => absurd rfl h⟩
    · rw [if_neg e]; exact ⟨rfl, by simp, fun h => absurd rfl h⟩
end Go.Proofs.Ytnfegihemhidgaa
