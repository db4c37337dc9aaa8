import Derived.Test.YtnfegihemhidgaaSlimI2
/- Lists that are made shorter: the program: what goes again. -/
namespace Go.Proofs.Ytnfegihemhidgaa
open Go.RowKit

theorem leans_cases (x : LOp) (id : Int) : ((x.kind != 5) = false ∧ (x.kind == 4) = false) ∨ ((x.kind != 5) = true ∧ (x.dir == id) = true) ∨ ((x.kind != 5) = true ∧ (x.dir == id) = false ∧ (x.kind == 4) = true ∧ (x.dir2 == id) = true) ∨ ((x.kind != 5) = true ∧ (x.dir == id) = false ∧ (x.kind == 4) = true ∧ (x.dir2 == id) = false) ∨ ((x.kind != 5) = true ∧ (x.dir == id) = false ∧ (x.kind == 4) = false) := by
  by_cases h5 : x.kind = 5
  · left; simp [h5]
  · have : (x.kind != 5) = true := by simpa using h5
    rw [this]
    cases (x.dir == id) <;> cases (x.kind == 4) <;> cases (x.dir2 == id) <;> simp
def GoEnd (g : Int) (e : Ending) : Prop := e = .returned (.tuple #[.int .i64 (if 0 ≤ g then g else 0), .bool (decide (0 ≤ g))])
theorem GoEnd.no {e : Ending} (h : e = .returned (.tuple #[.int .i64 0, .bool false])) : GoEnd (-1) e := by subst h; rfl
theorem GoEnd.yes {e : Ending} {j : Nat} (h : e = .returned (.tuple #[.int .i64 j, .bool true])) : GoEnd j e := by
  subst h
  unfold GoEnd
  have : (0 : Int) ≤ (j : Int) := by omega
  simp [this]
/-- What is found of the first that goes again. -/
def PairEnd (ops : List LOp) (e : Ending) : Prop :=
  (∃ i k : Nat, i < ops.length ∧ goesL ops i = (k : Int) ∧ firstPair ops = some i ∧ e = .returned (.tuple #[.agg #[.int .i64 i, .int .i64 k], .bool true])) ∨
  (firstPair ops = none ∧ e = .returned (.tuple #[.agg #[.int .i64 0, .int .i64 0], .bool false]))
end Go.Proofs.Ytnfegihemhidgaa
