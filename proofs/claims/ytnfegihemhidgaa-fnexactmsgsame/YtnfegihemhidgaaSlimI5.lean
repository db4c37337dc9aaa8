import Derived.Test.YtnfegihemhidgaaSlimI4
/- Lists that are made shorter: the program: what goes again, one at a time. -/
namespace Go.Proofs.Ytnfegihemhidgaa
open Go.RowKit

theorem pair_same (ops : List LOp) (i k : Nat) (id : Int) : keepTo (fun j => !goesPair ops id i k j) ops ops.length = without ops id i k := by
  unfold without
  refine keepTo_congr fun j _ _ => ?_
  unfold goesPair
  have h1 : decide (i ≤ j) = !decide (j < i) := by
    by_cases h : j < i
    · simp [h]
    · simp [h]; omega
  have h2 : decide (j ≤ k) = !decide (k < j) := by
    by_cases h : k < j
    · simp [h]
    · simp [h]; omega
  rw [h1, h2]
  simp [bne]
/-- One step of a rule, or the list as it is. -/
def orSame (f : List LOp → Option (List LOp)) (ops : List LOp) : List LOp := (f ops).getD ops
theorem orSame_pair {ops : List LOp} {i k : Nat} {o : LOp} (hf : firstPair ops = some i) (hg : goesL ops i = (k : Int)) (ho : ops[i]? = some o) : orSame pairStep ops = without ops o.id i k := by
  unfold orSame pairStep
  rw [hf, Option.map_some, hg, idAt_of ho]
  rfl
end Go.Proofs.Ytnfegihemhidgaa
