import Derived.Test.YtnfegihemhidgaaSlimS4
/- Lists that are made shorter: the specification, whole. -/
namespace Go.Proofs.Ytnfegihemhidgaa
open Go.RowKit

theorem OwnOps.base {w : World} {B B' : Nat} {v : Value} {l : List LOp} (h : OwnOps w B v l) (hB : B' ≤ B) : OwnOps w B' v l :=
  ⟨h.1, by
    rcases h.2 with h | ⟨g, cap, cu, h1, h2, h3⟩
    · exact .inl h
    · exact .inr ⟨g, cap, cu, h1, by omega, h3⟩⟩
theorem slimStep_none {cur : List LOp} (h : (stepL cur).length = cur.length) : slimStep cur = none := by
  unfold slimStep; rw [if_neg (by omega)]
theorem slimStep_some {cur : List LOp} (h : (stepL cur).length ≠ cur.length) : slimStep cur = some (stepL cur) := by
  unfold slimStep; rw [if_pos (by have := stepL_le cur; omega)]

def ifOk (f : List LOp → List LOp) (ops : List LOp) : List LOp := if formsB ops then f ops else []
theorem formsB_len {ops : List LOp} (h : formsB ops = true) : ops.length ≤ 60 := by
  unfold formsB at h; simp at h; exact h.1
theorem ifOk_no {f : List LOp → List LOp} {ops : List LOp} (h : formsB ops = false) : ifOk f ops = [] := by unfold ifOk; rw [h]; rfl
theorem ifOk_yes {f : List LOp → List LOp} {ops : List LOp} (h : formsB ops = true) : ifOk f ops = f ops := by unfold ifOk; rw [h]; rfl
theorem SlimEnd.later {w w1 w' : World} {r : List LOp} {e : Ending} (h : SlimEnd w1 r e w') (hb : Below w.heap.size w w1) : SlimEnd w r e w' := by
  obtain ⟨⟨v, rfl, ho⟩, hb'⟩ := h
  exact ⟨⟨v, rfl, ho.base hb.size⟩, hb.trans (hb'.mono hb.size)⟩

end Go.Proofs.Ytnfegihemhidgaa
