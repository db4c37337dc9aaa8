/- Whether something that is named was turned as often as can be. -/
import Derived.Test.YtnfegihemhidgaaIds
namespace Go.Proofs.Ytnfegihemhidgaa
open Go.RowKit

def oldB (os : List LObj) (i : Nat) : Bool := match os[i]? with | some o => decide (1000000 ≤ o.ver) | none => false
def wornB (os : List LObj) (l : List Nat) : Bool := l.any (oldB os)
theorem opIds_le (o : LOp) : (opIds o).length ≤ 3 := by
  have h1 : (opIds1 o).length ≤ 2 := by
    unfold opIds1
    split
    · simp
    · have := putI_le o.dir.toNat [o.id.toNat]; simp at this; omega
  unfold opIds
  split
  · split
    · have := putI_le o.dir2.toNat (opIds1 o); omega
    · omega
  · simp
theorem OwnInts.form {w : World} {B : Nat} {v : Value} {l : List Nat} (h : OwnInts w B v l) : ∃ a c, v = .slice a l.length c ∧ ∀ i, i < l.length → ∃ g k, a = some ⟨g, 0, none⟩ ∧ B ≤ g ∧ g < w.heap.size ∧ l[i]? = some k ∧ w.cell? ⟨g, i, none⟩ = some (.int .i64 (k : Nat)) := by
  by_cases hl : l = []
  · subst hl
    obtain ⟨a, c, rfl⟩ := h.nil
    exact ⟨a, c, rfl, fun i hi => by simp at hi⟩
  · obtain ⟨g, c, rfl, h1, h2, h3⟩ := h.get hl
    refine ⟨_, c, rfl, fun i hi => ?_⟩
    obtain ⟨k, hk, hc⟩ := h3 i hi
    exact ⟨g, k, rfl, h1, h2, hk, hc⟩

end Go.Proofs.Ytnfegihemhidgaa
