/- Lists of numbers as answers: compared, marked, held. -/
import Derived.Test.YtnfegihemhidgaaOpSet
namespace Go.Proofs.Ytnfegihemhidgaa
open Go.RowKit

/-- A list of numbers in a row of its own. -/
def IntRow (w : World) (B : Nat) (a : Option Addr) (n g cap : Nat) (f : Nat → Value) : Prop := n ≠ 0 → a = some ⟨g, 0, none⟩ ∧ B ≤ g ∧ n ≤ cap ∧ w.rowIs g 3 cap f
theorem OwnInts.row {w : World} {B : Nat} {v : Value} {l : List Nat} (h : OwnInts w B v l) : ∃ a c g cap f, v = .slice a l.length c ∧ B ≤ g ∧ IntRow w B a l.length g cap f ∧ ∀ i k, l[i]? = some k → f i = .int .i64 (k : Nat) := by
  rcases h.2 with ⟨rfl, h0⟩ | ⟨g, cap, cur, rfl, hb, hg, hnc, hcm, hcs, htake⟩
  · exact ⟨none, 0, B, 0, fun _ => default, by rw [h0], Nat.le_refl _, fun hn => absurd h0 hn, fun i k hk => by have := (List.getElem?_eq_some_iff.1 hk).1; omega⟩
  · refine ⟨_, cap, g, cap, fun i => cur[i]?.getD default, rfl, hb, fun _ => ⟨rfl, hb, hnc, ⟨cur, hg, by omega, fun i hi => by simp [Array.getElem?_eq_getElem (show i < cur.size by omega)]⟩⟩, fun i k hk => ?_⟩
    have hlt := (List.getElem?_eq_some_iff.1 hk).1
    have h1 : (cur.toList.take (l.length * 1))[i]? = some (.int .i64 (k : Nat)) := by rw [htake, List.getElem?_map, hk]; rfl
    rw [List.getElem?_take_of_lt (by omega)] at h1
    simp at h1
    simp [h1]
theorem IntRow.kept {w w' : World} {B : Nat} {a : Option Addr} {n g cap : Nat} {f : Nat → Value} (h : IntRow w B a n g cap f) (hb : ∀ k, k = g → k < w.heap.size → w'.heap[k]? = w.heap[k]?) : IntRow w' B a n g cap f := fun hn => by
  obtain ⟨h1, h2, h3, h4⟩ := h hn
  exact ⟨h1, h2, h3, h4.of_block (hb g rfl h4.lt)⟩

end Go.Proofs.Ytnfegihemhidgaa
