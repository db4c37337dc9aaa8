/- Putting a name into a directory. -/
import Derived.Test.YtnfegihemhidgaaApp
namespace Go.Proofs.Ytnfegihemhidgaa
open Go.RowKit

theorem OwnEnts.of_heap {w w' : World} {B : Nat} {v : Value} {es : List LEnt} (hh : w'.heap = w.heap) (h : OwnEnts w B v es) : OwnEnts w' B v es := by
  unfold OwnEnts World.ownsRow at *; rw [hh]; exact h
theorem put_len {a : Nat} {l : List LEnt} {x : LEnt} (h : a = l.length) : a + 1 = (l ++ [x]).length := by simp [h]
theorem put_news {Wx w2 : World} {C g g1 n cap : Nat} {l : List LEnt} (hg : Wx.grownBy w2 (some g)) (hne : g1 ≠ g) (h : OwnEnts Wx C (.slice (some ⟨g1, 0, none⟩) n cap) l) : ∀ j u, (entCells l)[j]? = some u → w2.cell? ((⟨g1, 0, none⟩ : Addr).add j) = some u := by
  have h2 := OwnEnts.grown h hg (by simpa using hne)
  exact World.ownsRow.cells h2 rfl
def lessN (name : ByteArray) (e : LEnt) : Bool := Op.bytesLess e.name.toList name.toList
/-- Where a name goes. -/
def placeL (name : ByteArray) (es : List LEnt) : Nat := (es.takeWhile (lessN name)).length
def putL (x : LEnt) (es : List LEnt) : List LEnt := es.take (placeL x.name es) ++ [x] ++ es.drop (placeL x.name es)
theorem placeL_le (name : ByteArray) : ∀ es : List LEnt, placeL name es ≤ es.length
  | [] => Nat.le_refl _
  | e :: r => by
    unfold placeL
    rw [List.takeWhile_cons]
    split
    · have := placeL_le name r; simpa [placeL] using this
    · simp
theorem placeL_at {name : ByteArray} : ∀ {es : List LEnt} {k : Nat}, (∀ i, i < k → ∃ e, es[i]? = some e ∧ lessN name e = true) → (k = es.length ∨ ∃ e, es[k]? = some e ∧ lessN name e = false) → placeL name es = k
  | [], k, h, h' => by
    rcases h' with h' | ⟨e, he, _⟩
    · simpa [placeL] using h'.symm
    · simp at he
  | e :: r, 0, _, h' => by
    rcases h' with h' | ⟨x, hx, hl⟩
    · simp at h'
    · simp at hx; subst hx; simp [placeL, hl]
  | e :: r, k + 1, h, h' => by
    obtain ⟨x, hx, hl⟩ := h 0 (by omega)
    simp at hx; subst hx
    have ih := placeL_at (name := name) (es := r) (k := k) (fun i hi => by simpa using h (i + 1) (by omega)) (by simpa using h')
    simp only [placeL, List.takeWhile_cons, hl, if_true, List.length_cons] at ih ⊢
    rw [ih]

def PutEnd (w : World) (B g n : Nat) (x : LEnt) (es : List LEnt) (e : Ending) (w' : World) : Prop := ∃ g' cap', e = .returned (.slice (some ⟨g', 0, none⟩) (n + 1) cap') ∧ OwnEnts w' B (.slice (some ⟨g', 0, none⟩) (n + 1) cap') (putL x es) ∧ w.grownBy w' (some g) ∧ (g' = g ∨ w.heap.size ≤ g')
theorem put_end {w w1 w2 w3 : World} {B g g2 g3 n j cap2 cap3 : Nat} {x : LEnt} {es : List LEnt} {o : Obj} (hp : placeL x.name es = j) (hj : j ≤ n) (hG : w.grownBy w1 (some g)) (hz : w.heap.size + 2 ≤ w1.heap.size)
    (h2 : AppEnd (w1.alloc o).drew w2 B g g2 (j + 1) cap2 (es.take j ++ [x])) (h3 : AppEnd w2 w3 B g2 g3 (j + 1 + (n - j)) cap3 (es.take j ++ [x] ++ es.drop j)) :
    PutEnd w B g n x es (.returned (.slice (some ⟨g3, 0, none⟩) (j + 1 + (n - j)) cap3)) w3 := by
  have hnn : j + 1 + (n - j) = n + 1 := by omega
  have hz2 := h2.grown.size
  have hzx : (w1.alloc o).drew.heap.size = w1.heap.size + 1 := by simp
  have hgx : w1.grownBy (w1.alloc o).drew (some g) := ⟨rfl, rfl, rfl, by simp, fun k hk _ => (World.grownBy_alloc w1 o none).block k hk (by simp)⟩
  have hg2 : g2 = g ∨ w.heap.size ≤ g2 := by rcases h2.at_ with h | h <;> omega
  refine ⟨g3, cap3, by rw [hnn], ?_, ?_, ?_⟩
  · have := h3.own
    rw [hnn] at this
    unfold putL
    rw [hp]
    exact this
  · refine ((hG.trans hgx).trans h2.grown).andThen h3.grown fun k hk => ?_
    simp at hk
    subst hk
    rcases hg2 with h | h
    · exact .inr (by rw [h])
    · exact .inl h
  · rcases h3.at_ with h | h
    · rw [h]; exact hg2
    · right; omega

end Go.Proofs.Ytnfegihemhidgaa
