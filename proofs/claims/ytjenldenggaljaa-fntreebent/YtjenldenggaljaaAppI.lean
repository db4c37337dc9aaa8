/- append of numbers onto numbers that the call owns; putting a number among others. -/
import Derived.Test.YtjenldenggaljaaCopy
namespace Go.Proofs.Ytjenldenggaljaa
open Go.RowKit

def intCells (l : List Nat) : List Value := l.map fun i : Nat => Value.int .i64 i
structure AppIEnd (w w' : World) (B g g' n cap' : Nat) (l : List Nat) : Prop where
  own : OwnInts w' B (.slice (some ⟨g', 0, none⟩) n cap') l
  grown : w.grownBy w' (some g)
  at_ : g' = g ∨ g' = w.heap.size
  lt : g' < w'.heap.size
theorem run_app_ints (w : World) (B g n cap : Nat) (l news : List Nat) (ty : TypeId) (hn : n = l.length) (hown : OwnInts w B (.slice (some ⟨g, 0, none⟩) n cap) l) (ad : Addr) (m c : Nat) (hm : m = news.length)
    (hnews : ∀ j u, (intCells news)[j]? = some u → w.cell? (ad.add j) = some u) (hbd : n + m ≤ 4000000) (hB : B ≤ w.heap.size) :
    ∃ g' cap' w', (Builtin.append_ #[68, 68] ty #[.slice (some ⟨g, 0, none⟩) n cap, .slice (some ad) m c]).run Try.prog w = .ok (.slice (some ⟨g', 0, none⟩) (n + m) cap') w' ∧ AppIEnd w w' B g g' (n + m) cap' (l ++ news) := by
  obtain ⟨i0, hi, hz0, hz1, hz2⟩ := info_parts infoI
  subst hn hm
  obtain ⟨v', w', hr, h2, h3, h4, h5⟩ := run_append_own_at (P := Try.prog) w B 68 ty 3 i0 _ 1 8 Try.underlying68 hi hz0 hz1 hz2 rfl (by decide) _ _ _ hown ad news.length c (intCells news) (by simp [intCells]) hnews (fun u hu => by simp [intCells] at hu; obtain ⟨_, _, rfl⟩ := hu; rfl) (by unfold maxLen; omega) (by omega) hB
  have h2' := h2
  rcases h2.2 with ⟨hv, _⟩ | ⟨g', cap', cur, rfl, hb, hg, _⟩
  · have := (h4.1 hv).1; cases this
  · refine ⟨g', cap', w', hr, ⟨?_, h3, ?_, (Array.getElem?_eq_some_iff.1 hg).1⟩⟩
    · unfold OwnInts; rw [List.map_append, List.length_append]; exact h2'
    · simpa [Value.ownBlock] using h5
theorem wpList_app_ints (w : World) {ops : Array Oper} {rest : List Oper} {o : Oper} {a : Act} {Q : Exit → Act → World → Prop} (hgd : o.guard = none) (s x : Operand)
    (ho : o.op = .call { callee := .builtin .append, args := #[s, x], argTypes := #[68, 68] }) (B g n cap : Nat) (l news : List Nat) (hn : n = l.length) (hown : OwnInts w B (.slice (some ⟨g, 0, none⟩) n cap) l) (ad : Addr) (m c : Nat) (hm : m = news.length)
    (hs : a.eval s = .slice (some ⟨g, 0, none⟩) n cap) (hx : a.eval x = .slice (some ad) m c)
    (hnews : ∀ j u, (intCells news)[j]? = some u → w.cell? (ad.add j) = some u) (hbd : n + m ≤ 4000000) (hB : B ≤ w.heap.size)
    (h : ∀ g' cap' w', AppIEnd w w' B g g' (n + m) cap' (l ++ news) → wpList Try.prog ops Q rest (a.put o.dst (.slice (some ⟨g', 0, none⟩) (n + m) cap')) w') : wpList Try.prog ops Q (o :: rest) a w := by
  obtain ⟨g', cap', w', hr, h2⟩ := run_app_ints w B g n cap l news o.type hn hown ad m c hm hnews hbd hB
  refine wpList_plain hgd fun K hK => ?_
  unfold Oper.wp execOp
  simp only [ho, resolve, invoke, builtin, Sem.run_bind, Sem.run_pure, Result.andThen_ok, List.map_toArray, List.map_cons, List.map_nil, hs, hx, hr]
  exact hK _ _ (h g' cap' w' h2)
theorem OwnInts.cut {w : World} {B g n cap k : Nat} {l : List Nat} (h : OwnInts w B (.slice (some ⟨g, 0, none⟩) n cap) l) (hn : n = l.length) (hk : k ≤ n) : OwnInts w B (.slice (some ⟨g, 0, none⟩) k cap) (l.take k) := by
  subst hn
  have hl : (l.take k).length = k := by simp; omega
  refine ⟨by simp, .inr ?_⟩
  rcases h.2 with ⟨h', _⟩ | ⟨g', cap', cur, h', hb, hg, hnc, hcm, hcs, htake⟩
  · simp at h'
  · simp only [Value.slice.injEq, Option.some.injEq, Addr.mk.injEq, and_true, true_and] at h'
    obtain ⟨rfl, rfl⟩ := h'
    refine ⟨g, cap, cur, by rw [hl], hb, hg, by omega, hcm, hcs, ?_⟩
    have e2 : cur.toList.take (k * 1) = (cur.toList.take (l.length * 1)).take k := by rw [List.take_take]; congr 1; omega
    rw [hl, e2, htake, List.map_take]
theorem OwnInts.rest {w : World} {B g n cap k : Nat} {l : List Nat} (h : OwnInts w B (.slice (some ⟨g, 0, none⟩) n cap) l) (hn : n = l.length) : ∀ j u, (intCells (l.drop k))[j]? = some u → w.cell? ((⟨g, k, none⟩ : Addr).add j) = some u := by
  intro j u hu
  subst hn
  have h1 : (intCells l)[k + j]? = some u := by simpa [intCells] using hu
  have hj : k + j < l.length * 1 := by
    have := (List.getElem?_eq_some_iff.1 h1).1
    simpa [intCells] using this
  have h2 := World.ownsRow.cellAt h (k + j) hj
  have hadd : (⟨g, k, none⟩ : Addr).add j = ⟨g, k + j, none⟩ := by unfold Addr.add; split <;> simp_all
  rw [hadd, h2]; exact h1
theorem OwnInts.empty (w : World) (B g : Nat) (hg : w.heap.size = g) (hB : B ≤ w.heap.size) : OwnInts (w.alloc (Obj.cells #[] 3)) B (.slice (some ⟨g, 0, none⟩) 0 0) [] := by
  subst hg
  simpa [OwnInts] using World.ownsRow_lit (base := B) (e := 3) (size := 1) w #[] 0 hB (by simp [maxLen]) rfl
theorem OwnInts.grown {w w' : World} {B g n cap : Nat} {l : List Nat} {row : Option Nat} (h : OwnInts w B (.slice (some ⟨g, 0, none⟩) n cap) l) (hg : w.grownBy w' row) (hne : some g ≠ row) : OwnInts w' B (.slice (some ⟨g, 0, none⟩) n cap) l :=
  World.ownsRow.kept h hg (.inr (by simpa [Value.ownBlock] using hne))

/-- Where a number goes among others; the list with it. -/
def placeI (x : Nat) (l : List Nat) : Nat := (l.takeWhile fun y => decide (y < x)).length
def putI (x : Nat) (l : List Nat) : List Nat := if l[placeI x l]? = some x then l else l.take (placeI x l) ++ [x] ++ l.drop (placeI x l)
theorem placeI_at {x : Nat} : ∀ {l : List Nat} {k : Nat}, (∀ i, i < k → ∃ e, l[i]? = some e ∧ e < x) → (k = l.length ∨ ∃ e, l[k]? = some e ∧ ¬ e < x) → placeI x l = k
  | [], k, h, h' => by
    rcases h' with h' | ⟨e, he, _⟩
    · simpa [placeI] using h'.symm
    · simp at he
  | e :: r, 0, _, h' => by
    rcases h' with h' | ⟨y, hy, hl⟩
    · simp at h'
    · simp at hy; subst hy; simp [placeI, hl]
  | e :: r, k + 1, h, h' => by
    obtain ⟨y, hy, hl⟩ := h 0 (by omega)
    simp at hy; subst hy
    have ih := placeI_at (x := x) (l := r) (k := k) (fun i hi => by simpa using h (i + 1) (by omega)) (by simpa using h')
    simp only [placeI, List.takeWhile_cons, hl, decide_true, if_true, List.length_cons] at ih ⊢
    rw [ih]
end Go.Proofs.Ytjenldenggaljaa
