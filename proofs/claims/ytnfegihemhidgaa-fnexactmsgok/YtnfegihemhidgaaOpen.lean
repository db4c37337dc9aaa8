/- A tree that came in as an argument, read as data: its objects and their names as lists. -/
import Derived.Test.YtnfegihemhidgaaMem
import Derived.Deep.SlicePairs
import Derived.Lib.SmallJoins
namespace Go.Proofs.Ytnfegihemhidgaa
open Go.RowKit Go.ChangeShapes Go.WideShapes

theorem list_of {α : Type} {n : Nat} {p : Nat → α → Prop} (h : ∀ i, i < n → ∃ x, p i x) : ∃ l : List α, l.length = n ∧ ∀ i, i < n → ∃ x, l[i]? = some x ∧ p i x := by
  induction n with
  | zero => exact ⟨[], rfl, fun i hi => by omega⟩
  | succ n ih =>
    obtain ⟨l, hl, hp⟩ := ih (fun i hi => h i (by omega))
    obtain ⟨x, hx⟩ := h n (by omega)
    refine ⟨l ++ [x], by simp [hl], fun i hi => ?_⟩
    by_cases e : i = n
    · subst e
      exact ⟨x, by rw [List.getElem?_append_right (by omega)]; simp [hl], hx⟩
    · obtain ⟨y, hy, hq⟩ := hp i (by omega)
      exact ⟨y, by rw [List.getElem?_append_left (by omega)]; exact hy, hq⟩

theorem cell_lt {w : World} {p : Addr} {v : Value} (h : w.cell? p = some v) : p.block < w.heap.size := by
  apply Classical.byContradiction
  intro hn
  unfold World.cell? at h
  rw [Array.getElem?_eq_none (by omega)] at h
  simp at h

theorem addr_add (b off k : Nat) : (⟨b, off, none⟩ : Addr).add k = ⟨b, off + k, none⟩ := by
  unfold Addr.add
  by_cases h : k = 0 <;> simp [h]
theorem list4 {α : Type} {l : List α} (h : l.length = 4) : ∃ a b c d, l = [a, b, c, d] := by
  match l, h with
  | [a, b, c, d], _ => exact ⟨a, b, c, d, rfl⟩
theorem array1 {α : Type} {l : Array α} (h : l.size = 1) : ∃ a, l = #[a] := by
  obtain ⟨l⟩ := l
  match l, h with
  | [a], _ => exact ⟨a, rfl⟩

section
variable {H : Type} {enc : TypeId × Value → H} {w : World} {spare : Nat → Bool} {held : Bool}

theorem open_ents {fuel : Nat} {v : Value} {x : DataW H × List MemPlace} (h : DataW.trod enc Try.prog w 0 spare held fuel 93 [v] = some x) :
    ∃ a n c es, v = .slice a n c ∧ EntsAt w 0 w.heap.size a n es := by
  rcases Go.Deep.open_slice_pairs Try.underlying93 Try.underlying119 (by kernel_rfl) rfl rfl (by kernel_rfl) (by kernel_rfl) h with ⟨hcs, _⟩ | ⟨a, len, cap, m, n, V0, V1, D0, D1, P0, P1, hcs, _, hl, hm, hmm, _, hx⟩
  · simp at hcs
    exact ⟨none, 0, 0, [], hcs, rfl, by simp, fun h => absurd rfl h⟩
  · simp at hcs
    have hlm : len ≤ m := by rw [hmm]; split <;> omega
    obtain ⟨es, hes, hp⟩ := list_of (n := len) (p := fun i (e : LEnt) => V0 i = .string e.name ∧ V1 i = .int .i64 e.id ∧ e.name.size ≤ maxLen) (fun i hi => by
      obtain ⟨_, _, h0, h1⟩ := hx i (by omega)
      obtain ⟨s, e0, _, hs⟩ := DataW.trod_string Try.underlying9 h0
      obtain ⟨k, e1, _, _⟩ := DataW.trod_int Try.underlying3 h1
      simp at e0 e1
      exact ⟨⟨s, k⟩, e0, e1, hs⟩)
    refine ⟨some a, len, cap, es, hcs, hes.symm, by omega, fun hn => ?_⟩
    obtain ⟨b, off, spot⟩ := a
    have c0 := (hx 0 (by omega)).1
    have hspot : spot = none := by simpa [Addr.add] using World.cell?_spot c0
    subst hspot
    refine ⟨b, off, rfl, Nat.zero_le _, by have := cell_lt c0; simpa [Addr.add] using this, fun i hi => ?_⟩
    obtain ⟨e, he, q0, q1, hs⟩ := hp i hi
    obtain ⟨h0, h1, _, _⟩ := hx i (by omega)
    exact ⟨e, he, hs, by rw [← q0, ← addr_add]; exact h0, by rw [← q1, Nat.add_assoc, ← addr_add]; exact h1⟩

theorem open_objs {fuel : Nat} {v : Value} {x : DataW H × List MemPlace} (h : DataW.trod enc Try.prog w 0 spare held fuel 26 [v] = some x) :
    ∃ a n c os, v = .slice a n c ∧ ObjsAt w 0 w.heap.size a n os := by
  have ce : Try.prog.cellsOf 95 = 4 := by kernel_rfl
  have c3 : Try.prog.cellsOf 3 = 1 := by kernel_rfl
  have c9 : Try.prog.cellsOf 9 = 1 := by kernel_rfl
  have c107 : Try.prog.cellsOf 93 = 1 := by kernel_rfl
  rcases Go.Deep.open_slice Try.underlying26 h with ⟨hcs, _⟩ | ⟨a, len, cap, m, n, D, Pl, hcs, _, hl, hm, hmm, _, hx⟩
  · simp at hcs
    exact ⟨none, 0, 0, [], hcs, rfl, by simp, fun h => absurd rfl h⟩
  · simp at hcs
    have hlm : len ≤ m := by rw [hmm]; split <;> omega
    obtain ⟨os, hos, hp⟩ := list_of (n := len) (p := fun i (o : LObj) => ∃ ka kn kc, o.text.size ≤ maxLen ∧ w.cell? (a.add (i * 4)) = some (.int .i64 o.kind) ∧ w.cell? (a.add (i * 4 + 1)) = some (.int .i64 o.ver) ∧ w.cell? (a.add (i * 4 + 2)) = some (.string o.text) ∧ w.cell? (a.add (i * 4 + 3)) = some (.slice ka kn kc) ∧ EntsAt w 0 w.heap.size ka kn o.kids) (fun i hi => by
      obtain ⟨cs', h1, h2⟩ := hx i (by omega)
      rw [ce] at h1
      obtain ⟨_, hlen, hcell⟩ := World.cells?_some h1
      obtain ⟨y0, y1, y2, y3, n', _, _, t0, t1, t2, t3⟩ := Go.Joins.trod_struct4 Try.underlying95 h2
      obtain ⟨v0, v1, v2, v3, rfl⟩ := list4 hlen
      simp [c3, c9, c107] at t0 t1 t2 t3
      obtain ⟨k, e0, _, _⟩ := DataW.trod_int Try.underlying3 t0
      obtain ⟨vr, e1, _, _⟩ := DataW.trod_int Try.underlying3 t1
      obtain ⟨s, e2, _, hs⟩ := DataW.trod_string Try.underlying9 t2
      obtain ⟨ka, kn, kc, es, e3, he⟩ := open_ents t3
      simp at e0 e1 e2
      have g0 := hcell 0 (by omega)
      have g1 := hcell 1 (by omega)
      have g2 := hcell 2 (by omega)
      have g3 := hcell 3 (by omega)
      rw [Go.Deep.add_add] at g0 g1 g2 g3
      exact ⟨⟨k, vr, s, es⟩, ka, kn, kc, hs, by simpa [e0] using g0, by simpa [e1] using g1, by simpa [e2] using g2, by simpa [e3] using g3, he⟩)
    refine ⟨some a, len, cap, os, hcs, hos.symm, by omega, fun hn => ?_⟩
    obtain ⟨b, off, spot⟩ := a
    obtain ⟨_, _, _, _, _, _, c0, _⟩ := hp 0 (by omega)
    have hspot : spot = none := by simpa [Addr.add] using World.cell?_spot c0
    subst hspot
    refine ⟨b, off, rfl, Nat.zero_le _, by have := cell_lt c0; simpa [Addr.add] using this, fun i hi => ?_⟩
    obtain ⟨o, ho, ka, kn, kc, hs, q0, q1, q2, q3, he⟩ := hp i hi
    exact ⟨o, ka, kn, kc, ho, hs, by rw [← addr_add]; exact q0, by rw [Nat.add_assoc, ← addr_add]; exact q1, by rw [Nat.add_assoc, ← addr_add]; exact q2, by rw [Nat.add_assoc, ← addr_add]; exact q3, he⟩

theorem open_agg1 {P : Program} {r : Reach} {b0 base : Nat} {t : TypeId} {f0 : Field} {v : Value} {d : DataW H} {p : List MemPlace} (hs : P.underlying t = some (.struct #[f0])) (ho : f0.offset = 0) (hk : P.cellsOf f0.type = 1) (hC : P.cellsOf t = 1)
    (hv : Value.okWide P w r b0 t v) (h : DataW.Trod enc P w base spare held t v d p) :
    ∃ (v0 : Value) (y0 : DataW H × List MemPlace) (n : Nat), v = .agg #[v0] ∧ DataW.trod enc P w base spare held n f0.type [v0] = some y0 := by
  obtain ⟨cs, rfl, hsz⟩ := okWide_struct hs hv
  obtain ⟨c0, rfl⟩ := array1 (hsz.trans hC)
  obtain ⟨fuel, hf⟩ := h
  obtain ⟨y0, n, _, _, h0⟩ := trod_struct1 hs hf
  exact ⟨c0, y0, n, rfl, by simpa [Value.cells, ho, hk] using h0⟩

set_option maxRecDepth 100000 in
theorem open_tree {r : Reach} {b0 : Nat} {v : Value} {d : DataW H} {p : List MemPlace} (hv : Value.okWide Try.prog w r b0 28 v) (h : DataW.Trod enc Try.prog w 0 spare held 28 v d p) :
    ∃ a n c os, v = .agg #[.slice a n c] ∧ ObjsAt w 0 w.heap.size a n os := by
  obtain ⟨v0, y0, m, rfl, t0⟩ := open_agg1 Try.underlying28 rfl (by kernel_rfl) (by kernel_rfl) hv h
  obtain ⟨a, n, c, os, e, ho⟩ := open_objs t0
  exact ⟨a, n, c, os, by rw [e], ho⟩
end
end Go.Proofs.Ytnfegihemhidgaa
