/- Names of a directory in memory of the call's own; taking a name out. -/
import Derived.Test.YtnfegihemhidgaaDrawers
namespace Go.Proofs.Ytnfegihemhidgaa
open Go.RowKit

def entCells (es : List LEnt) : List Value := es.flatMap fun e => [.string e.name, .int .i64 e.id]
theorem entCells_len (es : List LEnt) : (entCells es).length = es.length * 2 := by
  induction es with
  | nil => rfl
  | cons e r ih => simp only [entCells, List.flatMap_cons, List.length_append, List.length_cons, List.length_nil] at ih ⊢; omega
theorem entCells_app (es fs : List LEnt) : entCells (es ++ fs) = entCells es ++ entCells fs := by simp [entCells]
theorem entCells_at : ∀ (es : List LEnt) (i : Nat) (e : LEnt), es[i]? = some e → (entCells es)[i * 2]? = some (.string e.name) ∧ (entCells es)[i * 2 + 1]? = some (.int .i64 e.id)
  | [], i, e, h => by simp at h
  | x :: r, 0, e, h => by simp at h; subst h; simp [entCells]
  | x :: r, i + 1, e, h => by
    have ih := entCells_at r i e (by simpa using h)
    have e1 : entCells (x :: r) = [.string x.name, .int .i64 x.id] ++ entCells r := rfl
    rw [e1, List.getElem?_append_right (by simp; omega), List.getElem?_append_right (by simp; omega)]
    have a1 : (i + 1) * 2 - 2 = i * 2 := by omega
    have a2 : (i + 1) * 2 + 1 - 2 = i * 2 + 1 := by omega
    simpa [a1, a2] using ih
/-- A slice of names that the call owns. -/
def OwnEnts (w : World) (B : Nat) (v : Value) (es : List LEnt) : Prop := w.ownsRow B 99 2 v es.length (entCells es)
def outL (name : ByteArray) (es : List LEnt) : List LEnt := es.filter fun e => !(e.name.toList == name.toList)
theorem outL_le (name : ByteArray) (es : List LEnt) : (outL name es).length ≤ es.length := List.length_filter_le _ _
theorem info47' : (Try.prog.info? 99).map (fun i => (i.zero, i.size, i.bytes)) = some (some (.agg #[.string ⟨#[]⟩, .int .i64 0]), 2, 24) := by kernel_rfl
theorem OwnEnts.at_ {w : World} {B : Nat} {v : Value} {es : List LEnt} (h : OwnEnts w B v es) (hn : ∀ e ∈ es, e.name.size ≤ maxLen) : ∃ a c, v = .slice a es.length c ∧ EntsAt w B w.heap.size a es.length es := by
  by_cases h0 : es.length = 0
  · obtain rfl : es = [] := List.eq_nil_of_length_eq_zero h0
    rcases h.2 with ⟨rfl, _⟩ | ⟨g, cap, cur, rfl, _⟩
    · exact ⟨_, _, rfl, rfl, by simp [maxLen], fun hn => absurd rfl hn⟩
    · exact ⟨_, _, rfl, rfl, by simp [maxLen], fun hn => absurd rfl hn⟩
  · obtain ⟨g, c, rfl, hb, hlt⟩ := World.ownsRow.form h (by omega)
    have hbd : es.length ≤ maxLen := by
      rcases h.2 with ⟨h', _⟩ | ⟨g', cap', cur, h', _, _, hnc, hcm, _⟩
      · simp at h'
      · omega
    refine ⟨_, _, rfl, rfl, hbd, fun _ => ⟨g, 0, rfl, hb, hlt, fun i hi => ⟨es[i], by simp [hi], hn _ (List.getElem_mem hi), ?_, ?_⟩⟩⟩
    · have := World.ownsRow.cellAt h (i * 2) (by omega)
      rw [Nat.zero_add, this]
      exact (entCells_at es i es[i] (by simp [hi])).1
    · have := World.ownsRow.cellAt h (i * 2 + 1) (by omega)
      rw [Nat.zero_add, this]
      exact (entCells_at es i es[i] (by simp [hi])).2
theorem two_at {w : World} {u v0 v1 : Value} {t : TypeId} {i : Nat} (h : [v0, v1][i]? = some u) : (w.alloc (Obj.cells #[v0, v1] t)).cell? ((⟨w.heap.size, 0, none⟩ : Addr).add i) = some u := by
  match i, h with
  | 0, h => simp at h; subst h; simp [Addr.add]
  | 1, h => simp at h; subst h; simp [Addr.add]
theorem outL_take_yes {name : ByteArray} {es : List LEnt} {k : Nat} {e : LEnt} (h : es[k]? = some e) (hb : (e.name.toList == name.toList) = false) : outL name (es.take (k + 1)) = outL name (es.take k) ++ [e] := by
  simp [outL, List.take_add_one, h, List.filter_append, hb]
theorem outL_take_no {name : ByteArray} {es : List LEnt} {k : Nat} {e : LEnt} (h : es[k]? = some e) (hb : (e.name.toList == name.toList) = true) : outL name (es.take (k + 1)) = outL name (es.take k) := by
  simp [outL, List.take_add_one, h, List.filter_append, hb]
theorem keepEnts {wr w0 w1 : World} {B : Nat} {u v' : Value} {l : List LEnt} {e : LEnt} {o1 : Obj} (hown : Hid (OwnEnts wr B u l)) (hb : Below B w0 wr) (hsz : B ≤ wr.heap.size)
    (hown' : w1.ownsRow B 99 2 v' (l.length + 1) (entCells l ++ [Value.string e.name, Value.int .i64 e.id])) (hgrow : (wr.alloc o1).grownBy w1 u.ownBlock) :
    OwnEnts w1 B v' (l ++ [e]) ∧ Below B w0 w1 := by
  have hr : ∀ k, u.ownBlock = some k → B ≤ k := fun k e => (hown.out.lt k e).1
  have hb1 : Below B wr w1 := below_grown ((Below.refl _ _).alloc (by omega) _) hgrow hr (by simp; omega)
  exact ⟨by unfold OwnEnts; rw [entCells_app, List.length_append]; exact hown', hb.trans hb1⟩

end Go.Proofs.Ytnfegihemhidgaa
