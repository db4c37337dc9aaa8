/- A tree in memory of the call's own; counting a turn. -/
import Derived.Test.YtnfegihemhidgaaPut
import Derived.BigRegion
namespace Go.Proofs.Ytnfegihemhidgaa
open Go.RowKit

structure OwnT (w : World) (B b c : Nat) (os : List LObj) (vs : Nat → Value) : Prop where
  lo : B ≤ b
  row : ∃ cur, w.heap[b]? = some (.cells cur 68 (0, 0)) ∧ cur.size = c * 4 ∧ os.length ≤ c ∧ c ≤ maxLen
  at_ : ∀ i o, os[i]? = some o → o.text.size ≤ maxLen ∧ w.cell? ⟨b, i * 4, none⟩ = some (.int .i64 o.kind) ∧ w.cell? ⟨b, i * 4 + 1, none⟩ = some (.int .i64 o.ver) ∧ w.cell? ⟨b, i * 4 + 2, none⟩ = some (.string o.text) ∧ w.cell? ⟨b, i * 4 + 3, none⟩ = some (vs i) ∧ OwnEnts w B (vs i) o.kids ∧ ∀ e ∈ o.kids, e.name.size ≤ maxLen
  apart : ∀ i j g, i < os.length → j < os.length → i ≠ j → (vs i).ownBlock = some g → (vs j).ownBlock ≠ some g

theorem OwnT.lt {w : World} {B b c : Nat} {os : List LObj} {vs : Nat → Value} (h : OwnT w B b c os vs) : b < w.heap.size := by
  obtain ⟨cur, hg, _⟩ := h.row
  exact (Array.getElem?_eq_some_iff.1 hg).1
theorem OwnT.frozen {w : World} {B b c : Nat} {os : List LObj} {vs : Nat → Value} (h : OwnT w B b c os vs) (k : Nat) : w.frozen? ⟨b, k, none⟩ = false := by
  obtain ⟨cur, hg, _⟩ := h.row
  exact frozen_of_row w b k cur 68 hg
theorem OwnT.to_objs {w : World} {B b c : Nat} {os : List LObj} {vs : Nat → Value} (h : OwnT w B b c os vs) : ObjsAt w B w.heap.size (some ⟨b, 0, none⟩) os.length os := by
  obtain ⟨cur, hg, hcs, hlc, hcm⟩ := h.row
  refine ⟨rfl, by omega, fun _ => ⟨b, 0, rfl, h.lo, h.lt, fun i hi => ?_⟩⟩
  have ho : os[i]? = some os[i] := by simp [hi]
  obtain ⟨h1, h2, h3, h4, h5, h6, h7⟩ := h.at_ i _ ho
  obtain ⟨ka, kc, hv, hents⟩ := h6.at_ h7
  refine ⟨os[i], ka, os[i].kids.length, kc, ho, h1, by simpa using h2, by simpa using h3, by simpa using h4, ?_, hents⟩
  rw [← hv]; simpa using h5
/-- The names of an object are in another block than the objects. -/
theorem OwnT.kids_ne {w : World} {B b c : Nat} {os : List LObj} {vs : Nat → Value} (h : OwnT w B b c os vs) {v : Value} {es : List LEnt} (ho : OwnEnts w B v es) : v.ownBlock ≠ some b := by
  intro hv
  obtain ⟨cur, hg, _⟩ := h.row
  rcases ho.2 with ⟨rfl, _⟩ | ⟨g, cap, cur', rfl, _, hg', _⟩
  · simp [Value.ownBlock] at hv
  · simp [Value.ownBlock] at hv
    subst hv
    rw [hg] at hg'
    simp at hg'
theorem kept_set {w : World} {B b k : Nat} {u v : Value} {es : List LEnt} (h : OwnEnts w B v es) (hne : v.ownBlock ≠ some b) : OwnEnts (w.setCell ⟨b, k, none⟩ u) B v es :=
  World.ownsRow.kept h (row := some b) ⟨rfl, rfl, rfl, by simp, fun i _ hi => Below.heap_setCell w ⟨b, k, none⟩ u i (by intro e; exact hi (by simp [e]))⟩ (.inr hne)
theorem OwnT.setKind {w : World} {B b c : Nat} {os : List LObj} {vs : Nat → Value} (h : OwnT w B b c os vs) {i : Nat} {o : LObj} (ho : os[i]? = some o) (z : Int) : OwnT (w.setCell ⟨b, i * 4, none⟩ (.int .i64 z)) B b c (os.set i { o with kind := z }) vs := by
  obtain ⟨cur, hg, hcs, hlc, hcm⟩ := h.row
  refine ⟨h.lo, ⟨_, heap_setCell_same w b (i * 4) cur 68 _ hg, by simpa using hcs, by simpa using hlc, hcm⟩, fun j p hp => ?_, fun j k g hj hk => h.apart j k g (by simpa using hj) (by simpa using hk)⟩
  by_cases hji : j = i
  · subst hji
    have hlt : j < os.length := (List.getElem?_eq_some_iff.1 ho).1
    rw [List.getElem?_set_self hlt] at hp
    simp at hp; subst hp
    obtain ⟨h1, h2, h3, h4, h5, h6, h7⟩ := h.at_ j o ho
    refine ⟨h1, ?_, ?_, ?_, ?_, kept_set h6 (h.kids_ne h6), h7⟩
    · rw [World.cell?_setCell_same _ _ _ h2]
    · rw [World.cell?_setCell_other _ _ _ _ (by simp)]; exact h3
    · rw [World.cell?_setCell_other _ _ _ _ (by simp)]; exact h4
    · rw [World.cell?_setCell_other _ _ _ _ (by simp)]; exact h5
  · rw [List.getElem?_set_ne (Ne.symm hji)] at hp
    obtain ⟨h1, h2, h3, h4, h5, h6, h7⟩ := h.at_ j p hp
    refine ⟨h1, ?_, ?_, ?_, ?_, kept_set h6 (h.kids_ne h6), h7⟩ <;> (rw [World.cell?_setCell_other _ _ _ _ (by simp <;> omega)]; assumption)
theorem OwnT.setVer {w : World} {B b c : Nat} {os : List LObj} {vs : Nat → Value} (h : OwnT w B b c os vs) {i : Nat} {o : LObj} (ho : os[i]? = some o) (z : Int) : OwnT (w.setCell ⟨b, i * 4 + 1, none⟩ (.int .i64 z)) B b c (os.set i { o with ver := z }) vs := by
  obtain ⟨cur, hg, hcs, hlc, hcm⟩ := h.row
  refine ⟨h.lo, ⟨_, heap_setCell_same w b (i * 4 + 1) cur 68 _ hg, by simpa using hcs, by simpa using hlc, hcm⟩, fun j p hp => ?_, fun j k g hj hk => h.apart j k g (by simpa using hj) (by simpa using hk)⟩
  by_cases hji : j = i
  · subst hji
    have hlt : j < os.length := (List.getElem?_eq_some_iff.1 ho).1
    rw [List.getElem?_set_self hlt] at hp
    simp at hp; subst hp
    obtain ⟨h1, h2, h3, h4, h5, h6, h7⟩ := h.at_ j o ho
    refine ⟨h1, ?_, ?_, ?_, ?_, kept_set h6 (h.kids_ne h6), h7⟩
    · rw [World.cell?_setCell_other _ _ _ _ (by simp)]; exact h2
    · rw [World.cell?_setCell_same _ _ _ h3]
    · rw [World.cell?_setCell_other _ _ _ _ (by simp)]; exact h4
    · rw [World.cell?_setCell_other _ _ _ _ (by simp)]; exact h5
  · rw [List.getElem?_set_ne (Ne.symm hji)] at hp
    obtain ⟨h1, h2, h3, h4, h5, h6, h7⟩ := h.at_ j p hp
    refine ⟨h1, ?_, ?_, ?_, ?_, kept_set h6 (h.kids_ne h6), h7⟩ <;> (rw [World.cell?_setCell_other _ _ _ _ (by simp <;> omega)]; assumption)
theorem OwnT.setText {w : World} {B b c : Nat} {os : List LObj} {vs : Nat → Value} (h : OwnT w B b c os vs) {i : Nat} {o : LObj} (ho : os[i]? = some o) (z : ByteArray) (hz : z.size ≤ maxLen) : OwnT (w.setCell ⟨b, i * 4 + 2, none⟩ (.string z)) B b c (os.set i { o with text := z }) vs := by
  obtain ⟨cur, hg, hcs, hlc, hcm⟩ := h.row
  refine ⟨h.lo, ⟨_, heap_setCell_same w b (i * 4 + 2) cur 68 _ hg, by simpa using hcs, by simpa using hlc, hcm⟩, fun j p hp => ?_, fun j k g hj hk => h.apart j k g (by simpa using hj) (by simpa using hk)⟩
  by_cases hji : j = i
  · subst hji
    have hlt : j < os.length := (List.getElem?_eq_some_iff.1 ho).1
    rw [List.getElem?_set_self hlt] at hp
    simp at hp; subst hp
    obtain ⟨h1, h2, h3, h4, h5, h6, h7⟩ := h.at_ j o ho
    refine ⟨hz, ?_, ?_, ?_, ?_, kept_set h6 (h.kids_ne h6), h7⟩
    · rw [World.cell?_setCell_other _ _ _ _ (by simp)]; exact h2
    · rw [World.cell?_setCell_other _ _ _ _ (by simp)]; exact h3
    · rw [World.cell?_setCell_same _ _ _ h4]
    · rw [World.cell?_setCell_other _ _ _ _ (by simp)]; exact h5
  · rw [List.getElem?_set_ne (Ne.symm hji)] at hp
    obtain ⟨h1, h2, h3, h4, h5, h6, h7⟩ := h.at_ j p hp
    refine ⟨h1, ?_, ?_, ?_, ?_, kept_set h6 (h.kids_ne h6), h7⟩ <;> (rw [World.cell?_setCell_other _ _ _ _ (by simp <;> omega)]; assumption)

/-- What is in another block than one's own stays. -/
theorem OwnT.grown {w w' : World} {B b c : Nat} {os : List LObj} {vs : Nat → Value} (h : OwnT w B b c os vs) {row : Option Nat} (hg : w.grownBy w' row) (hb : some b ≠ row) (hv : ∀ i, i < os.length → (vs i).ownBlock = none ∨ (vs i).ownBlock ≠ row) : OwnT w' B b c os vs := by
  obtain ⟨cur, hr, hcs, hlc, hcm⟩ := h.row
  refine ⟨h.lo, ⟨cur, by rw [hg.block b h.lt hb]; exact hr, hcs, hlc, hcm⟩, fun i o ho => ?_, h.apart⟩
  obtain ⟨h1, h2, h3, h4, h5, h6, h7⟩ := h.at_ i o ho
  have hlt : i < os.length := (List.getElem?_eq_some_iff.1 ho).1
  refine ⟨h1, ?_, ?_, ?_, ?_, World.ownsRow.kept h6 hg (hv i hlt), h7⟩ <;> (rw [hg.cell_far _ h.lt hb]; assumption)
theorem OwnT.alloc {w : World} {B b c : Nat} {os : List LObj} {vs : Nat → Value} (h : OwnT w B b c os vs) (o : Obj) : OwnT (w.alloc o) B b c os vs :=
  h.grown (World.grownBy_alloc w o none) (by simp) fun i _ => by cases hv : (vs i).ownBlock <;> simp
theorem OwnT.of_heap {w w' : World} {B b c : Nat} {os : List LObj} {vs : Nat → Value} (hh : w'.heap = w.heap) (h : OwnT w B b c os vs) : OwnT w' B b c os vs := by
  refine ⟨h.lo, by rw [hh]; exact h.row, fun i o ho => ?_, h.apart⟩
  obtain ⟨h1, h2, h3, h4, h5, h6, h7⟩ := h.at_ i o ho
  have hc : ∀ a, w'.cell? a = w.cell? a := fun a => World.cell?_of_block (by rw [hh])
  exact ⟨h1, by rw [hc]; exact h2, by rw [hc]; exact h3, by rw [hc]; exact h4, by rw [hc]; exact h5, OwnEnts.of_heap hh h6, h7⟩

/-- What l3Turn leaves. -/
def TurnEnd (w : World) (B b c i : Nat) (o : LObj) (os : List LObj) (vs : Nat → Value) (e : Ending) (w' : World) : Prop :=
  e = .returned (.agg #[.slice (some ⟨b, 0, none⟩) os.length c]) ∧ OwnT w' B b c (os.set i { o with ver := o.ver + 1 }) vs ∧ w.grownBy w' (some b)

end Go.Proofs.Ytnfegihemhidgaa
