/- Lemmas that the proofs of this seat share: BoxA. -/
import Derived.Test.YtnolbfijcnldjaaGreatDoorU28
import Derived.Test.YtnolbfijcnldjaaGreatDoorU29
import Derived.Test.YtnolbfijcnldjaaGreatDoorU21
import Derived.Test.YtnolbfijcnldjaaGreatDoorU30
import Derived.RowKitTokens
/- What stands in the boxes of the laws of what is done. -/
namespace Go.Proofs.YtnolbfijcnldjaaGreatDoor
open Go.RowKit

/-- Something to be done, in its box. -/
structure PB (W : World) (A : Nat) (o : LOp) : Prop where
  k0 : W.cell? ⟨A, 0, none⟩ = some (.int .i64 o.kind)
  k1 : W.cell? ⟨A, 1, none⟩ = some (.int .i64 o.dir)
  k2 : W.cell? ⟨A, 2, none⟩ = some (.string o.name)
  k3 : W.cell? ⟨A, 3, none⟩ = some (.int .i64 o.dir2)
  k4 : W.cell? ⟨A, 4, none⟩ = some (.string o.name2)
  k5 : W.cell? ⟨A, 5, none⟩ = some (.int .i64 o.id)
  k6 : W.cell? ⟨A, 6, none⟩ = some (.string o.text)
  lt : A < W.heap.size
theorem PB.next {W W' : World} {A : Nat} {o : LOp} (h : PB W A o) (hb : Below W.heap.size W W') : PB W' A o := by
  have hlt := h.lt
  have hc : ∀ j, W'.cell? ⟨A, j, none⟩ = W.cell? ⟨A, j, none⟩ := fun j => hb.cell (by simpa using hlt)
  exact ⟨by rw [hc]; exact h.k0, by rw [hc]; exact h.k1, by rw [hc]; exact h.k2, by rw [hc]; exact h.k3, by rw [hc]; exact h.k4, by rw [hc]; exact h.k5, by rw [hc]; exact h.k6, by have := hb.size; omega⟩
theorem DoAt.objsX {w w' : World} {r : List LObj × Int} {e : Ending} (h : DoAt w r e w') : ∃ x c, e = .returned (.tuple #[.agg #[.slice x r.1.length c], .int .i64 r.2]) ∧ (r.1 ≠ [] → ∃ b, x = some ⟨b, 0, none⟩) ∧ ObjsAt w' w.heap.size w'.heap.size x r.1.length r.1 ∧ Below w.heap.size w w' := by
  obtain ⟨⟨h0, rfl⟩ | ⟨b, c, vs, rfl, hO⟩, hb⟩ := h
  · exact ⟨none, 0, by rw [h0]; rfl, fun h => absurd h0 h, by rw [h0]; exact ⟨rfl, Nat.zero_le _, fun h => absurd rfl h⟩, hb⟩
  · exact ⟨_, c, rfl, fun _ => ⟨b, rfl⟩, hO.to_objs, hb⟩
theorem ok_sizes {os : List LObj} (hs : specOk os = true) : Sizes os 1048576 := fun o ho => by have := (ok_bd hs o ho).2.2; omega
theorem eEq_rfl (e : LEnt) : eEq e e = true := eEq_yes rfl rfl
theorem oSame_rfl (o : LObj) : oSame o o = true := by
  unfold oSame oLike
  have h1 : listEq eEq o.kids o.kids = true := listEq_yes rfl fun j a b ha hb => by rw [ha] at hb; cases hb; exact eEq_rfl a
  simp [h1, (sEq_iff _ _).2]
theorem same_rfl (l : List LObj) : listEq oSame l l = true := listEq_yes rfl fun j a b ha hb => by rw [ha] at hb; cases hb; exact oSame_rfl a
theorem actR_32 {os : List LObj} (hs : specOk os = true) (o : LOp) : (actR os o).1.length = 32 := by
  unfold actR
  rw [if_pos hs]
  split
  · rw [actDo_len, ok_len hs]
  · exact ok_len hs
theorem actR_ok {os : List LObj} (hs : specOk os = true) (o : LOp) : specOk (actR os o).1 = true := (fit_any hs (o := o) (rl := (actR os o).1) (rk := (actR os o).2) rfl).ok
theorem actR_fine {os : List LObj} {o : LOp} (h : (actR os o).2 = 0) : specOk os = true ∧ opOk o = true ∧ actR os o = actDo os o := by
  by_cases h1 : specOk os = true
  · by_cases h2 : opOk o = true
    · exact ⟨h1, h2, by unfold actR; rw [if_pos h1, if_pos h2]⟩
    · exfalso; unfold actR at h; rw [if_pos h1, if_neg h2] at h; simp at h
  · exfalso; unfold actR at h; rw [if_neg h1] at h; simp at h
theorem actR_do {os : List LObj} {o : LOp} (h1 : specOk os = true) (h2 : opOk o = true) : actR os o = actDo os o := by unfold actR; rw [if_pos h1, if_pos h2]
theorem list_ne {l : List LObj} (h : l.length = 32) : l ≠ [] := fun e => by rw [e] at h; simp at h
end Go.Proofs.YtnolbfijcnldjaaGreatDoor
