/- Small words for the laws' walks. -/
import Derived.Test.YtjenldenggaljaaSame2
import Derived.Test.YtjenldenggaljaaOpen
import Derived.Deep.DeepCutAuto
namespace Go.Proofs.Ytjenldenggaljaa
open Go.RowKit

theorem totO_le {os : List LObj} {o : LObj} (h : o ∈ os) : totO o ≤ totT os := by
  induction os with
  | nil => simp at h
  | cons x l ih =>
    simp only [totT, List.map_cons, List.sum_cons]
    rcases List.mem_cons.1 h with h | h
    · subst h; omega
    · have := ih h; unfold totT at this; omega
theorem sizes_of {os : List LObj} {M : Nat} (h : totT os ≤ M) : Sizes os M := fun o ho => by
  have := totO_le ho
  unfold totO at this
  omega

theorem ObjsAt.drew {w : World} {L U : Nat} {a : Option Addr} {n : Nat} {os : List LObj} (h : ObjsAt w L U a n os) : ObjsAt w.drew L U a n os := h.below (B := U) (Below.refl _ _).drew (Nat.le_refl _)
theorem EntsAt.drew {w : World} {L U : Nat} {a : Option Addr} {n : Nat} {es : List LEnt} (h : EntsAt w L U a n es) : EntsAt w.drew L U a n es := h.below (B := U) (Below.refl _ _).drew (Nat.le_refl _)

/-- The two arguments lie boxed behind what was there. -/
structure Two (w wx : World) (v v' : Value) : Prop where
  below : Below w.heap.size w wx
  c0 : wx.cell? ⟨w.heap.size, 0, none⟩ = some v
  c1 : wx.cell? ⟨w.heap.size + 1, 0, none⟩ = some v'
  size : w.heap.size + 2 ≤ wx.heap.size
theorem Two.next {w wx wy : World} {v v' : Value} (h : Two w wx v v') (k : Below wx.heap.size wx wy) : Two w wy v v' :=
  ⟨h.below.trans (k.mono h.below.size), by rw [k.cell (by have := h.size; simp; omega)]; exact h.c0, by rw [k.cell (by have := h.size; simp; omega)]; exact h.c1, by have := k.size; have := h.size; omega⟩
theorem Two.drew {w wx : World} {v v' : Value} (h : Two w wx v v') : Two w wx.drew v v' := h.next (Below.refl _ _).drew

end Go.Proofs.Ytjenldenggaljaa
