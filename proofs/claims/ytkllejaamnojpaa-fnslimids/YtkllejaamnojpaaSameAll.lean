import Derived.Test.YtkllejaamnojpaaEq
import Derived.Test.YtkllejaamnojpaaOpen
import Derived.Deep.DeepCutAuto
/- The program and the specification compare names, objects and trees: contracts. -/
namespace Go.Proofs.Ytkllejaamnojpaa
open Go.RowKit

def sEq (s s' : ByteArray) : Bool := s.toList == s'.toList
theorem sEq_iff (s s' : ByteArray) : sEq s s' = true ↔ s = s' := by
  unfold sEq
  rw [beq_iff_eq, ByteArray.toList_eq, ByteArray.toList_eq]
  constructor
  · intro h
    cases s; cases s'; simp at h; simp [h]
  · intro h; rw [h]
def eEq (a b : LEnt) : Bool := sEq a.name b.name && a.id == b.id
theorem eEq_yes {a b : LEnt} (h : a.name = b.name) (k : a.id = b.id) : eEq a b = true := by
  unfold eEq; rw [(sEq_iff _ _).2 h, k]; simp
def listEq {α : Type} (f : α → α → Bool) : List α → List α → Bool
  | [], [] => true
  | a :: l, b :: m => f a b && listEq f l m
  | _, _ => false
theorem listEq_len {α : Type} {f : α → α → Bool} : ∀ {l m : List α}, l.length ≠ m.length → listEq f l m = false
  | [], [], h => absurd rfl h
  | [], _ :: _, _ => rfl
  | _ :: _, [], _ => rfl
  | a :: l, b :: m, h => by
    unfold listEq
    rw [listEq_len (l := l) (m := m) (by simpa using h), Bool.and_false]
theorem listEq_no {α : Type} {f : α → α → Bool} : ∀ {l m : List α} {j : Nat} {a b : α}, l[j]? = some a → m[j]? = some b → f a b = false → listEq f l m = false
  | [], _, j, _, _, h, _, _ => by simp at h
  | _ :: _, [], _, _, _, _, h, _ => by simp at h
  | a :: l, b :: m, 0, x, y, h, k, e => by
    simp at h k
    subst h k
    unfold listEq
    rw [e, Bool.false_and]
  | a :: l, b :: m, j + 1, x, y, h, k, e => by
    unfold listEq
    rw [listEq_no (l := l) (m := m) (j := j) (by simpa using h) (by simpa using k) e, Bool.and_false]
theorem listEq_yes {α : Type} {f : α → α → Bool} : ∀ {l m : List α}, l.length = m.length → (∀ (j : Nat) a b, l[j]? = some a → m[j]? = some b → f a b = true) → listEq f l m = true
  | [], [], _, _ => rfl
  | [], _ :: _, h, _ => by simp at h
  | _ :: _, [], h, _ => by simp at h
  | a :: l, b :: m, h, k => by
    unfold listEq
    rw [k 0 a b rfl rfl, Bool.true_and]
    exact listEq_yes (by simpa using h) (fun j x y hx hy => k (j + 1) x y (by simpa using hx) (by simpa using hy))
def oLike (a b : LObj) : Bool := a.kind == b.kind && sEq a.text b.text && listEq eEq a.kids b.kids
def oSame (a b : LObj) : Bool := a.ver == b.ver && oLike a b

theorem Below.drewN (w : World) (m : Nat) : Below w.heap.size w (w.drewN m) := by
  induction m with
  | zero => exact Below.refl _ _
  | succ m ih => exact ⟨ih.os, ih.tape, ih.output, ih.size, ih.block⟩

end Go.Proofs.Ytkllejaamnojpaa

/- The specification compares trees: contracts. -/
namespace Go.Proofs.Ytkllejaamnojpaa
open Go.RowKit

def vers (a b : LObj) : Bool := a.ver == b.ver
theorem listEq_and {α : Type} (f g : α → α → Bool) : ∀ l m : List α, listEq (fun a b => f a b && g a b) l m = (listEq g l m && listEq f l m)
  | [], [] => rfl
  | [], _ :: _ => rfl
  | _ :: _, [] => rfl
  | a :: l, b :: m => by
    unfold listEq
    rw [listEq_and f g l m]
    cases f a b <;> cases g a b <;> cases listEq f l m <;> cases listEq g l m <;> rfl
theorem same_of (l m : List LObj) : listEq oSame l m = (listEq oLike l m && listEq vers l m) := listEq_and vers oLike l m

end Go.Proofs.Ytkllejaamnojpaa

/- Small words for the laws' walks. -/
namespace Go.Proofs.Ytkllejaamnojpaa
open Go.RowKit

theorem totO_le {os : List LObj} {o : LObj} (h : o ∈ os) : totO o ≤ totT os := by
  induction os with
  | nil => simp at h
  | cons x l ih =>
    simp only [totT, List.map_cons, List.sum_cons]
    rcases List.mem_cons.1 h with h | h
    · subst h; omega
    · have := ih h; unfold totT at this; omega
theorem sizes_of {os : List LObj} {M : Nat} (h : totT os ≤ M) : Sizes os M := fun o ho => by
  have := totO_le ho
  unfold totO at this
  omega

theorem ObjsAt.drew {w : World} {L U : Nat} {a : Option Addr} {n : Nat} {os : List LObj} (h : ObjsAt w L U a n os) : ObjsAt w.drew L U a n os := h.below (B := U) (Below.refl _ _).drew (Nat.le_refl _)
theorem EntsAt.drew {w : World} {L U : Nat} {a : Option Addr} {n : Nat} {es : List LEnt} (h : EntsAt w L U a n es) : EntsAt w.drew L U a n es := h.below (B := U) (Below.refl _ _).drew (Nat.le_refl _)

/-- The two arguments lie boxed behind what was there. -/
structure Two (w wx : World) (v v' : Value) : Prop where
  below : Below w.heap.size w wx
  c0 : wx.cell? ⟨w.heap.size, 0, none⟩ = some v
  c1 : wx.cell? ⟨w.heap.size + 1, 0, none⟩ = some v'
  size : w.heap.size + 2 ≤ wx.heap.size
theorem Two.next {w wx wy : World} {v v' : Value} (h : Two w wx v v') (k : Below wx.heap.size wx wy) : Two w wy v v' :=
  ⟨h.below.trans (k.mono h.below.size), by rw [k.cell (by have := h.size; simp; omega)]; exact h.c0, by rw [k.cell (by have := h.size; simp; omega)]; exact h.c1, by have := k.size; have := h.size; omega⟩
theorem Two.drew {w wx : World} {v v' : Value} (h : Two w wx v v') : Two w wx.drew v v' := h.next (Below.refl _ _).drew

end Go.Proofs.Ytkllejaamnojpaa
