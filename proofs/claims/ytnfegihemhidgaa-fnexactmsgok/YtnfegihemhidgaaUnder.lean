/- Home and under: contracts of the program and of the specification. -/
import Derived.Test.YtnfegihemhidgaaLayAll
namespace Go.Proofs.Ytnfegihemhidgaa
open Go.RowKit

/-- The one tree lies boxed behind what was there. -/
structure One (w wx : World) (v : Value) : Prop where
  below : Below w.heap.size w wx
  c0 : wx.cell? ⟨w.heap.size, 0, none⟩ = some v
  size : w.heap.size < wx.heap.size
theorem One.next {w wx wy : World} {v : Value} (h : One w wx v) (k : Below wx.heap.size wx wy) : One w wy v :=
  ⟨h.below.trans (k.mono h.below.size), by rw [k.cell (by have := h.size; simp; omega)]; exact h.c0, by have := k.size; have := h.size; omega⟩
theorem One.drew {w wx : World} {v : Value} (h : One w wx v) : One w wx.drew v := h.next (Below.refl _ _).drew
theorem One.start {w w1 : World} {v : Value} {t : TypeId} (h : Below (w.alloc (.cells #[v] t)).heap.size (w.alloc (.cells #[v] t)) w1) : One w w1 v :=
  One.next ⟨(Below.refl _ _).alloc (Nat.le_refl _) _, by simp [go_sem], by simp⟩ h

theorem implTreeOk (a : Option Addr) (n c : Nat) (os : List LObj) (L U : Nat) (w : World) (hU : U ≤ w.heap.size) (H : ObjsAt w L U a n os) :
    Calls Try.prog 70 #[.agg #[.slice a n c]] w fun e w' => e = .returned (.bool (specOk os)) ∧ Below w.heap.size w w' := by
  have hB : ∀ o1, Below w.heap.size w (w.alloc o1) := fun o1 => (Below.refl _ _).alloc (Nat.le_refl _) _
  go_enter Try.func70, Try.ntmps70
  go_wp2_with fail
  refine (layOut_any _ _ _ _ L U _ (by simp; omega) (H.below (hB _) hU)).mono ?_
  rintro x w1 ⟨hl, hb⟩
  have hb1 : Below w.heap.size w w1 := (hB _).trans (hb.mono (by simp))
  rcases hl with ⟨rfl, hs⟩ | ⟨lb, f, rfl, hs, _⟩
  · have HS : Hid (specOk os = false) := hs
    clear hs
    go_wp2_with fail
    go_ret
    exact ⟨ret_bool HS.out.symm, hb1⟩
  · have HS : Hid (specOk os = true) := hs
    clear hs
    go_wp2_with fail
    go_ret
    exact ⟨ret_bool HS.out.symm, hb1⟩

def hasB (os : List LObj) (id : Int) : Bool := decide (0 ≤ id) && decide (id < 32) && (kindOf os id.toNat != 0)
theorem has_not {os : List LObj} (hs : specOk os = true) {id : Int} (h : hasB os id = false) : Off (flat os) id := by
  have hi := (specOk_iff os).1 hs
  intro x hx e
  obtain ⟨k, e1, k1, k2⟩ := flat_ids (ids_of_ok hi.2.1) hx
  have h1 := hi.2.2.2.1.1 x hx
  rw [e1, Int.toNat_natCast] at h1
  rw [← e, e1] at h
  simp [hasB, h1] at h
  omega

def homeV (os : List LObj) (id : Int) : Int := if specOk os = true then homeIn (flat os) id else -1
theorem homeV_no {os : List LObj} (h : specOk os = false) (id : Int) : homeV os id = -1 := by simp [homeV, h]
theorem homeV_yes {os : List LObj} (h : specOk os = true) (id : Int) : homeV os id = homeIn (flat os) id := by simp [homeV, h]

/-- One comes to dir from it within so many objects. -/
def under (os : List LObj) (dir : Int) : Nat → Int → Bool
  | 0, _ => false
  | k + 1, id => if 0 ≤ id then (if id = dir then true else under os dir k (homeIn (flat os) id)) else false
theorem under_neg (os : List LObj) (dir : Int) (k : Nat) {id : Int} (h : ¬ 0 ≤ id) : under os dir k id = false := by
  cases k with
  | zero => rfl
  | succ k => unfold under; rw [if_neg h]
theorem under_same (os : List LObj) (dir : Int) (k : Nat) {id : Int} (h : 0 ≤ id) (e : id = dir) : under os dir (k + 1) id = true := by
  unfold under; rw [if_pos h, if_pos e]
theorem under_step (os : List LObj) (dir : Int) (k : Nat) {id : Int} (h : 0 ≤ id) (e : id ≠ dir) : under os dir (k + 1) id = under os dir k (homeIn (flat os) id) := by
  rw [under, if_pos h, if_neg e]
def underV (os : List LObj) (id dir : Int) : Bool := specOk os && hasB os id && under os dir 33 id
theorem underV_no {os : List LObj} (h : specOk os = false) (id dir : Int) : underV os id dir = false := by simp [underV, h]
theorem underV_has {os : List LObj} {id : Int} (h : hasB os id = false) (dir : Int) : underV os id dir = false := by simp [underV, h]
theorem underV_yes {os : List LObj} {id : Int} (hs : specOk os = true) (h : hasB os id = true) (dir : Int) : underV os id dir = under os dir 33 id := by simp [underV, h, hs]
theorem homeIn_top {os : List LObj} (hs : specOk os = true) : homeIn (flat os) 0 = -1 := by
  have hi := (specOk_iff os).1 hs
  refine homeIn_off fun x hx e => ?_
  obtain ⟨k, e1, k1, k2⟩ := flat_ids (ids_of_ok hi.2.1) hx
  omega

end Go.Proofs.Ytnfegihemhidgaa
