/- A tree of the call's own: the names of one object change. -/
import Derived.Test.YtjenldenggaljaaWorn
namespace Go.Proofs.Ytjenldenggaljaa
open Go.RowKit

/-- Object i gets other names, in a slice v that is in no other object's row. -/
theorem OwnT.setKids {w : World} {B b c : Nat} {os : List LObj} {vs : Nat → Value} (h : OwnT w B b c os vs) {i : Nat} {o : LObj} (ho : os[i]? = some o) {v : Value} {es : List LEnt} (hv : OwnEnts w B v es) (hs : ∀ e ∈ es, e.name.size ≤ maxLen)
    (ha : ∀ j g, j < os.length → j ≠ i → v.ownBlock = some g → (vs j).ownBlock ≠ some g) : OwnT (w.setCell ⟨b, i * 4 + 3, none⟩ v) B b c (os.set i { o with kids := es }) (fun j => if j = i then v else vs j) := by
  obtain ⟨cur, hg, hcs, hlc, hcm⟩ := h.row
  have hlt : i < os.length := (List.getElem?_eq_some_iff.1 ho).1
  refine ⟨h.lo, ⟨_, heap_setCell_same w b (i * 4 + 3) cur 34 _ hg, by simpa using hcs, by simpa using hlc, hcm⟩, fun j p hp => ?_, fun j k g hj hk hjk => ?_⟩
  · by_cases hji : j = i
    · subst hji
      rw [List.getElem?_set_self hlt] at hp
      simp at hp; subst hp
      obtain ⟨h1, h2, h3, h4, h5, h6, h7⟩ := h.at_ j o ho
      simp only [if_true]
      refine ⟨h1, ?_, ?_, ?_, ?_, kept_set hv (h.kids_ne hv), hs⟩
      · rw [World.cell?_setCell_other _ _ _ _ (by simp)]; exact h2
      · rw [World.cell?_setCell_other _ _ _ _ (by simp)]; exact h3
      · rw [World.cell?_setCell_other _ _ _ _ (by simp)]; exact h4
      · rw [World.cell?_setCell_same _ _ _ h5]
    · rw [List.getElem?_set_ne (Ne.symm hji)] at hp
      obtain ⟨h1, h2, h3, h4, h5, h6, h7⟩ := h.at_ j p hp
      simp only [if_neg hji]
      refine ⟨h1, ?_, ?_, ?_, ?_, kept_set h6 (h.kids_ne h6), h7⟩ <;> (rw [World.cell?_setCell_other _ _ _ _ (by simp <;> omega)]; assumption)
  · simp at hj hk
    by_cases hji : j = i
    · have hki : k ≠ i := fun e => hjk (by rw [hji, e])
      simp only [if_pos hji, if_neg hki]
      exact ha k g hk hki
    · by_cases hki : k = i
      · simp only [if_neg hji, if_pos hki]
        exact fun e1 e2 => ha j g hj hji e2 e1
      · simp only [if_neg hji, if_neg hki]
        exact h.apart j k g hj hk hjk

/-- A growing in one object's row of names (or in none) leaves all other objects; that one's names are given anew. -/
theorem OwnT.putKids {w w' : World} {B b c : Nat} {os : List LObj} {vs : Nat → Value} (h : OwnT w B b c os vs) {i : Nat} {o : LObj} (ho : os[i]? = some o) {row : Option Nat} (hg : w.grownBy w' row) (hrow : row = none ∨ row = (vs i).ownBlock) {v : Value} {es : List LEnt} (hv : OwnEnts w' B v es) (hs : ∀ e ∈ es, e.name.size ≤ maxLen)
    (hat : ∀ g, v.ownBlock = some g → (vs i).ownBlock = some g ∨ w.heap.size ≤ g) : OwnT (w'.setCell ⟨b, i * 4 + 3, none⟩ v) B b c (os.set i { o with kids := es }) (fun j => if j = i then v else vs j) := by
  have hlt : i < os.length := (List.getElem?_eq_some_iff.1 ho).1
  obtain ⟨cur, hr, hcs, hlc, hcm⟩ := h.row
  obtain ⟨q1, q2, q3, q4, q5, q6, q7⟩ := h.at_ i o ho
  have hbr : some b ≠ row := by
    rcases hrow with rfl | rfl
    · simp
    · exact fun e => h.kids_ne q6 e.symm
  have hcell : ∀ k, w'.cell? ⟨b, k, none⟩ = w.cell? ⟨b, k, none⟩ := fun k => hg.cell_far _ h.lt hbr
  have hr' : w'.heap[b]? = some (.cells cur 34 (0, 0)) := by rw [hg.block b h.lt hbr]; exact hr
  have hvb : v.ownBlock ≠ some b := by
    intro e
    rcases hat b e with h1 | h1
    · exact h.kids_ne q6 h1
    · have := h.lt; omega
  have hothers : ∀ j p, os[j]? = some p → j ≠ i → OwnEnts w' B (vs j) p.kids := fun j p hp hji => by
    obtain ⟨h1, h2, h3, h4, h5, h6, h7⟩ := h.at_ j p hp
    have hlj : j < os.length := (List.getElem?_eq_some_iff.1 hp).1
    refine World.ownsRow.kept h6 hg ?_
    rcases hrow with rfl | rfl
    · cases hx : (vs j).ownBlock <;> simp
    · cases hx : (vs j).ownBlock with
      | none => simp
      | some g => exact .inr (fun e => h.apart j i g hlj hlt hji hx e.symm)
  refine ⟨h.lo, ⟨_, heap_setCell_same w' b (i * 4 + 3) cur 34 _ hr', by simpa using hcs, by simpa using hlc, hcm⟩, fun j p hp => ?_, fun j k g hj hk hjk => ?_⟩
  · by_cases hji : j = i
    · subst hji
      rw [List.getElem?_set_self hlt] at hp
      simp at hp; subst hp
      simp only [if_true]
      refine ⟨q1, ?_, ?_, ?_, ?_, kept_set hv hvb, hs⟩
      · rw [World.cell?_setCell_other _ _ _ _ (by simp), hcell]; exact q2
      · rw [World.cell?_setCell_other _ _ _ _ (by simp), hcell]; exact q3
      · rw [World.cell?_setCell_other _ _ _ _ (by simp), hcell]; exact q4
      · rw [World.cell?_setCell_same _ _ _ (by rw [hcell]; exact q5)]
    · rw [List.getElem?_set_ne (Ne.symm hji)] at hp
      obtain ⟨h1, h2, h3, h4, h5, h6, h7⟩ := h.at_ j p hp
      simp only [if_neg hji]
      refine ⟨h1, ?_, ?_, ?_, ?_, kept_set (hothers j p hp hji) (h.kids_ne h6), h7⟩ <;> (rw [World.cell?_setCell_other _ _ _ _ (by simp <;> omega), hcell]; assumption)
  · simp at hj hk
    have hother : ∀ k, k < os.length → k ≠ i → ∀ g, v.ownBlock = some g → (vs k).ownBlock ≠ some g := fun k hk hki g e1 e2 => by
      rcases hat g e1 with h1 | h1
      · exact h.apart k i g hk hlt hki e2 h1
      · obtain ⟨p, hp⟩ : ∃ p, os[k]? = some p := ⟨os[k], by simp⟩
        have := ((h.at_ k p hp).2.2.2.2.2.1.lt g e2).2
        omega
    by_cases hji : j = i
    · have hki : k ≠ i := fun e => hjk (by rw [hji, e])
      simp only [if_pos hji, if_neg hki]
      exact hother k hk hki g
    · by_cases hki : k = i
      · simp only [if_neg hji, if_pos hki]
        exact fun e1 e2 => hother j hj hji g e2 e1
      · simp only [if_neg hji, if_neg hki]
        exact h.apart j k g hj hk hjk
end Go.Proofs.Ytjenldenggaljaa
