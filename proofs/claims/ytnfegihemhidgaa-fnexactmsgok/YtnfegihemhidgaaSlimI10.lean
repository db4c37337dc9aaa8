import Derived.Test.YtnfegihemhidgaaSlimI9
/- Lists that are made shorter: the program: what moves on, whole; lists with one put anew. -/
namespace Go.Proofs.Ytnfegihemhidgaa
open Go.RowKit

theorem beq_int_comm (a b : Int) : (a == b) = (b == a) := BEq.comm
theorem beq_list_comm (a b : List UInt8) : (a == b) = (b == a) := BEq.comm
/-! A row of what is done, read and written. -/
theorem OwnOps.rowOf {w : World} {B : Nat} {v : Value} {l : List LOp} (h : OwnOps w B v l) (hn : 0 < l.length) : ∃ g cap f, v = .slice (some ⟨g, 0, none⟩) l.length cap ∧ B ≤ g ∧ l.length ≤ cap ∧ cap ≤ maxLen ∧ w.rowIs g 102 (cap * 7) f ∧ ∀ i (hi : i < l.length), opF f i l[i] := by
  rcases h.2 with ⟨rfl, h0⟩ | ⟨g, cap, cur, rfl, hb, hg, hnc, hcm, hcs, htake⟩
  · omega
  · refine ⟨g, cap, fun i => cur[i]?.getD default, rfl, hb, hnc, hcm, ⟨cur, hg, by omega, fun i hi => by simp [Array.getElem?_eq_getElem (show i < cur.size by omega)]⟩, fun i hi => ?_⟩
    have hq : ∀ t u, t < 7 → (l[i]).val[t]? = some u → cur[i * 7 + t]?.getD default = u := fun t u ht hu => by
      have h1 := opCells_at l i l[i] (by simp [hi]) t u hu
      rw [← htake, List.getElem?_take_of_lt (by omega)] at h1
      simp at h1
      simp [h1]
    exact ⟨by simpa using hq 0 _ (by omega) (by simp [LOp.val]), hq 1 _ (by omega) (by simp [LOp.val]), hq 2 _ (by omega) (by simp [LOp.val]), hq 3 _ (by omega) (by simp [LOp.val]), hq 4 _ (by omega) (by simp [LOp.val]), hq 5 _ (by omega) (by simp [LOp.val]), hq 6 _ (by omega) (by simp [LOp.val])⟩
theorem opCells_getElem (l : List LOp) (q : Nat) (hq : q < l.length * 7) : (opCells l)[q]? = (l[q / 7]'(by omega)).val[q % 7]? := by
  have hm : q % 7 < (l[q / 7]'(by omega)).val.size := by simp [LOp.val]; omega
  have e : q = q / 7 * 7 + q % 7 := by omega
  have := opCells_at l (q / 7) (l[q / 7]'(by omega)) (by simp) (q % 7) ((l[q / 7]'(by omega)).val[q % 7]) (by simp)
  rw [← e] at this
  rw [this, Array.getElem?_eq_getElem hm]
theorem OwnOps.ofRow {w : World} {B g cap : Nat} {l : List LOp} {f : Nat → Value} (hB : B ≤ g) (hc : l.length ≤ cap) (hm : cap ≤ maxLen) (hr : w.rowIs g 102 (cap * 7) f) (hf : ∀ i (hi : i < l.length), opF f i l[i]) : OwnOps w B (.slice (some ⟨g, 0, none⟩) l.length cap) l := by
  obtain ⟨cur, hg, hs, hcell⟩ := hr
  refine ⟨opCells_len l, .inr ⟨g, cap, cur, rfl, hB, hg, hc, hm, hs, ?_⟩⟩
  apply List.ext_getElem?
  intro q
  by_cases hq : q < l.length * 7
  · rw [List.getElem?_take_of_lt hq, opCells_getElem l q hq]
    have h1 := hcell q (by omega)
    have h2 : cur.toList[q]? = some (f q) := by simpa using h1
    rw [h2]
    obtain ⟨q0, q1, q2, q3, q4, q5, q6⟩ := hf (q / 7) (by omega)
    have hm : q % 7 = 0 ∨ q % 7 = 1 ∨ q % 7 = 2 ∨ q % 7 = 3 ∨ q % 7 = 4 ∨ q % 7 = 5 ∨ q % 7 = 6 := by omega
    have key : ∀ t u, q % 7 = t → f (q / 7 * 7 + t) = u → (l[q / 7]'(by omega)).val[t]? = some u → some (f q) = (l[q / 7]'(by omega)).val[q % 7]? := fun t u ht hu hv => by
      rw [ht, hv, ← hu, ← ht]
      congr 2
      omega
    rcases hm with e | e | e | e | e | e | e
    · exact key 0 _ e q0 rfl
    · exact key 1 _ e q1 rfl
    · exact key 2 _ e q2 rfl
    · exact key 3 _ e q3 rfl
    · exact key 4 _ e q4 rfl
    · exact key 5 _ e q5 rfl
    · exact key 6 _ e q6 rfl
  · rw [List.getElem?_eq_none (by simp; omega), List.getElem?_eq_none (by rw [opCells_len]; omega)]

/-! What is left when one goes, or both. -/
def goesJoin (back : Bool) (at_ j : Nat) : Bool := (j == at_) || (back && (j + 1 == at_))
theorem keepTo_all {p : Nat → Bool} {ops : List LOp} : ∀ {k : Nat}, (∀ i, i < k → p i = true) → keepTo p ops k = ops.take k
  | 0, _ => by simp [keepTo]
  | k + 1, h => by
    unfold keepTo
    rw [keepTo_all fun i hi => h i (by omega), h k (by omega)]
    rw [List.take_add_one]
    cases ops[k]? <;> simp
theorem keepTo_more {p : Nat → Bool} {ops : List LOp} {k : Nat} : ∀ (m : Nat), (∀ i, k ≤ i → p i = true) → keepTo p ops (k + m) = keepTo p ops k ++ (ops.drop k).take m
  | 0, _ => by simp
  | m + 1, h => by
    have e : keepTo p ops (k + (m + 1)) = keepTo p ops (k + m) ++ (match ops[k + m]? with | some o => if p (k + m) then [o] else [] | none => []) := rfl
    rw [e, keepTo_more m h, h (k + m) (by omega), List.take_add_one, List.getElem?_drop, List.append_assoc]
    cases ops[k + m]? <;> simp
theorem keepTo_join {ops : List LOp} {j : Nat} {x : LOp} (back : Bool) (hx : ops[j]? = some x) (hl : j + 1 < ops.length) : keepTo (fun i => !goesJoin back (j + 1) i) ops ops.length = ops.take j ++ (if back then [] else [x]) ++ ops.drop (j + 2) := by
  have e : ops.length = (j + 2) + (ops.length - (j + 2)) := by omega
  rw [e, keepTo_more _ (fun i hi => by unfold goesJoin; have h1 : ¬ i = j + 1 := by omega
                                       have h2 : ¬ i = j := by omega
                                       simp [h1, h2])]
  have e2 : (ops.drop (j + 2)).take (ops.length - (j + 2)) = ops.drop (j + 2) := List.take_of_length_le (by simp)
  rw [e2]
  congr 1
  have e3 : keepTo (fun i => !goesJoin back (j + 1) i) ops (j + 2) = keepTo (fun i => !goesJoin back (j + 1) i) ops (j + 1) := keepTo_no (by simp [goesJoin])
  rw [e3]
  have e4 : keepTo (fun i => !goesJoin back (j + 1) i) ops j = ops.take j := keepTo_all fun i hi => by
    unfold goesJoin
    have h1 : ¬ i = j + 1 := by omega
    have h2 : ¬ i = j := by omega
    simp [h1, h2]
  cases back
  · rw [keepTo_yes hx (by simp [goesJoin]), e4]; rfl
  · rw [keepTo_no (by simp [goesJoin]), e4]; simp
end Go.Proofs.Ytnfegihemhidgaa
