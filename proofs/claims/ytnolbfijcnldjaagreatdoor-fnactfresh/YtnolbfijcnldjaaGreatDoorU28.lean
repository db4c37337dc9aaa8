/- Lemmas that the proofs of this seat share: ActFit. -/
import Derived.Test.YtnolbfijcnldjaaGreatDoorU27
import Derived.Test.YtnolbfijcnldjaaGreatDoorU21
/- What is done touches what it names, and how many it turns: plain facts. -/
namespace Go.Proofs.YtnolbfijcnldjaaGreatDoor

/-- What went wrong changed nothing. -/
theorem act_err (os : List LObj) (o : LOp) : (actDo os o).2 = 0 ∨ (actDo os o).1 = os := by
  unfold actDo
  split
  · exact .inr rfl
  split
  · unfold actNew
    repeat' split
    all_goals first | exact .inr rfl | exact .inl rfl
  split
  · unfold actGone
    repeat' split
    all_goals first | exact .inr rfl | exact .inl rfl
  split
  · unfold actMove
    repeat' split
    all_goals first | exact .inr rfl | exact .inl rfl
  unfold actText
  repeat' split
  all_goals first | exact .inr rfl | exact .inl rfl

/-- The object at a number was turned. -/
def turnB (os rl : List LObj) (i : Nat) : Bool := match os[i]?, rl[i]? with
  | some a, some b => decide (a.ver < b.ver)
  | _, _ => false
/-- How many below a number were turned. -/
def turnedN (os rl : List LObj) (k : Nat) : Nat := (List.range k).countP (turnB os rl)
theorem turnB_at {os rl : List LObj} {i : Nat} {a b : LObj} (ha : os[i]? = some a) (hb : rl[i]? = some b) : turnB os rl i = decide (a.ver < b.ver) := by
  unfold turnB; rw [ha, hb]
theorem turnedN_succ (os rl : List LObj) (k : Nat) : turnedN os rl (k + 1) = turnedN os rl k + if turnB os rl k = true then 1 else 0 := by
  unfold turnedN
  rw [List.range_succ, List.countP_append]
  congr 1
  simp [List.countP_cons]
theorem turnedN_le (os rl : List LObj) (k : Nat) : turnedN os rl k ≤ k := by
  have := List.countP_le_length (p := turnB os rl) (l := List.range k)
  simpa [turnedN] using this
theorem turned_ids {os : List LObj} {o : LOp} (hs : specOk os = true) (hk : opOk o = true) : turnedN os (actDo os o).1 32 ≤ (opIds o).length := by
  rw [opIds_set hk]
  unfold turnedN setL
  rw [← List.countP_eq_length_filter]
  refine List.countP_mono_left fun i hi ht => ?_
  unfold turnB at ht
  split at ht
  · rename_i a b ha hb
    rcases turnP_any hs hk ha hb with rfl | ⟨-, hin, -⟩
    · simp at ht
    · rw [opIds_set hk] at hin
      exact (List.mem_filter.1 hin).2
  · cases ht
theorem turned_pos {os : List LObj} {o : LOp} (hs : specOk os = true) (hk : opOk o = true) (h0 : (actDo os o).2 = 0) : 1 ≤ turnedN os (actDo os o).1 32 := by
  obtain ⟨i, a, b, ha, hb, hv⟩ := turn_some hs hk h0
  unfold turnedN
  refine List.countP_pos_iff.2 ⟨i, List.mem_range.2 ?_, ?_⟩
  · have := (List.getElem?_eq_some_iff.1 ha).1; rw [ok_len hs] at this; exact this
  · rw [turnB_at ha hb]; simp; omega

/-- All that the law of what is done asks of the answer. -/
structure FitR (os : List LObj) (o : LOp) (rl : List LObj) (rk : Int) : Prop where
  len : rl.length = 32
  ok : specOk rl = true
  same : rk ≠ 0 → rl = os
  turn : ∀ (i : Nat) a b, os[i]? = some a → rl[i]? = some b → b = a ∨ (b.ver = a.ver + 1 ∧ i ∈ opIds o)
  some_ : rk = 0 → 1 ≤ turnedN os rl 32 ∧ turnedN os rl 32 ≤ (opIds o).length
theorem fit_any {os : List LObj} {o : LOp} {rl : List LObj} {rk : Int} (hs : specOk os = true) (hr : (rl, rk) = actR os o) : FitR os o rl rk := by
  unfold actR at hr
  rw [if_pos hs] at hr
  by_cases hk : opOk o = true
  · rw [if_pos hk] at hr
    obtain ⟨rfl, rfl⟩ : rl = (actDo os o).1 ∧ rk = (actDo os o).2 := ⟨congrArg Prod.fst hr, congrArg Prod.snd hr⟩
    refine ⟨by rw [actDo_len, ok_len hs], ?_, fun h => (act_err os o).resolve_left h, fun i a b ha hb => ?_, fun h => ⟨turned_pos hs hk h, turned_ids hs hk⟩⟩
    · rcases act_err os o with h | h
      · exact act_ok hs hk h
      · rw [h]; exact hs
    · rcases turnP_any hs hk ha hb with h | ⟨h1, h2, -⟩
      · exact .inl h
      · exact .inr ⟨h1, h2⟩
  · rw [if_neg hk] at hr
    obtain ⟨rfl, rfl⟩ := Prod.mk.inj hr
    exact ⟨ok_len hs, hs, fun _ => rfl, fun i a b ha hb => by rw [ha] at hb; cases hb; exact .inl rfl, fun h => by simp at h⟩
end Go.Proofs.YtnolbfijcnldjaaGreatDoor
