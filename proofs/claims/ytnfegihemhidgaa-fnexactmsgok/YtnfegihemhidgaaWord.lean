/- Contracts of isLetter, isFigure, TreeWord and TreeBody, of the program and of the specification: each returns the same plain function of the text, at every text. -/
import Derived.Test.YtnfegihemhidgaaRows
import Derived.WalkKit
import Derived.ProofKit
import Derived.WalkSpells
import Derived.WalkLawsBesides
import Derived.Below
namespace Go.Proofs.Ytnfegihemhidgaa
open Go.RowKit

def ltr (c : Int) : Bool := decide (97 ≤ c) && decide (c ≤ 122)
def fig (c : Int) : Bool := decide (48 ≤ c) && decide (c ≤ 57)
def allB (p : Int → Bool) (l : List UInt8) : Bool := l.all fun c => p c.toNat
def word (l : List UInt8) : Bool := allB ltr l && decide (0 < l.length) && decide (l.length ≤ 4)
def ltrFig (c : Int) : Bool := ltr c || fig c
def body (l : List UInt8) : Bool := allB ltrFig l && decide (l.length ≤ 12)

theorem ltr_yes {c : Int} (h1 : 97 ≤ c) (h2 : c ≤ 122) : ltr c = true := by simp [ltr, h1, h2]
theorem ltr_lo {c : Int} (h1 : ¬ 97 ≤ c) : ltr c = false := by simp [ltr, h1]
theorem ltr_hi {c : Int} (h2 : ¬ c ≤ 122) : ltr c = false := by simp [ltr, h2]
theorem fig_yes {c : Int} (h1 : 48 ≤ c) (h2 : c ≤ 57) : fig c = true := by simp [fig, h1, h2]
theorem fig_lo {c : Int} (h1 : ¬ 48 ≤ c) : fig c = false := by simp [fig, h1]
theorem fig_hi {c : Int} (h2 : ¬ c ≤ 57) : fig c = false := by simp [fig, h2]

theorem take_snoc (s : ByteArray) (k : Nat) (h : k < s.size) : s.data.toList.take (k + 1) = s.data.toList.take k ++ [s[k]] := by
  rw [List.take_succ_eq_append_getElem (by simpa using h)]; rfl

theorem allB_take (p : Int → Bool) (s : ByteArray) (k : Nat) (h : k < s.size) : allB p (s.data.toList.take (k + 1)) = (allB p (s.data.toList.take k) && p s[k].toNat) := by
  rw [take_snoc s k h]; simp [allB]

theorem allB_no (p : Int → Bool) (s : ByteArray) (k : Nat) (h : k < s.size) (hp : p s[k].toNat = false) : allB p s.data.toList = false := by
  have : s.data.toList = s.data.toList.take (k + 1) ++ s.data.toList.drop (k + 1) := (List.take_append_drop _ _).symm
  rw [this]
  have h1 := allB_take p s k h
  rw [hp, Bool.and_false] at h1
  unfold allB at h1 ⊢
  rw [List.all_append, h1, Bool.false_and]

theorem allB_full (p : Int → Bool) (s : ByteArray) (k : Nat) (h : ¬ k < s.size) (hp : allB p (s.data.toList.take k) = true) : allB p s.data.toList = true := by
  rwa [List.take_of_length_le (by simp; omega)] at hp

theorem isLetter_any (c : Int) (w : World) : Calls Try.prog 110 #[.int .u8 c] w fun e w' => e = .returned (.bool (ltr c)) ∧ w' = w := by
  by_cases h1 : 97 ≤ c
  · by_cases h2 : c ≤ 122
    · rw [ltr_yes h1 h2]
      go_enter Try.func110, Try.ntmps110
      go_wp2
      go_ret
      exact ⟨rfl, rfl⟩
    · rw [ltr_hi h2]
      go_enter Try.func110, Try.ntmps110
      go_wp2
      go_ret
      exact ⟨rfl, rfl⟩
  · rw [ltr_lo h1]
    go_enter Try.func110, Try.ntmps110
    go_wp2
    go_ret
    exact ⟨rfl, rfl⟩

theorem isFigure_any (c : Int) (w : World) : Calls Try.prog 111 #[.int .u8 c] w fun e w' => e = .returned (.bool (fig c)) ∧ w' = w := by
  by_cases h1 : 48 ≤ c
  · by_cases h2 : c ≤ 57
    · rw [fig_yes h1 h2]
      go_enter Try.func111, Try.ntmps111
      go_wp2
      go_ret
      exact ⟨rfl, rfl⟩
    · rw [fig_hi h2]
      go_enter Try.func111, Try.ntmps111
      go_wp2
      go_ret
      exact ⟨rfl, rfl⟩
  · rw [fig_lo h1]
    go_enter Try.func111, Try.ntmps111
    go_wp2
    go_ret
    exact ⟨rfl, rfl⟩

theorem word_short {l : List UInt8} (h : l.length < 1) : word l = false := by simp [word]; omega
theorem word_long {l : List UInt8} (h : 4 < l.length) : word l = false := by simp [word]; omega
theorem word_all {l : List UInt8} (h : 1 ≤ l.length) (h' : l.length ≤ 4) : word l = allB ltr l := by
  have a : decide (0 < l.length) = true := by simp; omega
  have b : decide (l.length ≤ 4) = true := by simp; omega
  simp only [word, a, b, Bool.and_true]
theorem ret_bool {a b : Bool} (h : a = b) : Ending.returned (.bool a) = .returned (.bool b) := by rw [h]

set_option maxHeartbeats 400000 in
theorem implWord (s : ByteArray) (w : World) (hs : s.size ≤ maxLen) :
    Calls Try.prog 112 #[.string s] w fun e w' => e = .returned (.bool (word s.data.toList)) ∧ w' = w := by
  unfold maxLen at hs
  have hl : s.data.toList.length = s.size := by simp
  by_cases h1 : s.size < 1
  · rw [word_short (by omega)]
    go_enter Try.func112, Try.ntmps112
    go_wp2
    go_ret
    exact ⟨rfl, rfl⟩
  by_cases h4 : 4 < s.size
  · rw [word_long (by omega)]
    go_enter Try.func112, Try.ntmps112
    go_wp2
    go_ret
    exact ⟨rfl, rfl⟩
  rw [word_all (by omega) (by omega)]
  clear hl
  go_enter Try.func112, Try.ntmps112
  go_wp2
  go_loop [14] (fun i => ∃ k : Nat, k ≤ s.size ∧ i = .int .i64 k ∧ allB ltr (s.data.toList.take k) = true) (fun i => s.size - (intOf i).toNat)
  case atStart => exact ⟨0, Nat.zero_le _, rfl, rfl⟩
  case round =>
    obtain ⟨k, hk, rfl, ha⟩ := hrel
    have HA : Hid (allB ltr (s.data.toList.take k) = true) := ha
    clear ha
    by_cases hlt : k < s.size
    · cases hp : ltr s[k].toNat
      · have HP : Hid (ltr s[k].toNat = false) := hp
        clear hp
        go_wp2_with (go_at_call 110; refine (isLetter_any _ _).mono ?_; rintro e w' ⟨rfl, rfl⟩; rw [HP.out])
        go_ret
        exact ⟨ret_bool (allB_no _ _ _ hlt HP.out).symm, rfl⟩
      · have HP : Hid (ltr s[k].toNat = true) := hp
        clear hp
        go_wp2_with (go_at_call 110; refine (isLetter_any _ _).mono ?_; rintro e w' ⟨rfl, rfl⟩; rw [HP.out])
        go_round
        case rel => exact ⟨k + 1, by omega, by go_num, by rw [allB_take _ _ _ hlt, HA.out, HP.out]; rfl⟩
        case measure => simp [intOf]; omega
    · go_wp2
      go_ret
      exact ⟨ret_bool (allB_full _ _ _ hlt HA.out).symm, rfl⟩

theorem word_no {l : List UInt8} (h : allB ltr l = false) : word l = false := by simp [word, h]
theorem word_yes {l : List UInt8} (h : allB ltr l = true) : word l = (decide (0 < l.length) && decide (l.length ≤ 4)) := by simp [word, h]
theorem body_no {l : List UInt8} (h : allB ltrFig l = false) : body l = false := by simp [body, h]
theorem body_yes {l : List UInt8} (h : allB ltrFig l = true) : body l = decide (l.length ≤ 12) := by simp [body, h]
theorem body_long {l : List UInt8} (h : 12 < l.length) : body l = false := by simp [body]; omega
theorem body_all {l : List UInt8} (h' : l.length ≤ 12) : body l = allB ltrFig l := by
  have b : decide (l.length ≤ 12) = true := by simp; omega
  simp only [body, b, Bool.and_true]
theorem byte_bd (s : ByteArray) (k : Nat) (h : k < s.size) : 0 ≤ (s[k].toNat : Int) ∧ (s[k].toNat : Int) ≤ 255 := by
  have := s[k].toNat_lt; omega

theorem word_end1 (s : ByteArray) (h : allB ltr s.data.toList = true) (h0 : 0 < s.size) : decide ((s.size : Int) ≤ 4) = word s.data.toList := by
  have hl : s.data.toList.length = s.size := by simp
  rw [word_yes h, hl, Bool.eq_iff_iff]; simp; omega
theorem word_end0 (s : ByteArray) (h0 : ¬ 0 < s.size) : false = word s.data.toList := by
  have hl : s.data.toList.length = s.size := by simp
  exact (word_short (by omega)).symm
theorem body_end (s : ByteArray) (h : allB ltrFig s.data.toList = true) : decide ((s.size : Int) ≤ 12) = body s.data.toList := by
  have hl : s.data.toList.length = s.size := by simp
  rw [body_yes h, hl, Bool.eq_iff_iff]; simp; omega

set_option maxHeartbeats 400000 in
theorem specWord (s : ByteArray) (w : World) (hs : s.size ≤ maxLen) :
    Calls Try.prog 78 #[.string s] w fun e w' => e = .returned (.bool (word s.data.toList)) ∧ w' = w := by
  unfold maxLen at hs
  go_enter Try.func78, Try.ntmps78
  go_wp2
  go_loop [3] (fun i => ∃ k : Nat, k ≤ s.size ∧ i = .int .i64 k ∧ allB ltr (s.data.toList.take k) = true) (fun i => s.size - (intOf i).toNat)
  case atStart => exact ⟨0, Nat.zero_le _, rfl, rfl⟩
  case round =>
    obtain ⟨k, hk, rfl, ha⟩ := hrel
    have HA : Hid (allB ltr (s.data.toList.take k) = true) := ha
    clear ha
    by_cases hlt : k < s.size
    · by_cases h1 : 97 ≤ (s[k].toNat : Int)
      · by_cases h2 : (s[k].toNat : Int) ≤ 122
        · go_wp2
          go_round
          case rel => exact ⟨k + 1, by omega, by go_num, by rw [allB_take _ _ _ hlt, HA.out, ltr_yes h1 h2]; rfl⟩
          case measure => simp [intOf]; omega
        · go_wp2
          go_ret
          exact ⟨ret_bool (word_no (allB_no _ _ _ hlt (ltr_hi (by omega)))).symm, rfl⟩
      · go_wp2
        go_ret
        exact ⟨ret_bool (word_no (allB_no _ _ _ hlt (ltr_lo (by omega)))).symm, rfl⟩
    · by_cases h0 : 0 < s.size
      · go_wp2
        go_ret
        exact ⟨ret_bool (word_end1 s (allB_full _ _ _ hlt HA.out) h0), rfl⟩
      · go_wp2
        go_ret
        exact ⟨ret_bool (word_end0 s h0), rfl⟩

theorem lf_ltr {c : Int} (h1 : 97 ≤ c) (h2 : c ≤ 122) : ltrFig c = true := by simp [ltrFig, ltr_yes h1 h2]
theorem lf_fig {c : Int} (h1 : 48 ≤ c) (h2 : c ≤ 57) : ltrFig c = true := by simp [ltrFig, fig_yes h1 h2]
theorem lf_no {c : Int} (h : ¬ 97 ≤ c ∨ ¬ c ≤ 122) (h' : ¬ 48 ≤ c ∨ ¬ c ≤ 57) : ltrFig c = false := by
  rcases h with h | h <;> rcases h' with h' | h' <;> simp [ltrFig, ltr, fig, h, h']

set_option maxHeartbeats 800000 in
theorem specBody (s : ByteArray) (w : World) (hs : s.size ≤ maxLen) :
    Calls Try.prog 59 #[.string s] w fun e w' => e = .returned (.bool (body s.data.toList)) ∧ w' = w := by
  unfold maxLen at hs
  go_enter Try.func59, Try.ntmps59
  go_wp2
  go_loop [3] (fun i => ∃ k : Nat, k ≤ s.size ∧ i = .int .i64 k ∧ allB ltrFig (s.data.toList.take k) = true) (fun i => s.size - (intOf i).toNat)
  case atStart => exact ⟨0, Nat.zero_le _, rfl, rfl⟩
  case round =>
    obtain ⟨k, hk, rfl, ha⟩ := hrel
    have HA : Hid (allB ltrFig (s.data.toList.take k) = true) := ha
    clear ha
    by_cases hlt : k < s.size
    · by_cases h1 : 97 ≤ (s[k].toNat : Int)
      · by_cases h2 : (s[k].toNat : Int) ≤ 122
        · go_wp2
          go_round
          case rel => exact ⟨k + 1, by omega, by go_num, by rw [allB_take _ _ _ hlt, HA.out, lf_ltr h1 h2]; rfl⟩
          case measure => simp [intOf]; omega
        · have h3 : 48 ≤ (s[k].toNat : Int) := by omega
          have h4 : ¬ (s[k].toNat : Int) ≤ 57 := by omega
          go_wp2
          go_ret
          exact ⟨ret_bool (body_no (allB_no _ _ _ hlt (lf_no (.inr (by omega)) (.inr (by omega))))).symm, rfl⟩
      · by_cases h3 : 48 ≤ (s[k].toNat : Int)
        · by_cases h4 : (s[k].toNat : Int) ≤ 57
          · go_wp2
            go_round
            case rel => exact ⟨k + 1, by omega, by go_num, by rw [allB_take _ _ _ hlt, HA.out, lf_fig h3 h4]; rfl⟩
            case measure => simp [intOf]; omega
          · go_wp2
            go_ret
            exact ⟨ret_bool (body_no (allB_no _ _ _ hlt (lf_no (.inl (by omega)) (.inr (by omega))))).symm, rfl⟩
        · go_wp2
          go_ret
          exact ⟨ret_bool (body_no (allB_no _ _ _ hlt (lf_no (.inl (by omega)) (.inl (by omega))))).symm, rfl⟩
    · go_wp2
      go_ret
      exact ⟨ret_bool (body_end s (allB_full _ _ _ hlt HA.out)), rfl⟩

set_option maxHeartbeats 800000 in
theorem implBody (s : ByteArray) (w : World) (hs : s.size ≤ maxLen) :
    Calls Try.prog 103 #[.string s] w fun e w' => e = .returned (.bool (body s.data.toList)) ∧ w' = w := by
  unfold maxLen at hs
  have hl : s.data.toList.length = s.size := by simp
  by_cases h4 : 12 < s.size
  · rw [body_long (by omega)]
    go_enter Try.func103, Try.ntmps103
    go_wp2
    go_ret
    exact ⟨rfl, rfl⟩
  rw [body_all (by omega)]
  clear hl
  go_enter Try.func103, Try.ntmps103
  go_wp2
  go_loop [9] (fun i => ∃ k : Nat, k ≤ s.size ∧ i = .int .i64 k ∧ allB ltrFig (s.data.toList.take k) = true) (fun i => s.size - (intOf i).toNat)
  case atStart => exact ⟨0, Nat.zero_le _, rfl, rfl⟩
  case round =>
    obtain ⟨k, hk, rfl, ha⟩ := hrel
    have HA : Hid (allB ltrFig (s.data.toList.take k) = true) := ha
    clear ha
    by_cases hlt : k < s.size
    · cases hp : ltr s[k].toNat
      · have HP : Hid (ltr s[k].toNat = false) := hp
        clear hp
        cases hf : fig s[k].toNat
        · have HF : Hid (fig s[k].toNat = false) := hf
          clear hf
          go_wp2_with (first | (go_at_call 110; refine (isLetter_any _ _).mono ?_; rintro e w' ⟨rfl, rfl⟩; rw [HP.out]) | (go_at_call 111; refine (isFigure_any _ _).mono ?_; rintro e w' ⟨rfl, rfl⟩; rw [HF.out]))
          go_ret
          exact ⟨ret_bool (allB_no _ _ _ hlt (by simp [ltrFig, HP.out, HF.out])).symm, rfl⟩
        · have HF : Hid (fig s[k].toNat = true) := hf
          clear hf
          go_wp2_with (first | (go_at_call 110; refine (isLetter_any _ _).mono ?_; rintro e w' ⟨rfl, rfl⟩; rw [HP.out]) | (go_at_call 111; refine (isFigure_any _ _).mono ?_; rintro e w' ⟨rfl, rfl⟩; rw [HF.out]))
          go_round
          case rel => exact ⟨k + 1, by omega, by go_num, by rw [allB_take _ _ _ hlt, HA.out]; simp [ltrFig, HF.out]⟩
          case measure => simp [intOf]; omega
      · have HP : Hid (ltr s[k].toNat = true) := hp
        clear hp
        go_wp2_with (go_at_call 110; refine (isLetter_any _ _).mono ?_; rintro e w' ⟨rfl, rfl⟩; rw [HP.out])
        go_round
        case rel => exact ⟨k + 1, by omega, by go_num, by rw [allB_take _ _ _ hlt, HA.out]; simp [ltrFig, HP.out]⟩
        case measure => simp [intOf]; omega
    · go_wp2
      go_ret
      exact ⟨ret_bool (allB_full _ _ _ hlt HA.out).symm, rfl⟩
end Go.Proofs.Ytnfegihemhidgaa
