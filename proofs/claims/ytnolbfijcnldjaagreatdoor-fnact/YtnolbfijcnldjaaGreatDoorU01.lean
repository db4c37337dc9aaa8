/- Lemmas that the proofs of this seat share: Word, Mem, Reader, Eq. -/
import Derived.Test.YtnolbfijcnldjaaGreatDoorChecked
import GoSem.Claim
import GoSem.ClaimJoined
import GoSem.ClaimMapViews
import Derived.JoinedTies
import Derived.KernelRfl
import Derived.RowKit
import Derived.WalkKit
import Derived.ProofKit
import Derived.WalkSpells
import Derived.WalkLawsBesides
import Derived.Below
import Derived.Deep.QuietTactic
import Derived.BigQuiet
import Derived.Deep.RegionWith
import Derived.Deep.LoopGhost
import Derived.Deep.OwnRows
import Derived.Outline
import Derived.Laws.BitsAllLaws
/- Contracts of isLetter, isFigure, TreeWord and TreeBody, of the program and of the specification: each returns the same plain function of the text, at every text. -/
namespace Go.Proofs.YtnolbfijcnldjaaGreatDoor
open Go.RowKit

def ltr (c : Int) : Bool := decide (97 ≤ c) && decide (c ≤ 122)
def fig (c : Int) : Bool := decide (48 ≤ c) && decide (c ≤ 57)
def allB (p : Int → Bool) (l : List UInt8) : Bool := l.all fun c => p c.toNat
def word (l : List UInt8) : Bool := allB ltr l && decide (0 < l.length) && decide (l.length ≤ 4)
def ltrFig (c : Int) : Bool := ltr c || fig c
def body (l : List UInt8) : Bool := allB ltrFig l && decide (l.length ≤ 12)

theorem ltr_yes {c : Int} (h1 : 97 ≤ c) (h2 : c ≤ 122) : ltr c = true := by simp [ltr, h1, h2]
theorem ltr_lo {c : Int} (h1 : ¬ 97 ≤ c) : ltr c = false := by simp [ltr, h1]
theorem ltr_hi {c : Int} (h2 : ¬ c ≤ 122) : ltr c = false := by simp [ltr, h2]
theorem fig_yes {c : Int} (h1 : 48 ≤ c) (h2 : c ≤ 57) : fig c = true := by simp [fig, h1, h2]
theorem fig_lo {c : Int} (h1 : ¬ 48 ≤ c) : fig c = false := by simp [fig, h1]
theorem fig_hi {c : Int} (h2 : ¬ c ≤ 57) : fig c = false := by simp [fig, h2]

theorem take_snoc (s : ByteArray) (k : Nat) (h : k < s.size) : s.data.toList.take (k + 1) = s.data.toList.take k ++ [s[k]] := by
  rw [List.take_succ_eq_append_getElem (by simpa using h)]; rfl

theorem allB_take (p : Int → Bool) (s : ByteArray) (k : Nat) (h : k < s.size) : allB p (s.data.toList.take (k + 1)) = (allB p (s.data.toList.take k) && p s[k].toNat) := by
  rw [take_snoc s k h]; simp [allB]

theorem allB_no (p : Int → Bool) (s : ByteArray) (k : Nat) (h : k < s.size) (hp : p s[k].toNat = false) : allB p s.data.toList = false := by
  have : s.data.toList = s.data.toList.take (k + 1) ++ s.data.toList.drop (k + 1) := (List.take_append_drop _ _).symm
  rw [this]
  have h1 := allB_take p s k h
  rw [hp, Bool.and_false] at h1
  unfold allB at h1 ⊢
  rw [List.all_append, h1, Bool.false_and]

theorem allB_full (p : Int → Bool) (s : ByteArray) (k : Nat) (h : ¬ k < s.size) (hp : allB p (s.data.toList.take k) = true) : allB p s.data.toList = true := by
  rwa [List.take_of_length_le (by simp; omega)] at hp

theorem isLetter_any (c : Int) (w : World) : Calls Tryz.prog 197 #[.int .u8 c] w fun e w' => e = .returned (.bool (ltr c)) ∧ w' = w := by
  by_cases h1 : 97 ≤ c
  · by_cases h2 : c ≤ 122
    · rw [ltr_yes h1 h2]
      go_enter Tryz.func197, Tryz.ntmps197
      go_wp2
      go_ret
      exact ⟨rfl, rfl⟩
    · rw [ltr_hi h2]
      go_enter Tryz.func197, Tryz.ntmps197
      go_wp2
      go_ret
      exact ⟨rfl, rfl⟩
  · rw [ltr_lo h1]
    go_enter Tryz.func197, Tryz.ntmps197
    go_wp2
    go_ret
    exact ⟨rfl, rfl⟩

theorem isFigure_any (c : Int) (w : World) : Calls Tryz.prog 198 #[.int .u8 c] w fun e w' => e = .returned (.bool (fig c)) ∧ w' = w := by
  by_cases h1 : 48 ≤ c
  · by_cases h2 : c ≤ 57
    · rw [fig_yes h1 h2]
      go_enter Tryz.func198, Tryz.ntmps198
      go_wp2
      go_ret
      exact ⟨rfl, rfl⟩
    · rw [fig_hi h2]
      go_enter Tryz.func198, Tryz.ntmps198
      go_wp2
      go_ret
      exact ⟨rfl, rfl⟩
  · rw [fig_lo h1]
    go_enter Tryz.func198, Tryz.ntmps198
    go_wp2
    go_ret
    exact ⟨rfl, rfl⟩

theorem word_short {l : List UInt8} (h : l.length < 1) : word l = false := by simp [word]; omega
theorem word_long {l : List UInt8} (h : 4 < l.length) : word l = false := by simp [word]; omega
theorem word_all {l : List UInt8} (h : 1 ≤ l.length) (h' : l.length ≤ 4) : word l = allB ltr l := by
  have a : decide (0 < l.length) = true := by simp; omega
  have b : decide (l.length ≤ 4) = true := by simp; omega
  simp only [word, a, b, Bool.and_true]
theorem ret_bool {a b : Bool} (h : a = b) : Ending.returned (.bool a) = .returned (.bool b) := by rw [h]

set_option maxHeartbeats 400000 in
theorem implWord (s : ByteArray) (w : World) (hs : s.size ≤ maxLen) :
    Calls Tryz.prog 199 #[.string s] w fun e w' => e = .returned (.bool (word s.data.toList)) ∧ w' = w := by
  unfold maxLen at hs
  have hl : s.data.toList.length = s.size := by simp
  by_cases h1 : s.size < 1
  · rw [word_short (by omega)]
    go_enter Tryz.func199, Tryz.ntmps199
    go_wp2
    go_ret
    exact ⟨rfl, rfl⟩
  by_cases h4 : 4 < s.size
  · rw [word_long (by omega)]
    go_enter Tryz.func199, Tryz.ntmps199
    go_wp2
    go_ret
    exact ⟨rfl, rfl⟩
  rw [word_all (by omega) (by omega)]
  clear hl
  go_enter Tryz.func199, Tryz.ntmps199
  go_wp2
  go_loop [14] (fun i => ∃ k : Nat, k ≤ s.size ∧ i = .int .i64 k ∧ allB ltr (s.data.toList.take k) = true) (fun i => s.size - (intOf i).toNat)
  case atStart => exact ⟨0, Nat.zero_le _, rfl, rfl⟩
  case round =>
    obtain ⟨k, hk, rfl, ha⟩ := hrel
    have HA : Hid (allB ltr (s.data.toList.take k) = true) := ha
    clear ha
    by_cases hlt : k < s.size
    · cases hp : ltr s[k].toNat
      · have HP : Hid (ltr s[k].toNat = false) := hp
        clear hp
        go_wp2_with (go_at_call 197; refine (isLetter_any _ _).mono ?_; rintro e w' ⟨rfl, rfl⟩; rw [HP.out])
        go_ret
        exact ⟨ret_bool (allB_no _ _ _ hlt HP.out).symm, rfl⟩
      · have HP : Hid (ltr s[k].toNat = true) := hp
        clear hp
        go_wp2_with (go_at_call 197; refine (isLetter_any _ _).mono ?_; rintro e w' ⟨rfl, rfl⟩; rw [HP.out])
        go_round
        case rel => exact ⟨k + 1, by omega, by go_num, by rw [allB_take _ _ _ hlt, HA.out, HP.out]; rfl⟩
        case measure => simp [intOf]; omega
    · go_wp2
      go_ret
      exact ⟨ret_bool (allB_full _ _ _ hlt HA.out).symm, rfl⟩

theorem word_no {l : List UInt8} (h : allB ltr l = false) : word l = false := by simp [word, h]
theorem word_yes {l : List UInt8} (h : allB ltr l = true) : word l = (decide (0 < l.length) && decide (l.length ≤ 4)) := by simp [word, h]
theorem body_no {l : List UInt8} (h : allB ltrFig l = false) : body l = false := by simp [body, h]
theorem body_yes {l : List UInt8} (h : allB ltrFig l = true) : body l = decide (l.length ≤ 12) := by simp [body, h]
theorem body_long {l : List UInt8} (h : 12 < l.length) : body l = false := by simp [body]; omega
theorem body_all {l : List UInt8} (h' : l.length ≤ 12) : body l = allB ltrFig l := by
  have b : decide (l.length ≤ 12) = true := by simp; omega
  simp only [body, b, Bool.and_true]
theorem word_end1 (s : ByteArray) (h : allB ltr s.data.toList = true) (h0 : 0 < s.size) : decide ((s.size : Int) ≤ 4) = word s.data.toList := by
  have hl : s.data.toList.length = s.size := by simp
  rw [word_yes h, hl, Bool.eq_iff_iff]; simp; omega
theorem word_end0 (s : ByteArray) (h0 : ¬ 0 < s.size) : false = word s.data.toList := by
  have hl : s.data.toList.length = s.size := by simp
  exact (word_short (by omega)).symm
theorem body_end (s : ByteArray) (h : allB ltrFig s.data.toList = true) : decide ((s.size : Int) ≤ 12) = body s.data.toList := by
  have hl : s.data.toList.length = s.size := by simp
  rw [body_yes h, hl, Bool.eq_iff_iff]; simp; omega

set_option maxHeartbeats 400000 in
theorem specWord (s : ByteArray) (w : World) (hs : s.size ≤ maxLen) :
    Calls Tryz.prog 89 #[.string s] w fun e w' => e = .returned (.bool (word s.data.toList)) ∧ w' = w := by
  unfold maxLen at hs
  go_enter Tryz.func89, Tryz.ntmps89
  go_wp2
  go_loop [3] (fun i => ∃ k : Nat, k ≤ s.size ∧ i = .int .i64 k ∧ allB ltr (s.data.toList.take k) = true) (fun i => s.size - (intOf i).toNat)
  case atStart => exact ⟨0, Nat.zero_le _, rfl, rfl⟩
  case round =>
    obtain ⟨k, hk, rfl, ha⟩ := hrel
    have HA : Hid (allB ltr (s.data.toList.take k) = true) := ha
    clear ha
    by_cases hlt : k < s.size
    · by_cases h1 : 97 ≤ (s[k].toNat : Int)
      · by_cases h2 : (s[k].toNat : Int) ≤ 122
        · go_wp2
          go_round
          case rel => exact ⟨k + 1, by omega, by go_num, by rw [allB_take _ _ _ hlt, HA.out, ltr_yes h1 h2]; rfl⟩
          case measure => simp [intOf]; omega
        · go_wp2
          go_ret
          exact ⟨ret_bool (word_no (allB_no _ _ _ hlt (ltr_hi (by omega)))).symm, rfl⟩
      · go_wp2
        go_ret
        exact ⟨ret_bool (word_no (allB_no _ _ _ hlt (ltr_lo (by omega)))).symm, rfl⟩
    · by_cases h0 : 0 < s.size
      · go_wp2
        go_ret
        exact ⟨ret_bool (word_end1 s (allB_full _ _ _ hlt HA.out) h0), rfl⟩
      · go_wp2
        go_ret
        exact ⟨ret_bool (word_end0 s h0), rfl⟩

theorem lf_ltr {c : Int} (h1 : 97 ≤ c) (h2 : c ≤ 122) : ltrFig c = true := by simp [ltrFig, ltr_yes h1 h2]
theorem lf_fig {c : Int} (h1 : 48 ≤ c) (h2 : c ≤ 57) : ltrFig c = true := by simp [ltrFig, fig_yes h1 h2]
theorem lf_no {c : Int} (h : ¬ 97 ≤ c ∨ ¬ c ≤ 122) (h' : ¬ 48 ≤ c ∨ ¬ c ≤ 57) : ltrFig c = false := by
  rcases h with h | h <;> rcases h' with h' | h' <;> simp [ltrFig, ltr, fig, h, h']

set_option maxHeartbeats 800000 in
theorem specBody (s : ByteArray) (w : World) (hs : s.size ≤ maxLen) :
    Calls Tryz.prog 90 #[.string s] w fun e w' => e = .returned (.bool (body s.data.toList)) ∧ w' = w := by
  unfold maxLen at hs
  go_enter Tryz.func90, Tryz.ntmps90
  go_wp2
  go_loop [3] (fun i => ∃ k : Nat, k ≤ s.size ∧ i = .int .i64 k ∧ allB ltrFig (s.data.toList.take k) = true) (fun i => s.size - (intOf i).toNat)
  case atStart => exact ⟨0, Nat.zero_le _, rfl, rfl⟩
  case round =>
    obtain ⟨k, hk, rfl, ha⟩ := hrel
    have HA : Hid (allB ltrFig (s.data.toList.take k) = true) := ha
    clear ha
    by_cases hlt : k < s.size
    · by_cases h1 : 97 ≤ (s[k].toNat : Int)
      · by_cases h2 : (s[k].toNat : Int) ≤ 122
        · go_wp2
          go_round
          case rel => exact ⟨k + 1, by omega, by go_num, by rw [allB_take _ _ _ hlt, HA.out, lf_ltr h1 h2]; rfl⟩
          case measure => simp [intOf]; omega
        · have h3 : 48 ≤ (s[k].toNat : Int) := by omega
          have h4 : ¬ (s[k].toNat : Int) ≤ 57 := by omega
          go_wp2
          go_ret
          exact ⟨ret_bool (body_no (allB_no _ _ _ hlt (lf_no (.inr (by omega)) (.inr (by omega))))).symm, rfl⟩
      · by_cases h3 : 48 ≤ (s[k].toNat : Int)
        · by_cases h4 : (s[k].toNat : Int) ≤ 57
          · go_wp2
            go_round
            case rel => exact ⟨k + 1, by omega, by go_num, by rw [allB_take _ _ _ hlt, HA.out, lf_fig h3 h4]; rfl⟩
            case measure => simp [intOf]; omega
          · go_wp2
            go_ret
            exact ⟨ret_bool (body_no (allB_no _ _ _ hlt (lf_no (.inl (by omega)) (.inr (by omega))))).symm, rfl⟩
        · go_wp2
          go_ret
          exact ⟨ret_bool (body_no (allB_no _ _ _ hlt (lf_no (.inl (by omega)) (.inl (by omega))))).symm, rfl⟩
    · go_wp2
      go_ret
      exact ⟨ret_bool (body_end s (allB_full _ _ _ hlt HA.out)), rfl⟩

set_option maxHeartbeats 800000 in
theorem implBody (s : ByteArray) (w : World) (hs : s.size ≤ maxLen) :
    Calls Tryz.prog 175 #[.string s] w fun e w' => e = .returned (.bool (body s.data.toList)) ∧ w' = w := by
  unfold maxLen at hs
  have hl : s.data.toList.length = s.size := by simp
  by_cases h4 : 12 < s.size
  · rw [body_long (by omega)]
    go_enter Tryz.func175, Tryz.ntmps175
    go_wp2
    go_ret
    exact ⟨rfl, rfl⟩
  rw [body_all (by omega)]
  clear hl
  go_enter Tryz.func175, Tryz.ntmps175
  go_wp2
  go_loop [9] (fun i => ∃ k : Nat, k ≤ s.size ∧ i = .int .i64 k ∧ allB ltrFig (s.data.toList.take k) = true) (fun i => s.size - (intOf i).toNat)
  case atStart => exact ⟨0, Nat.zero_le _, rfl, rfl⟩
  case round =>
    obtain ⟨k, hk, rfl, ha⟩ := hrel
    have HA : Hid (allB ltrFig (s.data.toList.take k) = true) := ha
    clear ha
    by_cases hlt : k < s.size
    · cases hp : ltr s[k].toNat
      · have HP : Hid (ltr s[k].toNat = false) := hp
        clear hp
        cases hf : fig s[k].toNat
        · have HF : Hid (fig s[k].toNat = false) := hf
          clear hf
          go_wp2_with (first | (go_at_call 197; refine (isLetter_any _ _).mono ?_; rintro e w' ⟨rfl, rfl⟩; rw [HP.out]) | (go_at_call 198; refine (isFigure_any _ _).mono ?_; rintro e w' ⟨rfl, rfl⟩; rw [HF.out]))
          go_ret
          exact ⟨ret_bool (allB_no _ _ _ hlt (by simp [ltrFig, HP.out, HF.out])).symm, rfl⟩
        · have HF : Hid (fig s[k].toNat = true) := hf
          clear hf
          go_wp2_with (first | (go_at_call 197; refine (isLetter_any _ _).mono ?_; rintro e w' ⟨rfl, rfl⟩; rw [HP.out]) | (go_at_call 198; refine (isFigure_any _ _).mono ?_; rintro e w' ⟨rfl, rfl⟩; rw [HF.out]))
          go_round
          case rel => exact ⟨k + 1, by omega, by go_num, by rw [allB_take _ _ _ hlt, HA.out]; simp [ltrFig, HF.out]⟩
          case measure => simp [intOf]; omega
      · have HP : Hid (ltr s[k].toNat = true) := hp
        clear hp
        go_wp2_with (go_at_call 197; refine (isLetter_any _ _).mono ?_; rintro e w' ⟨rfl, rfl⟩; rw [HP.out])
        go_round
        case rel => exact ⟨k + 1, by omega, by go_num, by rw [allB_take _ _ _ hlt, HA.out]; simp [ltrFig, HP.out]⟩
        case measure => simp [intOf]; omega
    · go_wp2
      go_ret
      exact ⟨ret_bool (allB_full _ _ _ hlt HA.out).symm, rfl⟩
end Go.Proofs.YtnolbfijcnldjaaGreatDoor

/- What trees, objects and names are in memory; contracts of the law's szTree and toTree. -/
namespace Go.Proofs.YtnolbfijcnldjaaGreatDoor
open Go.RowKit

structure LEnt where
  name : ByteArray
  id : Int
structure LObj where
  kind : Int
  ver : Int
  text : ByteArray
  kids : List LEnt

set_option maxHeartbeats 400000 in
theorem szEnt_any (s : ByteArray) (i left : Int) (w : World) (h0 : 0 ≤ left) (h1 : left ≤ 1048576) (hs : s.size ≤ maxLen) :
    Calls Tryz.prog 202 #[.agg #[.string s, .int .i64 i], .int .i64 left] w fun e w' => (∃ r : Int, e = .returned (.int .i64 r) ∧ (r = -1 ∨ (0 ≤ r ∧ r = left - s.size))) ∧ Below w.heap.size w w' := by
  unfold maxLen at hs
  by_cases h : left - s.size < 0
  · go_enter Tryz.func202, Tryz.ntmps202
    go_wp2
    go_ret
    exact ⟨⟨-1, rfl, .inl rfl⟩, (Below.refl _ _).alloc (Nat.le_refl _) _⟩
  · go_enter Tryz.func202, Tryz.ntmps202
    go_wp2
    go_ret
    exact ⟨⟨left - s.size, rfl, .inr ⟨by omega, rfl⟩⟩, (Below.refl _ _).alloc (Nat.le_refl _) _⟩


theorem eqEnt_same (s : ByteArray) (i : Int) (w : World) :
    Calls Tryz.prog 204 #[.agg #[.string s, .int .i64 i], .agg #[.string s, .int .i64 i]] w fun e w' => e = .returned (.bool true) ∧ Below w.heap.size w w' := by
  go_enter Tryz.func204, Tryz.ntmps204
  go_wp2
  go_ret
  exact ⟨by simp, ((Below.refl _ _).alloc (Nat.le_refl _) _).alloc (by simp) _⟩

theorem toEnt_any (s : ByteArray) (i : Int) (w : World) :
    Calls Tryz.prog 203 #[.agg #[.string s, .int .i64 i]] w fun e w' => e = .returned (.agg #[.string s, .int .i64 i]) ∧ Below w.heap.size w w' := by
  go_enter Tryz.func203, Tryz.ntmps203
  go_wp2
  exact bodyPost_ret (v := .agg #[.string s, .int .i64 i]) (by simp [results, Tryz.results203, go_sem]) rfl ⟨rfl, by
    repeat (first | exact Below.refl _ _ | refine Below.setCell ?_ (by simp <;> omega) _ | refine Below.alloc ?_ (by simp <;> omega) _)⟩

/-- What a slice of names is: its length; if there is one, an address, and at it the names. All of it lies in blocks from L on and below U. -/
structure EntsAt (w : World) (L U : Nat) (a : Option Addr) (n : Nat) (es : List LEnt) : Prop where
  len : n = es.length
  bd : n ≤ maxLen
  at_ : n ≠ 0 → ∃ b off, a = some ⟨b, off, none⟩ ∧ L ≤ b ∧ b < U ∧ ∀ i, i < n → ∃ e, es[i]? = some e ∧ e.name.size ≤ maxLen ∧ w.cell? ⟨b, off + i * 2, none⟩ = some (.string e.name) ∧ w.cell? ⟨b, off + i * 2 + 1, none⟩ = some (.int .i64 e.id)

def tot (es : List LEnt) : Nat := (es.map fun e => e.name.size).sum


theorem tot_take {es : List LEnt} {j : Nat} {e : LEnt} (h : es[j]? = some e) : tot (es.take (j + 1)) = tot (es.take j) + e.name.size := by
  have hj : j < es.length := (List.getElem?_eq_some_iff.1 h).1
  rw [List.take_succ_eq_append_getElem hj]
  have : es[j] = e := (List.getElem?_eq_some_iff.1 h).2
  simp [tot, this]

set_option maxHeartbeats 400000 in
theorem szEntS_any (a : Option Addr) (n c : Nat) (es : List LEnt) (L U : Nat) (left : Int) (w : World) (h0 : 0 ≤ left) (h1 : left ≤ 1048576) (hU : U ≤ w.heap.size) (H : EntsAt w L U a n es) :
    Calls Tryz.prog 194 #[.slice a n c, .int .i64 left] w fun e w' => (∃ r : Int, e = .returned (.int .i64 r) ∧ (r = -1 ∨ (0 ≤ r ∧ r = left - n - tot es))) ∧ Below w.heap.size w w' := by
  have hbd := H.bd
  unfold maxLen at hbd
  by_cases h : left - n < 0
  · go_enter Tryz.func194, Tryz.ntmps194
    go_wp2
    go_ret
    exact ⟨⟨-1, rfl, .inl rfl⟩, Below.refl _ _⟩
  · go_enter Tryz.func194, Tryz.ntmps194
    go_wp2
    go_loopg [1, 5] n (fun k l i wr => ∃ j : Nat, j ≤ n ∧ Hid (k = n - j) ∧ i = .int .i64 j ∧ (∃ r : Int, l = .int .i64 r ∧ 0 ≤ r ∧ r ≤ 1048576 ∧ Hid (r = left - n - tot (es.take j))) ∧ Below w.heap.size w wr)
    case atStart => exact ⟨0, Nat.zero_le _, by show _ = _; omega, rfl, ⟨_, rfl, by omega, by omega, by show _ = _; simp [tot]⟩, Below.refl _ _⟩
    case round =>
      obtain ⟨j, hj, hk, rfl, ⟨r, rfl, hr0, hr1, hr⟩, hb⟩ := hrel
      by_cases hlt : j < n
      · obtain ⟨b, off, ha, hL, hbU, hc⟩ := H.at_ (by omega)
        subst ha
        obtain ⟨e, he, hsz, hc0, hc1⟩ := hc j hlt
        rw [← hb.cell (by simp; omega)] at hc0 hc1
        have HE : Hid (es[j]? = some e) := he
        clear he hc
        go_wp2_with fail
        refine (szEnt_any _ _ _ _ hr0 hr1 hsz).mono ?_
        rintro x w1 ⟨⟨r1, rfl, hr1'⟩, hb1⟩
        have HR : Hid (r1 = -1 ∨ 0 ≤ r1 ∧ r1 = r - e.name.size) := hr1'
        clear hr1'
        by_cases hneg : r1 < 0
        · go_wp2_with fail
          go_ret
          exact ⟨⟨-1, rfl, .inl rfl⟩, hb.trans (hb1.mono hb.size)⟩
        · go_wp2_with fail
          go_roundg (n - (j + 1))
          case measure => have := hk.out; omega
          case rel =>
            have := HR.out
            have h3 := tot_take HE.out
            have h4 := hr.out
            exact ⟨j + 1, by omega, rfl, by go_num, ⟨r1, rfl, by omega, by omega, by show _ = _; omega⟩, hb.trans (hb1.mono hb.size)⟩
      · go_wp2_with fail
        go_ret
        have h4 := hr.out
        rw [List.take_of_length_le (by have := H.len; omega)] at h4
        exact ⟨⟨r, rfl, .inr ⟨hr0, h4⟩⟩, hb⟩

theorem EntsAt.below {w w' : World} {L U B : Nat} {a : Option Addr} {n : Nat} {es : List LEnt} (h : EntsAt w L U a n es) (hb : Below B w w') (hU : U ≤ B) : EntsAt w' L U a n es :=
  ⟨h.len, h.bd, fun hn => by
    obtain ⟨b, off, ha, hL, hbU, hc⟩ := h.at_ hn
    refine ⟨b, off, ha, hL, hbU, fun i hi => ?_⟩
    obtain ⟨e, he, hs, h0, h1⟩ := hc i hi
    exact ⟨e, he, hs, by rw [hb.cell (by simp; omega)]; exact h0, by rw [hb.cell (by simp; omega)]; exact h1⟩⟩
theorem EntsAt.wide {w : World} {L U L' U' : Nat} {a : Option Addr} {n : Nat} {es : List LEnt} (h : EntsAt w L U a n es) (hL' : L' ≤ L) (hU : U ≤ U') : EntsAt w L' U' a n es :=
  ⟨h.len, h.bd, fun hn => by
    obtain ⟨b, off, ha, hL, hbU, hc⟩ := h.at_ hn
    exact ⟨b, off, ha, by omega, by omega, hc⟩⟩
theorem EntsAt.setCell {w : World} {L U : Nat} {a : Option Addr} {n : Nat} {es : List LEnt} (h : EntsAt w L U a n es) (p : Addr) (v : Value) (hp : p.block < L) : EntsAt (w.setCell p v) L U a n es :=
  ⟨h.len, h.bd, fun hn => by
    obtain ⟨b, off, ha, hL, hbU, hc⟩ := h.at_ hn
    refine ⟨b, off, ha, hL, hbU, fun i hi => ?_⟩
    obtain ⟨e, he, hs, h0, h1⟩ := hc i hi
    have hk := Below.heap_setCell w p v b (by omega)
    exact ⟨e, he, hs, by rw [World.cell?_of_block (w := w) hk]; exact h0, by rw [World.cell?_of_block (w := w) hk]; exact h1⟩⟩

theorem bcell {W w1 : World} (hb : Below W.heap.size W w1) : (∀ b o, b < W.heap.size → w1.cell? ⟨b, o, none⟩ = W.cell? ⟨b, o, none⟩) ∧ (∀ b o, b < W.heap.size → w1.frozen? ⟨b, o, none⟩ = W.frozen? ⟨b, o, none⟩) :=
  ⟨fun b o h => hb.cell (p := ⟨b, o, none⟩) h, fun b o h => hb.frozen (p := ⟨b, o, none⟩) h⟩

theorem run_make_many (t e : TypeId) (zs : Array Value) (size bytes : Nat) (ht : Tryz.prog.underlying t = some (.slice e)) (hinfo : (Tryz.prog.info? e).map (fun i => (i.zero.map (·.cells), i.size, i.bytes)) = some (some zs, size, bytes))
    (n : Nat) (hbytes : bytes * n ≤ 281474976710656) (h63 : n ≤ 9223372036854775807) (w : World) :
    (Instr.makeSlice t (.int .i64 (n : Int)) (.int .i64 (n : Int))).run Tryz.prog w = .ok (.slice (some ⟨w.heap.size, 0, none⟩) n n) (w.alloc (.cells (madeCells zs (n * size)) e)) := by
  obtain ⟨i, hi, hq⟩ := Option.map_eq_some_iff.1 hinfo
  simp only [Prod.mk.injEq, Option.map_eq_some_iff] at hq
  obtain ⟨⟨z, hz, hzc⟩, hsz, hby⟩ := hq
  have hb' : (i.bytes : Int) * (n : Int) ≤ 281474976710656 := by
    rw [hby]
    have h : ((bytes * n : Nat) : Int) ≤ 281474976710656 := by omega
    rwa [Int.natCast_mul] at h
  have hr := run_make (P := Tryz.prog) w t e i z ht hi hz .i64 .i64 n n (by omega) (Int.le_refl _) hb' (by omega)
  simp only [Int.toNat_natCast, hsz, hzc] at hr
  exact hr

theorem rowIs_many (w : World) (zs : Array Value) (n : Nat) (t : TypeId) : ∃ f, (w.alloc (.cells (madeCells zs n) t)).rowIs w.heap.size t n f := by
  refine ⟨fun i => (madeCells zs n)[i]?.getD default, ?_⟩
  have := World.rowIs_alloc w (madeCells zs n) t (fun i => (madeCells zs n)[i]?.getD default) (fun i hi => by simp [hi])
  rwa [size_madeCells] at this

theorem info47 : (Tryz.prog.info? 53).map (fun i => (i.zero.map (·.cells), i.size, i.bytes)) = some (some #[.string ByteArray.empty, .int .i64 0], 2, 24) := by kernel_rfl
theorem info34 : (Tryz.prog.info? 38).map (fun i => (i.zero.map (·.cells), i.size, i.bytes)) = some (some #[.int .i64 0, .int .i64 0, .string ByteArray.empty, .slice none 0 0], 4, 56) := by kernel_rfl

set_option maxHeartbeats 400000 in
theorem toEntS_any (a : Option Addr) (n c : Nat) (es : List LEnt) (L U : Nat) (w : World) (hn : n ≤ 1048576) (hU : U ≤ w.heap.size) (H : EntsAt w L U a n es) :
    Calls Tryz.prog 195 #[.slice a n c] w fun e w' => (∃ b, e = .returned (.slice (some ⟨b, 0, none⟩) n n) ∧ EntsAt w' w.heap.size w'.heap.size (some ⟨b, 0, none⟩) n es) ∧ Below w.heap.size w w' := by
  have hmk := run_make_many 36 53 _ 2 24 Tryz.underlying36 info47 n (by omega) (by omega)
  obtain ⟨f0, hf0⟩ := rowIs_many w #[.string ByteArray.empty, .int .i64 0] (n * 2) 53
  have HF0 : Hid ((w.alloc (.cells (madeCells #[.string ByteArray.empty, .int .i64 0] (n * 2)) 53)).rowIs w.heap.size 53 (n * 2) f0) := hf0
  clear hf0
  go_enter Tryz.func195, Tryz.ntmps195
  go_wp2
  go_loopg [4] n (fun k i wr => ∃ j : Nat, j ≤ n ∧ Hid (k = n - j) ∧ i = .int .i64 j ∧ (∃ f, Hid (wr.rowIs w.heap.size 53 (n * 2) f ∧ ∀ i, i < j → ∃ e, es[i]? = some e ∧ f (i * 2) = .string e.name ∧ f (i * 2 + 1) = .int .i64 e.id)) ∧ Below w.heap.size w wr)
  case atStart => exact ⟨0, Nat.zero_le _, by show _ = _; omega, rfl, ⟨f0, HF0.out, fun i hi => by omega⟩, (Below.refl _ _).alloc (Nat.le_refl _) _⟩
  case round =>
    obtain ⟨j, hj, hk, rfl, ⟨f, hf⟩, hb⟩ := hrel
    by_cases hlt : j < n
    · obtain ⟨b, off, ha, hL, hbU, hc⟩ := H.at_ (by omega)
      subst ha
      obtain ⟨e, he, hsz, hc0, hc1⟩ := hc j hlt
      rw [← hb.cell (by simp; omega)] at hc0 hc1
      have HE : Hid (es[j]? = some e) := he
      clear he hc
      go_wp2_with fail
      refine (toEnt_any _ _ _).mono ?_
      rintro x w1 ⟨rfl, hb1⟩
      have hrow := hf.out.1.of_block (hb1.block w.heap.size hf.out.1.lt)
      have g0 := hrow.cell (i := j * 2) (by omega)
      have g1 := hrow.cell (i := j * 2 + 1) (by omega)
      have z0 := hrow.frozen (j * 2)
      have z1 := hrow.frozen (j * 2 + 1)
      have HR : Hid (w1.rowIs w.heap.size 53 (n * 2) f) := hrow
      clear hrow
      go_wp2_with fail
      go_roundg (n - (j + 1))
      case measure => have := hk.out; omega
      case rel =>
        refine ⟨j + 1, by omega, rfl, by go_num, ⟨_, (HR.out.set (j * 2) (.string e.name)).set (j * 2 + 1) (.int .i64 e.id), fun i hi => ?_⟩, ((hb.trans (hb1.mono hb.size)).setCell (by simp) _).setCell (by simp) _⟩
        by_cases hij : i = j
        · subst hij
          exact ⟨e, HE.out, by simp, by simp⟩
        · obtain ⟨e', he', q0, q1⟩ := hf.out.2 i (by omega)
          refine ⟨e', he', ?_, ?_⟩
          · show (if i * 2 = j * 2 + 1 then _ else if i * 2 = j * 2 then _ else f (i * 2)) = _
            rw [if_neg (by omega), if_neg (by omega)]; exact q0
          · show (if i * 2 + 1 = j * 2 + 1 then _ else if i * 2 + 1 = j * 2 then _ else f (i * 2 + 1)) = _
            rw [if_neg (by omega), if_neg (by omega)]; exact q1
    · go_wp2_with fail
      go_ret
      refine ⟨⟨w.heap.size, rfl, H.len, H.bd, fun hn0 => ⟨w.heap.size, 0, rfl, Nat.le_refl _, hf.out.1.lt, fun i hi => ?_⟩⟩, hb⟩
      obtain ⟨e', he', q0, q1⟩ := hf.out.2 i (by omega)
      obtain ⟨b, off, ha, hL, hbU, hc⟩ := H.at_ hn0
      obtain ⟨e2, he2, hsz, _, _⟩ := hc i hi
      rw [he'] at he2
      cases he2
      exact ⟨e', he', hsz, by rw [← q0, Nat.zero_add]; exact hf.out.1.cell (by omega), by rw [← q1, Nat.zero_add]; exact hf.out.1.cell (by omega)⟩

/-- What a slice of objects is. -/
structure ObjsAt (w : World) (L U : Nat) (a : Option Addr) (n : Nat) (os : List LObj) : Prop where
  len : n = os.length
  bd : n ≤ maxLen
  at_ : n ≠ 0 → ∃ b off, a = some ⟨b, off, none⟩ ∧ L ≤ b ∧ b < U ∧ ∀ i, i < n → ∃ o ka kn kc, os[i]? = some o ∧ o.text.size ≤ maxLen ∧ w.cell? ⟨b, off + i * 4, none⟩ = some (.int .i64 o.kind) ∧ w.cell? ⟨b, off + i * 4 + 1, none⟩ = some (.int .i64 o.ver) ∧ w.cell? ⟨b, off + i * 4 + 2, none⟩ = some (.string o.text) ∧ w.cell? ⟨b, off + i * 4 + 3, none⟩ = some (.slice ka kn kc) ∧ EntsAt w L U ka kn o.kids

theorem ObjsAt.below {w w' : World} {L U B : Nat} {a : Option Addr} {n : Nat} {os : List LObj} (h : ObjsAt w L U a n os) (hb : Below B w w') (hU : U ≤ B) : ObjsAt w' L U a n os :=
  ⟨h.len, h.bd, fun hn => by
    obtain ⟨b, off, ha, hL, hbU, hc⟩ := h.at_ hn
    refine ⟨b, off, ha, hL, hbU, fun i hi => ?_⟩
    obtain ⟨o, ka, kn, kc, he, hs, h0, h1, h2, h3, hk⟩ := hc i hi
    exact ⟨o, ka, kn, kc, he, hs, by rw [hb.cell (by simp; omega)]; exact h0, by rw [hb.cell (by simp; omega)]; exact h1, by rw [hb.cell (by simp; omega)]; exact h2, by rw [hb.cell (by simp; omega)]; exact h3, hk.below hb hU⟩⟩
theorem ObjsAt.wide {w : World} {L U L' U' : Nat} {a : Option Addr} {n : Nat} {os : List LObj} (h : ObjsAt w L U a n os) (hL' : L' ≤ L) (hU : U ≤ U') : ObjsAt w L' U' a n os :=
  ⟨h.len, h.bd, fun hn => by
    obtain ⟨b, off, ha, hL, hbU, hc⟩ := h.at_ hn
    refine ⟨b, off, ha, by omega, by omega, fun i hi => ?_⟩
    obtain ⟨o, ka, kn, kc, he, hs, h0, h1, h2, h3, hk⟩ := hc i hi
    exact ⟨o, ka, kn, kc, he, hs, h0, h1, h2, h3, hk.wide hL' hU⟩⟩

theorem ObjsAt.setCell {w : World} {L U : Nat} {a : Option Addr} {n : Nat} {os : List LObj} (h : ObjsAt w L U a n os) (p : Addr) (v : Value) (hp : p.block < L) : ObjsAt (w.setCell p v) L U a n os :=
  ⟨h.len, h.bd, fun hn => by
    obtain ⟨b, off, ha, hL, hbU, hc⟩ := h.at_ hn
    refine ⟨b, off, ha, hL, hbU, fun i hi => ?_⟩
    obtain ⟨o, ka, kn, kc, he, hs, h0, h1, h2, h3, hk⟩ := hc i hi
    have hk' := Below.heap_setCell w p v b (by omega)
    exact ⟨o, ka, kn, kc, he, hs, by rw [World.cell?_of_block (w := w) hk']; exact h0, by rw [World.cell?_of_block (w := w) hk']; exact h1, by rw [World.cell?_of_block (w := w) hk']; exact h2, by rw [World.cell?_of_block (w := w) hk']; exact h3, hk.setCell p v hp⟩⟩

def totO (o : LObj) : Nat := o.text.size + o.kids.length + tot o.kids
def totT (os : List LObj) : Nat := (os.map totO).sum
theorem totT_take {os : List LObj} {j : Nat} {o : LObj} (h : os[j]? = some o) : totT (os.take (j + 1)) = totT (os.take j) + totO o := by
  have hj : j < os.length := (List.getElem?_eq_some_iff.1 h).1
  rw [List.take_succ_eq_append_getElem hj]
  have : os[j] = o := (List.getElem?_eq_some_iff.1 h).2
  simp [totT, this]

set_option maxHeartbeats 400000 in
theorem szObj_any (k v : Int) (s : ByteArray) (a : Option Addr) (n c : Nat) (es : List LEnt) (L U : Nat) (left : Int) (w : World) (h0 : 0 ≤ left) (h1 : left ≤ 1048576) (hs : s.size ≤ maxLen) (hU : U ≤ w.heap.size) (H : EntsAt w L U a n es) :
    Calls Tryz.prog 160 #[.agg #[.int .i64 k, .int .i64 v, .string s, .slice a n c], .int .i64 left] w fun e w' => (∃ r : Int, e = .returned (.int .i64 r) ∧ (r = -1 ∨ (0 ≤ r ∧ r = left - s.size - n - tot es))) ∧ Below w.heap.size w w' := by
  unfold maxLen at hs
  by_cases h : left - s.size < 0
  · go_enter Tryz.func160, Tryz.ntmps160
    go_wp2
    go_ret
    exact ⟨⟨-1, rfl, .inl rfl⟩, (Below.refl _ _).alloc (Nat.le_refl _) _⟩
  · go_enter Tryz.func160, Tryz.ntmps160
    go_wp2_with fail
    refine (szEntS_any _ _ _ _ L U _ _ (by omega) (by omega) (by simp; omega) (H.below ((Below.refl _ _).alloc (Nat.le_refl _) _) hU)).mono ?_
    rintro x w1 ⟨⟨r, rfl, hr⟩, hb⟩
    have HR : Hid (r = -1 ∨ 0 ≤ r ∧ r = left - s.size - n - tot es) := hr
    clear hr
    have hb' : Below w.heap.size w w1 := ((Below.refl _ _).alloc (Nat.le_refl _) _).trans (hb.mono (by simp))
    by_cases hneg : r < 0
    · go_wp2_with fail
      go_ret
      exact ⟨⟨-1, rfl, .inl rfl⟩, hb'⟩
    · go_wp2_with fail
      go_ret
      exact ⟨⟨r, rfl, HR.out⟩, hb'⟩

set_option maxHeartbeats 400000 in
theorem szObjS_any (a : Option Addr) (n c : Nat) (os : List LObj) (L U : Nat) (left : Int) (w : World) (h0 : 0 ≤ left) (h1 : left ≤ 1048576) (hU : U ≤ w.heap.size) (H : ObjsAt w L U a n os) :
    Calls Tryz.prog 106 #[.slice a n c, .int .i64 left] w fun e w' => (∃ r : Int, e = .returned (.int .i64 r) ∧ (r = -1 ∨ (0 ≤ r ∧ r = left - n - totT os))) ∧ Below w.heap.size w w' := by
  have hbd := H.bd
  unfold maxLen at hbd
  by_cases h : left - n < 0
  · go_enter Tryz.func106, Tryz.ntmps106
    go_wp2
    go_ret
    exact ⟨⟨-1, rfl, .inl rfl⟩, Below.refl _ _⟩
  · go_enter Tryz.func106, Tryz.ntmps106
    go_wp2
    go_loopg [1, 5] n (fun k l i wr => ∃ j : Nat, j ≤ n ∧ Hid (k = n - j) ∧ i = .int .i64 j ∧ (∃ r : Int, l = .int .i64 r ∧ 0 ≤ r ∧ r ≤ 1048576 ∧ Hid (r = left - n - totT (os.take j))) ∧ Below w.heap.size w wr)
    case atStart => exact ⟨0, Nat.zero_le _, by show _ = _; omega, rfl, ⟨_, rfl, by omega, by omega, by show _ = _; simp [totT]⟩, Below.refl _ _⟩
    case round =>
      obtain ⟨j, hj, hk, rfl, ⟨r, rfl, hr0, hr1, hr⟩, hb⟩ := hrel
      by_cases hlt : j < n
      · obtain ⟨b, off, ha, hL, hbU, hc⟩ := H.at_ (by omega)
        subst ha
        obtain ⟨o, ka, kn, kc, he, hsz, hc0, hc1, hc2, hc3, hks⟩ := hc j hlt
        rw [← hb.cell (by simp; omega)] at hc0 hc1 hc2 hc3
        have HE : Hid (os[j]? = some o) := he
        clear he hc
        go_wp2_with fail
        refine (szObj_any _ _ _ _ _ _ _ L U _ _ hr0 hr1 hsz (by have := hb.size; omega) (hks.below hb hU)).mono ?_
        rintro x w1 ⟨⟨r1, rfl, hr1'⟩, hb1⟩
        have hkl := hks.len
        have HR : Hid (r1 = -1 ∨ 0 ≤ r1 ∧ r1 = r - o.text.size - o.kids.length - tot o.kids) := by rw [← hkl]; exact hr1'
        clear hr1' hkl hks
        by_cases hneg : r1 < 0
        · go_wp2_with fail
          go_ret
          exact ⟨⟨-1, rfl, .inl rfl⟩, hb.trans (hb1.mono hb.size)⟩
        · go_wp2_with fail
          go_roundg (n - (j + 1))
          case measure => have := hk.out; omega
          case rel =>
            have := HR.out
            have h3 := totT_take HE.out
            have h4 := hr.out
            unfold totO at h3
            exact ⟨j + 1, by omega, rfl, by go_num, ⟨r1, rfl, by omega, by omega, by show _ = _; omega⟩, hb.trans (hb1.mono hb.size)⟩
      · go_wp2_with fail
        go_ret
        have h4 := hr.out
        rw [List.take_of_length_le (by have := H.len; omega)] at h4
        exact ⟨⟨r, rfl, .inr ⟨hr0, h4⟩⟩, hb⟩

theorem szTree_any (a : Option Addr) (n c : Nat) (os : List LObj) (L U : Nat) (left : Int) (w : World) (h0 : 0 ≤ left) (h1 : left ≤ 1048576) (hU : U ≤ w.heap.size) (H : ObjsAt w L U a n os) :
    Calls Tryz.prog 47 #[.agg #[.slice a n c], .int .i64 left] w fun e w' => (∃ r : Int, e = .returned (.int .i64 r) ∧ (r = -1 ∨ (0 ≤ r ∧ r = left - n - totT os))) ∧ Below w.heap.size w w' := by
  go_enter Tryz.func47, Tryz.ntmps47
  go_wp2_with fail
  refine (szObjS_any _ _ _ _ L U _ _ h0 h1 (by simp; omega) (H.below ((Below.refl _ _).alloc (Nat.le_refl _) _) hU)).mono ?_
  rintro x w1 ⟨⟨r, rfl, hr⟩, hb⟩
  have HR : Hid (r = -1 ∨ 0 ≤ r ∧ r = left - n - totT os) := hr
  clear hr
  have hb' : Below w.heap.size w w1 := ((Below.refl _ _).alloc (Nat.le_refl _) _).trans (hb.mono (by simp))
  by_cases hneg : r < 0
  · go_wp2_with fail
    go_ret
    exact ⟨⟨-1, rfl, .inl rfl⟩, hb'⟩
  · go_wp2_with fail
    go_ret
    exact ⟨⟨r, rfl, HR.out⟩, hb'⟩

set_option maxHeartbeats 400000 in
theorem toObj_any (k v : Int) (s : ByteArray) (a : Option Addr) (n c : Nat) (es : List LEnt) (L U : Nat) (w : World) (hn : n ≤ 1048576) (hU : U ≤ w.heap.size) (H : EntsAt w L U a n es) :
    Calls Tryz.prog 161 #[.agg #[.int .i64 k, .int .i64 v, .string s, .slice a n c]] w fun e w' => (∃ b, e = .returned (.agg #[.int .i64 k, .int .i64 v, .string s, .slice (some ⟨b, 0, none⟩) n n]) ∧ EntsAt w' w.heap.size w'.heap.size (some ⟨b, 0, none⟩) n es) ∧ Below w.heap.size w w' := by
  go_enter Tryz.func161, Tryz.ntmps161
  go_wp2_with fail
  refine (toEntS_any _ _ _ _ L U _ hn (by simp; omega) (H.below ((((Below.refl _ _).alloc (Nat.le_refl _) _).alloc (by simp) _).alloc (by simp; omega) _) hU)).mono ?_
  rintro x w1 ⟨⟨b, rfl, hk⟩, hb⟩
  obtain ⟨hc, hf⟩ := bcell hb
  have hz : w.heap.size + 3 ≤ w1.heap.size := by have := hb.size; simp at this; omega
  have hb0 : Below w.heap.size w w1 := ((((Below.refl _ _).alloc (Nat.le_refl _) _).alloc (by simp) _).alloc (by simp; omega) _).trans (hb.mono (by simp; omega))
  go_wp2_with fail
  refine bodyPost_ret (v := .agg #[.int .i64 k, .int .i64 v, .string s, .slice (some ⟨b, 0, none⟩) n n]) (by simp [results, Tryz.results161, go_sem, hc]) rfl ⟨⟨b, rfl, ?_⟩, ?_⟩
  · refine EntsAt.wide (L := w.heap.size + 3) (U := w1.heap.size) ?_ (by omega) (by simp)
    have hk' : EntsAt w1 (w.heap.size + 3) w1.heap.size (some ⟨b, 0, none⟩) n es := hk.wide (by simp) (Nat.le_refl _)
    repeat (first | exact hk' | refine EntsAt.setCell ?_ _ _ (by simp <;> omega))
  · repeat (first | exact hb0 | refine Below.setCell ?_ (by simp <;> omega) _)

def Sizes (os : List LObj) (M : Nat) : Prop := ∀ o ∈ os, o.kids.length ≤ M

set_option maxHeartbeats 800000 in
theorem toObjS_any (a : Option Addr) (n c : Nat) (os : List LObj) (L U : Nat) (w : World) (hn : n ≤ 1048576) (hS : Sizes os 1048576) (hU : U ≤ w.heap.size) (H : ObjsAt w L U a n os) :
    Calls Tryz.prog 107 #[.slice a n c] w fun e w' => (∃ b, e = .returned (.slice (some ⟨b, 0, none⟩) n n) ∧ ObjsAt w' w.heap.size w'.heap.size (some ⟨b, 0, none⟩) n os) ∧ Below w.heap.size w w' := by
  have hmk := run_make_many 23 38 _ 4 56 Tryz.underlying23 info34 n (by omega) (by omega)
  obtain ⟨f0, hf0⟩ := rowIs_many w #[.int .i64 0, .int .i64 0, .string ByteArray.empty, .slice none 0 0] (n * 4) 38
  have HF0 : Hid ((w.alloc (.cells (madeCells #[.int .i64 0, .int .i64 0, .string ByteArray.empty, .slice none 0 0] (n * 4)) 38)).rowIs w.heap.size 38 (n * 4) f0) := hf0
  clear hf0
  go_enter Tryz.func107, Tryz.ntmps107
  go_wp2
  go_loopg [4] n (fun k i wr => ∃ j : Nat, j ≤ n ∧ Hid (k = n - j) ∧ i = .int .i64 j ∧ (∃ f, Hid (wr.rowIs w.heap.size 38 (n * 4) f ∧ ∀ i, i < j → ∃ o ka kn kc, os[i]? = some o ∧ f (i * 4) = .int .i64 o.kind ∧ f (i * 4 + 1) = .int .i64 o.ver ∧ f (i * 4 + 2) = .string o.text ∧ f (i * 4 + 3) = .slice ka kn kc ∧ EntsAt wr (w.heap.size + 1) wr.heap.size ka kn o.kids)) ∧ Below w.heap.size w wr)
  case atStart => exact ⟨0, Nat.zero_le _, by show _ = _; omega, rfl, ⟨f0, HF0.out, fun i hi => by omega⟩, (Below.refl _ _).alloc (Nat.le_refl _) _⟩
  case round =>
    obtain ⟨j, hj, hk, rfl, ⟨f, hf⟩, hb⟩ := hrel
    by_cases hlt : j < n
    · obtain ⟨b, off, ha, hL, hbU, hc⟩ := H.at_ (by omega)
      subst ha
      obtain ⟨o, ka, kn, kc, he, hsz, hc0, hc1, hc2, hc3, hks⟩ := hc j hlt
      have hkn : kn ≤ 1048576 := by rw [hks.len]; exact hS o (List.mem_of_getElem? he)
      rw [← hb.cell (by simp; omega)] at hc0 hc1 hc2 hc3
      have HE : Hid (os[j]? = some o) := he
      clear he hc
      have hrl := hf.out.1.lt
      go_wp2_with fail
      refine (toObj_any _ _ _ _ _ _ _ L U _ hkn (by have := hb.size; omega) (hks.below hb hU)).mono ?_
      rintro x w1 ⟨⟨kb, rfl, hke⟩, hb1⟩
      have hrow := hf.out.1.of_block (hb1.block w.heap.size hf.out.1.lt)
      have g0 := hrow.cell (i := j * 4) (by omega)
      have g1 := hrow.cell (i := j * 4 + 1) (by omega)
      have g2 := hrow.cell (i := j * 4 + 2) (by omega)
      have g3 := hrow.cell (i := j * 4 + 3) (by omega)
      have z0 := hrow.frozen (j * 4)
      have z1 := hrow.frozen (j * 4 + 1)
      have z2 := hrow.frozen (j * 4 + 2)
      have z3 := hrow.frozen (j * 4 + 3)
      have HR : Hid (w1.rowIs w.heap.size 38 (n * 4) f) := hrow
      clear hrow
      go_wp2_with fail
      go_roundg (n - (j + 1))
      case measure => have := hk.out; omega
      case rel =>
        have hbs := hb1.size
        refine ⟨j + 1, by omega, rfl, by go_num, ⟨_, (((HR.out.set (j * 4) (.int .i64 o.kind)).set (j * 4 + 1) (.int .i64 o.ver)).set (j * 4 + 2) (.string o.text)).set (j * 4 + 3) (.slice (some ⟨kb, 0, none⟩) kn kn), fun i hi => ?_⟩, ((((hb.trans (hb1.mono hb.size)).setCell (by simp) _).setCell (by simp) _).setCell (by simp) _).setCell (by simp) _⟩
        by_cases hij : i = j
        · subst hij
          refine ⟨o, _, _, _, HE.out, by simp, by simp, by simp, by simp; exact ⟨rfl, rfl, rfl⟩, ?_⟩
          refine EntsAt.wide (L := wr.heap.size) (U := w1.heap.size) ?_ (by omega) (by simp)
          repeat (first | exact hke | refine EntsAt.setCell ?_ _ _ (by simp <;> omega))
        · obtain ⟨o', ka', kn', kc', he', q0, q1, q2, q3, qk⟩ := hf.out.2 i (by omega)
          refine ⟨o', ka', kn', kc', he', ?_, ?_, ?_, ?_, ?_⟩
          · rw [if_neg (by omega), if_neg (by omega), if_neg (by omega), if_neg (by omega)]; exact q0
          · rw [if_neg (by omega), if_neg (by omega), if_neg (by omega), if_neg (by omega)]; exact q1
          · rw [if_neg (by omega), if_neg (by omega), if_neg (by omega), if_neg (by omega)]; exact q2
          · rw [if_neg (by omega), if_neg (by omega), if_neg (by omega), if_neg (by omega)]; exact q3
          · refine EntsAt.wide (L := w.heap.size + 1) (U := wr.heap.size) ?_ (by omega) (by simp; omega)
            have qk' := qk.below hb1 (Nat.le_refl _)
            repeat (first | exact qk' | refine EntsAt.setCell ?_ _ _ (by simp))
    · go_wp2_with fail
      go_ret
      refine ⟨⟨w.heap.size, rfl, H.len, H.bd, fun hn0 => ⟨w.heap.size, 0, rfl, Nat.le_refl _, hf.out.1.lt, fun i hi => ?_⟩⟩, hb⟩
      obtain ⟨o', ka', kn', kc', he', q0, q1, q2, q3, qk⟩ := hf.out.2 i (by omega)
      obtain ⟨b, off, ha, hL, hbU, hc⟩ := H.at_ hn0
      obtain ⟨o2, _, _, _, he2, hsz, _⟩ := hc i hi
      rw [he'] at he2
      cases he2
      refine ⟨o', ka', kn', kc', he', hsz, ?_, ?_, ?_, ?_, qk.wide (by omega) (Nat.le_refl _)⟩
      · rw [← q0, Nat.zero_add]; exact hf.out.1.cell (by omega)
      · rw [← q1, Nat.zero_add]; exact hf.out.1.cell (by omega)
      · rw [← q2, Nat.zero_add]; exact hf.out.1.cell (by omega)
      · rw [← q3, Nat.zero_add]; exact hf.out.1.cell (by omega)

set_option maxHeartbeats 400000 in
theorem toTree_any (a : Option Addr) (n c : Nat) (os : List LObj) (L U : Nat) (w : World) (hn : n ≤ 1048576) (hS : Sizes os 1048576) (hU : U ≤ w.heap.size) (H : ObjsAt w L U a n os) :
    Calls Tryz.prog 49 #[.agg #[.slice a n c]] w fun e w' => (∃ b, e = .returned (.agg #[.slice (some ⟨b, 0, none⟩) n n]) ∧ ObjsAt w' w.heap.size w'.heap.size (some ⟨b, 0, none⟩) n os) ∧ Below w.heap.size w w' := by
  go_enter Tryz.func49, Tryz.ntmps49
  go_wp2_with fail
  refine (toObjS_any _ _ _ _ L U _ hn hS (by simp; omega) (H.below ((((Below.refl _ _).alloc (Nat.le_refl _) _).alloc (by simp) _).alloc (by simp; omega) _) hU)).mono ?_
  rintro x w1 ⟨⟨b, rfl, hk⟩, hb⟩
  obtain ⟨hc, hf⟩ := bcell hb
  have hz : w.heap.size + 3 ≤ w1.heap.size := by have := hb.size; simp at this; omega
  have hb0 : Below w.heap.size w w1 := ((((Below.refl _ _).alloc (Nat.le_refl _) _).alloc (by simp) _).alloc (by simp; omega) _).trans (hb.mono (by simp; omega))
  go_wp2_with fail
  refine bodyPost_ret (v := .agg #[.slice (some ⟨b, 0, none⟩) n n]) (by simp [results, Tryz.results49, go_sem, hc]) rfl ⟨⟨b, rfl, ?_⟩, ?_⟩
  · refine ObjsAt.wide (L := w.heap.size + 3) (U := w1.heap.size) ?_ (by omega) (by simp)
    have hk' : ObjsAt w1 (w.heap.size + 3) w1.heap.size (some ⟨b, 0, none⟩) n os := hk.wide (by simp) (Nat.le_refl _)
    repeat (first | exact hk' | refine ObjsAt.setCell ?_ _ _ (by simp <;> omega))
  · repeat (first | exact hb0 | refine Below.setCell ?_ (by simp <;> omega) _)

end Go.Proofs.YtnolbfijcnldjaaGreatDoor

/- Draws: contracts of the reader of bytes. -/
namespace Go.Proofs.YtnolbfijcnldjaaGreatDoor
open Go.RowKit

/-- The bytes behind a slice. -/
structure BytesAt (w : World) (U : Nat) (a : Option Addr) (n : Nat) (zs : List Int) : Prop where
  len : n = zs.length
  at_ : n ≠ 0 → ∃ b off, a = some ⟨b, off, none⟩ ∧ b < U ∧ ∀ i, i < n → ∃ z, zs[i]? = some z ∧ 0 ≤ z ∧ z ≤ 255 ∧ w.cell? ⟨b, off + i, none⟩ = some (.int .u8 z)

set_option maxHeartbeats 400000 in
theorem open16 (a : Option Addr) (n c : Nat) (zs : List Int) (U : Nat) (w : World) (hn : n ≤ 1048576) (hc : n ≤ c) (H : BytesAt w U a n zs) :
    Calls Tryz.prog 58 #[.slice a n c] w fun e w' => ∃ (m c' : Nat) (ys : List Int), e = .returned (.pointer (some ⟨w.heap.size, 0, none⟩)) ∧ m ≤ 2000 ∧ (m = 0 ↔ n = 0) ∧ BytesAt w U a m ys ∧ w' = w.alloc (.cells #[.slice a m c', .int .i64 0] 135) := by
  by_cases h : 2000 < n
  · obtain ⟨b, off, rfl, hb, hcell⟩ := H.at_ (by omega)
    go_enter Tryz.func58, Tryz.ntmps58
    go_wp2_with fail
    go_ret
    refine ⟨2000, c, zs.take 2000, rfl, by omega, by omega, ⟨by have := H.len; simp; omega, fun _ => ⟨b, off, rfl, hb, fun i hi => ?_⟩⟩, rfl⟩
    obtain ⟨z, hz, hr⟩ := hcell i (by omega)
    exact ⟨z, by rw [List.getElem?_take_of_lt hi]; exact hz, hr⟩
  · go_enter Tryz.func58, Tryz.ntmps58
    go_wp2_with fail
    go_ret
    exact ⟨n, c, zs, rfl, by omega, Iff.rfl, H, rfl⟩


theorem ret_i64 {k : IntKind} {a b : Int} (h : a = b) : Ending.returned (.int k a) = .returned (.int k b) := by rw [h]
theorem mod_nat (z : Int) (q : Nat) (_h : 0 ≤ z) (hq : 1 ≤ q) : ∃ x : Nat, z % (q : Int) = x ∧ x < q := by
  have h1 := Int.emod_nonneg z (b := (q : Int)) (by omega)
  have h2 := Int.emod_lt_of_pos z (b := (q : Int)) (by omega)
  exact ⟨(z % (q : Int)).toNat, by omega, by omega⟩

theorem i64_xor_nat (a b : Nat) (ha : a < 4611686018427387904) (hb : b < 4611686018427387904) : bits .xor .i64 (a : Int) (b : Int) = ((a ^^^ b : Nat) : Int) := by
  have hx : a ^^^ b < 2 ^ 62 := Nat.xor_lt_two_pow (by omega) (by omega)
  show IntKind.i64.wrap ((BitVec.ofInt 64 (a : Int) ^^^ BitVec.ofInt 64 (b : Int)).toNat : Int) = _
  rw [BitVec.toNat_xor, ofInt_u64 a (by omega), ofInt_u64 b (by omega), IntKind.wrap_i64]
  omega
theorem xor_mod (A : Int) (q : Nat) (h0 : 0 ≤ A) (h1 : A ≤ 1000000000) (hq : 1 ≤ q) : ∃ x : Nat, (bits .xor .i64 A (A / 64)).tmod (q : Int) = x ∧ x < q := by
  obtain ⟨a, rfl⟩ := Int.eq_ofNat_of_zero_le h0
  have e : ((a : Int) / 64) = ((a / 64 : Nat) : Int) := by omega
  rw [e, i64_xor_nat a (a / 64) (by omega) (by omega), Int.tmod_eq_emod_of_nonneg (by omega)]
  exact mod_nat _ q (by omega) hq

/-- A draw: a number below q; the reader is one place on. -/
def PickEnd (rb p q : Nat) (w : World) (e : Ending) (w' : World) : Prop := ∃ x m : Nat, e = .returned (.int .i64 x) ∧ x < q ∧ w' = (w.setCell ⟨rb, 1, none⟩ (.int .i64 ((p : Int) + 1))).drewN m

set_option maxHeartbeats 2000000 in
theorem pick_any (rb : Nat) (a : Option Addr) (n c : Nat) (zs : List Int) (p q : Nat) (w : World) (hnb : n ≤ 2000) (hp : p ≤ 1000000) (hq : 1 ≤ q) (hq2 : q ≤ 1000000) (h0 : w.cell? ⟨rb, 0, none⟩ = some (.slice a n c)) (h1 : w.cell? ⟨rb, 1, none⟩ = some (.int .i64 p)) (hf : w.frozen? ⟨rb, 1, none⟩ = false) (H : BytesAt w rb a n zs) :
    Calls Tryz.prog 60 #[.pointer (some ⟨rb, 0, none⟩), .int .i64 q] w fun e w' => PickEnd rb p q w e w' := by
  have hq' : ¬ (q : Int) < 1 := by omega
  by_cases hn : n = 0
  · have t0 : ((n : Int) == 0) = true := by simpa using hn
    clear hn
    go_enter Tryz.func60, Tryz.ntmps60
    go_wp2_with fail
    go_ret
    exact ⟨0, 0, rfl, by omega, rfl⟩
  · obtain ⟨b, off, rfl, hb, hcell⟩ := H.at_ hn
    have t0 : ((n : Int) == 0) = false := by simpa using hn
    have hn0 : (0 : Int) < (n : Int) := by omega
    have hne : (n : Int) ≠ 0 := by omega
    by_cases hpn : p < n
    · obtain ⟨z, hz, hz0, hz1, hc0⟩ := hcell p (by omega)
      have hpn' : (p : Int) < (n : Int) := by omega
      obtain ⟨x, hx, hxq⟩ := mod_nat z q hz0 hq
      have HX : Hid (z % (q : Int) = x) := hx
      clear hx hz hcell hn
      go_enter Tryz.func60, Tryz.ntmps60
      go_wp2_with fail
      go_ret
      exact ⟨x, 0, ret_i64 HX.out, hxq, rfl⟩
    · have hpn' : ¬ (p : Int) < (n : Int) := by omega
      obtain ⟨i1, e1, hi1⟩ := mod_nat (p : Int) n (by omega) (by omega)
      obtain ⟨i2, e2, hi2⟩ := mod_nat ((p : Int) * 7 + 3) n (by omega) (by omega)
      obtain ⟨z1, _, hz10, hz11, hc1⟩ := hcell i1 hi1
      obtain ⟨z2, _, hz20, hz21, hc2⟩ := hcell i2 hi2
      have hi1' : (i1 : Int) < (n : Int) := by omega
      have hi2' : (i2 : Int) < (n : Int) := by omega
      obtain ⟨d3, e3, hd3⟩ : ∃ d3 : Nat, (p : Int) / (n : Int) = d3 ∧ d3 ≤ 1000000 := ⟨p / n, by omega, by have := Nat.div_le_self p n; omega⟩
      clear hcell hn
      go_enter Tryz.func60, Tryz.ntmps60
      go_wp2_with fail
      go_quiet (fail)
      go_wp2_with fail
      go_ret
      obtain ⟨x, hx, hxq⟩ := xor_mod (z1 * 131 + z2 * 1117 + (p : Int) * 29 + (d3 : Int) * 53) q (by omega) (by omega) hq
      exact ⟨x, nq, ret_i64 hx, hxq, rfl⟩

/-- A reader of bytes, its state. -/
structure RdAt (w : World) (rb : Nat) (p : Nat) : Prop where
  all : ∃ a n c zs, n ≤ 2000 ∧ w.cell? ⟨rb, 0, none⟩ = some (.slice a n c) ∧ w.cell? ⟨rb, 1, none⟩ = some (.int .i64 p) ∧ w.frozen? ⟨rb, 1, none⟩ = false ∧ BytesAt w rb a n zs
  lt : rb < w.heap.size
theorem BytesAt.below {w w' : World} {B U : Nat} {a : Option Addr} {n : Nat} {zs : List Int} (h : BytesAt w U a n zs) (hb : Below B w w') (hU : U ≤ B) : BytesAt w' U a n zs :=
  ⟨h.len, fun hn => by
    obtain ⟨b, off, ha, hbU, hc⟩ := h.at_ hn
    refine ⟨b, off, ha, hbU, fun i hi => ?_⟩
    obtain ⟨z, hz, h0, h1, h2⟩ := hc i hi
    exact ⟨z, hz, h0, h1, by rw [hb.cell (by simp; omega)]; exact h2⟩⟩
theorem RdAt.below {w w' : World} {rb p : Nat} (h : RdAt w rb p) {B : Nat} (hb : Below B w w') (hB : rb < B) : RdAt w' rb p := by
  obtain ⟨a, n, c, zs, h0, h1, h2, h3, h4⟩ := h.all
  exact ⟨⟨a, n, c, zs, h0, by rw [hb.cell (by simpa using hB)]; exact h1, by rw [hb.cell (by simpa using hB)]; exact h2, by rw [hb.frozen (by simpa using hB)]; exact h3, h4.below hb (by omega)⟩, by have := hb.size; have := h.lt; omega⟩
/-- The world behind a draw: the reader one place on, all below it and all other blocks as they were. -/
structure Drawn (w w' : World) (rb : Nat) : Prop where
  below : Below rb w w'
  size : w'.heap.size = w.heap.size
  block : ∀ k, k ≠ rb → w'.heap[k]? = w.heap[k]?
theorem pick_rd (rb p q : Nat) (w : World) (hp : p ≤ 1000000) (hq : 1 ≤ q) (hq2 : q ≤ 1000000) (H : RdAt w rb p) :
    Calls Tryz.prog 60 #[.pointer (some ⟨rb, 0, none⟩), .int .i64 q] w fun e w' => (∃ x : Nat, e = .returned (.int .i64 x) ∧ x < q) ∧ RdAt w' rb (p + 1) ∧ Drawn w w' rb := by
  obtain ⟨a, n, c, zs, h0, h1, h2, h3, h4⟩ := H.all
  refine (pick_any rb a n c zs p q w h0 hp hq hq2 h1 h2 h3 h4).mono ?_
  rintro e w' ⟨x, m, rfl, hx, rfl⟩
  have hB : Below rb w ((w.setCell ⟨rb, 1, none⟩ (.int .i64 ((p : Int) + 1))).drewN m) := by
    have : Below rb w (w.setCell ⟨rb, 1, none⟩ (.int .i64 ((p : Int) + 1))) := (Below.refl _ _).setCell (by exact Nat.le_refl _) _
    exact this.trans ⟨rfl, rfl, rfl, Nat.le_refl _, fun _ _ => rfl⟩
  have c0 : (w.setCell ⟨rb, 1, none⟩ (.int .i64 ((p : Int) + 1))).cell? ⟨rb, 0, none⟩ = some (.slice a n c) := by
    rw [World.cell?_setCell_other _ _ _ _ (by simp)]; exact h1
  have c1 : (w.setCell ⟨rb, 1, none⟩ (.int .i64 ((p : Int) + 1))).cell? ⟨rb, 1, none⟩ = some (.int .i64 ((p + 1 : Nat) : Int)) := by
    rw [World.cell?_setCell_same _ _ _ h2]; simp
  refine ⟨⟨x, rfl, hx⟩, ⟨⟨a, n, c, zs, h0, c0, c1, by show World.frozen? _ _ = _; simp; exact h3, h4.below hB (Nat.le_refl _)⟩, by simpa using H.lt⟩, hB, by simp, fun k hk => ?_⟩
  exact Below.heap_setCell w ⟨rb, 1, none⟩ _ k hk
end Go.Proofs.YtnolbfijcnldjaaGreatDoor

/- Drawn names and texts: the walk of the law FnTreeWord. -/
namespace Go.Proofs.YtnolbfijcnldjaaGreatDoor
open Go.RowKit

theorem Drawn.cell {w w' : World} {rb : Nat} (h : Drawn w w' rb) {q : Addr} (hq : q.block ≠ rb) : w'.cell? q = w.cell? q := World.cell?_of_block (w := w) (h.block q.block hq)
/-- One of a list of texts. -/
def OfEnd (M : Nat) (e : Ending) : Prop := ∃ s : ByteArray, e = .returned (.string s) ∧ s.size ≤ M

set_option maxHeartbeats 400000 in
theorem of_any (rb p lb q c M : Nat) (w : World) (hp : p ≤ 1000000) (hq : 1 ≤ q) (hq2 : q ≤ 1000000) (hlb : lb ≠ rb) (H : RdAt w rb p) (hc : ∀ i, i < q → ∃ s : ByteArray, w.cell? ⟨lb, i, none⟩ = some (.string s) ∧ s.size ≤ M) :
    Calls Tryz.prog 114 #[.pointer (some ⟨rb, 0, none⟩), .slice (some ⟨lb, 0, none⟩) q c] w fun e w' => OfEnd M e ∧ RdAt w' rb (p + 1) ∧ Drawn w w' rb := by
  go_enter Tryz.func114, Tryz.ntmps114
  go_wp2_with fail
  refine (pick_rd rb p q _ hp hq hq2 H).mono ?_
  rintro e w1 ⟨⟨x, rfl, hx⟩, hr, hd⟩
  obtain ⟨s, hs, hsz⟩ := hc x hx
  have hs1 : w1.cell? ⟨lb, x, none⟩ = some (.string s) := by rw [hd.cell (by simpa using hlb)]; exact hs
  have hx' : (x : Int) < (q : Int) := by omega
  clear hs hc
  go_wp2_with fail
  go_ret
  exact ⟨⟨s, rfl, hsz⟩, hr, hd⟩


theorem BytesAt.wide {w : World} {U U' : Nat} {a : Option Addr} {n : Nat} {zs : List Int} (h : BytesAt w U a n zs) (hU : U ≤ U') : BytesAt w U' a n zs :=
  ⟨h.len, fun hn => by
    obtain ⟨b, off, ha, hbU, hc⟩ := h.at_ hn
    exact ⟨b, off, ha, by omega, hc⟩⟩
theorem rd_start {w : World} {U m c : Nat} {a : Option Addr} {ys : List Int} (hm : m ≤ 2000) (hU : U ≤ w.heap.size) (H : BytesAt w U a m ys) : RdAt (w.alloc (.cells #[.slice a m c, .int .i64 0] 135)) w.heap.size 0 :=
  ⟨⟨a, m, c, ys, hm, by simp [go_sem], by simp [go_sem], by simp [go_sem], (H.below ((Below.refl _ _).alloc (Nat.le_refl _) _) hU).wide hU⟩, by simp⟩

end Go.Proofs.YtnolbfijcnldjaaGreatDoor

/- Contracts of the law eqTree, at two readings of one tree. -/
namespace Go.Proofs.YtnolbfijcnldjaaGreatDoor
open Go.RowKit

set_option maxHeartbeats 400000 in
theorem eqEntS_same (a a' : Option Addr) (n c c' : Nat) (es : List LEnt) (L U L' U' : Nat) (w : World) (hU : U ≤ w.heap.size) (hU' : U' ≤ w.heap.size) (H : EntsAt w L U a n es) (H' : EntsAt w L' U' a' n es) :
    Calls Tryz.prog 196 #[.slice a n c, .slice a' n c'] w fun e w' => e = .returned (.bool true) ∧ Below w.heap.size w w' := by
  have hbd := H.bd
  unfold maxLen at hbd
  go_enter Tryz.func196, Tryz.ntmps196
  go_wp2
  go_loopg [5] n (fun k i wr => ∃ j : Nat, j ≤ n ∧ Hid (k = n - j) ∧ i = .int .i64 j ∧ Below w.heap.size w wr)
  case atStart => exact ⟨0, Nat.zero_le _, by show _ = _; omega, rfl, Below.refl _ _⟩
  case round =>
    obtain ⟨j, hj, hk, rfl, hb⟩ := hrel
    by_cases hlt : j < n
    · obtain ⟨b, off, ha, hL, hbU, hc⟩ := H.at_ (by omega)
      obtain ⟨b', off', ha', hL', hbU', hc'⟩ := H'.at_ (by omega)
      subst ha ha'
      obtain ⟨e, he, hsz, hc0, hc1⟩ := hc j hlt
      obtain ⟨e2, he2, hsz2, hd0, hd1⟩ := hc' j hlt
      rw [he] at he2
      cases he2
      clear he hc hc'
      rw [← hb.cell (by simp; omega)] at hc0 hc1 hd0 hd1
      go_wp2_with fail
      go_region_with (go_at_call 204; refine (eqEnt_same _ _ _).mono ?_; rintro x w1 ⟨rfl, hb1⟩)
      all_goals
        go_wp2_with fail
        go_roundg (n - (j + 1))
        case measure => have := hk.out; omega
        case rel => exact ⟨j + 1, by omega, rfl, by go_num, hb.trans (Below.trans (by repeat (first | exact Below.refl _ _ | refine Below.drew ?_)) (hb1.mono hb.size))⟩
    · go_wp2_with fail
      go_ret
      exact ⟨rfl, hb⟩

set_option maxHeartbeats 400000 in
theorem eqObj_same (k v : Int) (s : ByteArray) (a a' : Option Addr) (n c c' : Nat) (es : List LEnt) (L U L' U' : Nat) (w : World) (hU : U ≤ w.heap.size) (hU' : U' ≤ w.heap.size) (H : EntsAt w L U a n es) (H' : EntsAt w L' U' a' n es) :
    Calls Tryz.prog 162 #[.agg #[.int .i64 k, .int .i64 v, .string s, .slice a n c], .agg #[.int .i64 k, .int .i64 v, .string s, .slice a' n c']] w fun e w' => e = .returned (.bool true) ∧ Below w.heap.size w w' := by
  have hB : ∀ o1 o2, Below w.heap.size w ((w.alloc o1).alloc o2) := fun o1 o2 => ((Below.refl _ _).alloc (Nat.le_refl _) _).alloc (by simp) _
  go_enter Tryz.func162, Tryz.ntmps162
  go_wp2_with fail
  refine (eqEntS_same _ _ _ _ _ _ L U L' U' _ (by simp; omega) (by simp; omega) (H.below (hB _ _) hU) (H'.below (hB _ _) hU')).mono ?_
  rintro x w1 ⟨rfl, hb⟩
  go_wp2_with fail
  go_ret
  exact ⟨rfl, (hB _ _).trans (hb.mono (by simp; omega))⟩

set_option maxHeartbeats 800000 in
theorem eqObjS_same (a a' : Option Addr) (n c c' : Nat) (os : List LObj) (L U L' U' : Nat) (w : World) (hU : U ≤ w.heap.size) (hU' : U' ≤ w.heap.size) (H : ObjsAt w L U a n os) (H' : ObjsAt w L' U' a' n os) :
    Calls Tryz.prog 108 #[.slice a n c, .slice a' n c'] w fun e w' => e = .returned (.bool true) ∧ Below w.heap.size w w' := by
  have hbd := H.bd
  unfold maxLen at hbd
  go_enter Tryz.func108, Tryz.ntmps108
  go_wp2
  go_loopg [5] n (fun k i wr => ∃ j : Nat, j ≤ n ∧ Hid (k = n - j) ∧ i = .int .i64 j ∧ Below w.heap.size w wr)
  case atStart => exact ⟨0, Nat.zero_le _, by show _ = _; omega, rfl, Below.refl _ _⟩
  case round =>
    obtain ⟨j, hj, hk, rfl, hb⟩ := hrel
    by_cases hlt : j < n
    · obtain ⟨b, off, ha, hL, hbU, hc⟩ := H.at_ (by omega)
      obtain ⟨b', off', ha', hL', hbU', hc'⟩ := H'.at_ (by omega)
      subst ha ha'
      obtain ⟨o, ka, kn, kc, he, hsz, hc0, hc1, hc2, hc3, hke⟩ := hc j hlt
      obtain ⟨o2, ka', kn', kc', he2, hsz2, hd0, hd1, hd2, hd3, hke'⟩ := hc' j hlt
      rw [he] at he2
      cases he2
      have hkk : kn' = kn := by rw [hke.len, hke'.len]
      subst hkk
      clear he hc hc'
      rw [← hb.cell (by simp; omega)] at hc0 hc1 hc2 hc3 hd0 hd1 hd2 hd3
      have hk1 := hke.below hb hU
      have hk2 := hke'.below hb hU'
      have hs1 := hb.size
      go_wp2_with fail
      go_region_with (go_at_call 162; refine (eqObj_same _ _ _ _ _ _ _ _ _ L U L' U' _ (by simp; omega) (by simp; omega) (hk1.below (by repeat (first | exact Below.refl _ _ | refine Below.drew ?_)) (Nat.le_trans hU hs1)) (hk2.below (by repeat (first | exact Below.refl _ _ | refine Below.drew ?_)) (Nat.le_trans hU' hs1))).mono ?_; rintro x w1 ⟨rfl, hb1⟩)
      all_goals
        go_wp2_with fail
        go_roundg (n - (j + 1))
        case measure => have := hk.out; omega
        case rel => exact ⟨j + 1, by omega, rfl, by go_num, hb.trans (Below.trans (by repeat (first | exact Below.refl _ _ | refine Below.drew ?_)) (hb1.mono hb.size))⟩
    · go_wp2_with fail
      go_ret
      exact ⟨rfl, hb⟩

theorem eqTree_same (a a' : Option Addr) (n c c' : Nat) (os : List LObj) (L U L' U' : Nat) (w : World) (hU : U ≤ w.heap.size) (hU' : U' ≤ w.heap.size) (H : ObjsAt w L U a n os) (H' : ObjsAt w L' U' a' n os) :
    Calls Tryz.prog 51 #[.agg #[.slice a n c], .agg #[.slice a' n c']] w fun e w' => e = .returned (.bool true) ∧ Below w.heap.size w w' := by
  have hB : ∀ o1 o2, Below w.heap.size w ((w.alloc o1).alloc o2) := fun o1 o2 => ((Below.refl _ _).alloc (Nat.le_refl _) _).alloc (by simp) _
  go_enter Tryz.func51, Tryz.ntmps51
  go_wp2_with fail
  refine (eqObjS_same _ _ _ _ _ _ L U L' U' _ (by simp; omega) (by simp; omega) (H.below (hB _ _) hU) (H'.below (hB _ _) hU')).mono ?_
  rintro x w1 ⟨rfl, hb⟩
  go_wp2_with fail
  go_ret
  exact ⟨rfl, (hB _ _).trans (hb.mono (by simp; omega))⟩
end Go.Proofs.YtnolbfijcnldjaaGreatDoor
