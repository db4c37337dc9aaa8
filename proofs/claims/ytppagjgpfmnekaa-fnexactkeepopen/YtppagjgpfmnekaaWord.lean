/- Contracts of isLetter, isFigure, TreeWord and TreeBody, of the program and of the specification: each returns the same plain function of the text, at every text. -/
import Derived.Test.YtppagjgpfmnekaaRows
import Derived.WalkKit
import Derived.ProofKit
import Derived.WalkSpells
import Derived.WalkLawsBesides
import Derived.Below
namespace Go.Proofs.Ytppagjgpfmnekaa
open Go.RowKit

def ltr (c : Int) : Bool := decide (97 ≤ c) && decide (c ≤ 122)
def fig (c : Int) : Bool := decide (48 ≤ c) && decide (c ≤ 57)
def allB (p : Int → Bool) (l : List UInt8) : Bool := l.all fun c => p c.toNat
def word (l : List UInt8) : Bool := allB ltr l && decide (0 < l.length) && decide (l.length ≤ 4)
def ltrFig (c : Int) : Bool := ltr c || fig c
def body (l : List UInt8) : Bool := allB ltrFig l && decide (l.length ≤ 12)

theorem ltr_yes {c : Int} (h1 : 97 ≤ c) (h2 : c ≤ 122) : ltr c = true := by simp [ltr, h1, h2]
theorem ltr_lo {c : Int} (h1 : ¬ 97 ≤ c) : ltr c = false := by simp [ltr, h1]
theorem ltr_hi {c : Int} (h2 : ¬ c ≤ 122) : ltr c = false := by simp [ltr, h2]
theorem fig_yes {c : Int} (h1 : 48 ≤ c) (h2 : c ≤ 57) : fig c = true := by simp [fig, h1, h2]
theorem fig_lo {c : Int} (h1 : ¬ 48 ≤ c) : fig c = false := by simp [fig, h1]
theorem fig_hi {c : Int} (h2 : ¬ c ≤ 57) : fig c = false := by simp [fig, h2]

theorem take_snoc (s : ByteArray) (k : Nat) (h : k < s.size) : s.data.toList.take (k + 1) = s.data.toList.take k ++ [s[k]] := by
  rw [List.take_succ_eq_append_getElem (by simpa using h)]; rfl

theorem allB_take (p : Int → Bool) (s : ByteArray) (k : Nat) (h : k < s.size) : allB p (s.data.toList.take (k + 1)) = (allB p (s.data.toList.take k) && p s[k].toNat) := by
  rw [take_snoc s k h]; simp [allB]

theorem allB_no (p : Int → Bool) (s : ByteArray) (k : Nat) (h : k < s.size) (hp : p s[k].toNat = false) : allB p s.data.toList = false := by
  have : s.data.toList = s.data.toList.take (k + 1) ++ s.data.toList.drop (k + 1) := (List.take_append_drop _ _).symm
  rw [this]
  have h1 := allB_take p s k h
  rw [hp, Bool.and_false] at h1
  unfold allB at h1 ⊢
  rw [List.all_append, h1, Bool.false_and]

theorem allB_full (p : Int → Bool) (s : ByteArray) (k : Nat) (h : ¬ k < s.size) (hp : allB p (s.data.toList.take k) = true) : allB p s.data.toList = true := by
  rwa [List.take_of_length_le (by simp; omega)] at hp

theorem word_short {l : List UInt8} (h : l.length < 1) : word l = false := by simp [word]; omega
theorem word_long {l : List UInt8} (h : 4 < l.length) : word l = false := by simp [word]; omega
theorem word_all {l : List UInt8} (h : 1 ≤ l.length) (h' : l.length ≤ 4) : word l = allB ltr l := by
  have a : decide (0 < l.length) = true := by simp; omega
  have b : decide (l.length ≤ 4) = true := by simp; omega
  simp only [word, a, b, Bool.and_true]
theorem ret_bool {a b : Bool} (h : a = b) : Ending.returned (.bool a) = .returned (.bool b) := by rw [h]

theorem word_no {l : List UInt8} (h : allB ltr l = false) : word l = false := by simp [word, h]
theorem word_yes {l : List UInt8} (h : allB ltr l = true) : word l = (decide (0 < l.length) && decide (l.length ≤ 4)) := by simp [word, h]
theorem body_no {l : List UInt8} (h : allB ltrFig l = false) : body l = false := by simp [body, h]
theorem body_yes {l : List UInt8} (h : allB ltrFig l = true) : body l = decide (l.length ≤ 12) := by simp [body, h]
theorem body_long {l : List UInt8} (h : 12 < l.length) : body l = false := by simp [body]; omega
theorem body_all {l : List UInt8} (h' : l.length ≤ 12) : body l = allB ltrFig l := by
  have b : decide (l.length ≤ 12) = true := by simp; omega
  simp only [body, b, Bool.and_true]
theorem byte_bd (s : ByteArray) (k : Nat) (h : k < s.size) : 0 ≤ (s[k].toNat : Int) ∧ (s[k].toNat : Int) ≤ 255 := by
  have := s[k].toNat_lt; omega

theorem word_end1 (s : ByteArray) (h : allB ltr s.data.toList = true) (h0 : 0 < s.size) : decide ((s.size : Int) ≤ 4) = word s.data.toList := by
  have hl : s.data.toList.length = s.size := by simp
  rw [word_yes h, hl, Bool.eq_iff_iff]; simp; omega
theorem word_end0 (s : ByteArray) (h0 : ¬ 0 < s.size) : false = word s.data.toList := by
  have hl : s.data.toList.length = s.size := by simp
  exact (word_short (by omega)).symm
theorem body_end (s : ByteArray) (h : allB ltrFig s.data.toList = true) : decide ((s.size : Int) ≤ 12) = body s.data.toList := by
  have hl : s.data.toList.length = s.size := by simp
  rw [body_yes h, hl, Bool.eq_iff_iff]; simp; omega

theorem lf_ltr {c : Int} (h1 : 97 ≤ c) (h2 : c ≤ 122) : ltrFig c = true := by simp [ltrFig, ltr_yes h1 h2]
theorem lf_fig {c : Int} (h1 : 48 ≤ c) (h2 : c ≤ 57) : ltrFig c = true := by simp [ltrFig, fig_yes h1 h2]
theorem lf_no {c : Int} (h : ¬ 97 ≤ c ∨ ¬ c ≤ 122) (h' : ¬ 48 ≤ c ∨ ¬ c ≤ 57) : ltrFig c = false := by
  rcases h with h | h <;> rcases h' with h' | h' <;> simp [ltrFig, ltr, fig, h, h']

end Go.Proofs.Ytppagjgpfmnekaa
