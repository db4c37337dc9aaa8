/- What is ok of one object: contracts of the program and of the specification. -/
import Derived.Test.YtmmgomgpnkahjaaKids12
namespace Go.Proofs.Ytmmgomgpnkahjaa
open Go.RowKit

def emp (s : ByteArray) : Bool := s.toList.isEmpty
def nil? (n : Nat) : Bool := decide (n = 0)
theorem nil_eq (n : Nat) : ((n : Int) == 0) = nil? n := by unfold nil?; rw [Bool.eq_iff_iff]; simp
def partsB (o : LObj) : Bool :=
  if o.kind = 0 then emp o.text && nil? o.kids.length
  else if o.kind = 1 then body o.text.data.toList && nil? o.kids.length
  else if o.kind = 2 then emp o.text && kidsB o.kids
  else false
def objB (o : LObj) : Bool := verB o.kind o.ver && partsB o

theorem implBody_of {s : ByteArray} {b : Bool} (h : body s.data.toList = b) (w : World) (hs : s.size ≤ maxLen) :
    Calls Try.prog 101 #[.string s] w fun e w' => e = .returned (.bool b) ∧ w' = w := by rw [← h]; exact implBody s w hs
theorem specBody_of {s : ByteArray} {b : Bool} (h : body s.data.toList = b) (w : World) (hs : s.size ≤ maxLen) :
    Calls Try.prog 82 #[.string s] w fun e w' => e = .returned (.bool b) ∧ w' = w := by rw [← h]; exact specBody s w hs

theorem objB_lo {o : LObj} (h : o.ver < 0) : objB o = false := by
  unfold objB verB
  have : ¬ (if o.kind = 0 then (0 : Int) else 1) ≤ o.ver := by split <;> omega
  simp [this]
theorem objB_hi {o : LObj} (h : 1000000 < o.ver) : objB o = false := by
  have : ¬ o.ver ≤ 1000000 := by omega
  simp [objB, verB, this]
theorem objB_parts {o : LObj} (h : partsB o = false) : objB o = false := by simp [objB, h]
theorem objB_0 {o : LObj} (h0 : 0 ≤ o.ver) (h1 : o.ver ≤ 1000000) (hk : o.kind = 0) : objB o = partsB o := by
  simp [objB, verB, hk, h0, h1]
theorem objB_n {o : LObj} (h1 : o.ver ≤ 1000000) (hk : o.kind ≠ 0) : objB o = (partsB o && decide (0 < o.ver)) := by
  have : decide (1 ≤ o.ver) = decide (0 < o.ver) := by rw [Bool.eq_iff_iff]; simp; omega
  simp [objB, verB, hk, h1, this, Bool.and_comm]

end Go.Proofs.Ytmmgomgpnkahjaa
