/- What is ok of one object: contracts of the program and of the specification. -/
import Derived.Test.YtnfegihemhidgaaKids12
namespace Go.Proofs.Ytnfegihemhidgaa
open Go.RowKit

def emp (s : ByteArray) : Bool := s.toList.isEmpty
def nil? (n : Nat) : Bool := decide (n = 0)
theorem nil_eq (n : Nat) : ((n : Int) == 0) = nil? n := by unfold nil?; rw [Bool.eq_iff_iff]; simp
def partsB (o : LObj) : Bool :=
  if o.kind = 0 then emp o.text && nil? o.kids.length
  else if o.kind = 1 then body o.text.data.toList && nil? o.kids.length
  else if o.kind = 2 then emp o.text && kidsB o.kids
  else false
def objB (o : LObj) : Bool := verB o.kind o.ver && partsB o

theorem implBody_of {s : ByteArray} {b : Bool} (h : body s.data.toList = b) (w : World) (hs : s.size ≤ maxLen) :
    Calls Try.prog 103 #[.string s] w fun e w' => e = .returned (.bool b) ∧ w' = w := by rw [← h]; exact implBody s w hs
theorem specBody_of {s : ByteArray} {b : Bool} (h : body s.data.toList = b) (w : World) (hs : s.size ≤ maxLen) :
    Calls Try.prog 59 #[.string s] w fun e w' => e = .returned (.bool b) ∧ w' = w := by rw [← h]; exact specBody s w hs

set_option maxHeartbeats 1000000 in
theorem partsOk_any (k v h : Int) (nm s : ByteArray) (a : Option Addr) (n c : Nat) (es : List LEnt) (L U : Nat) (w : World) (hU : U ≤ w.heap.size) (hs : s.size ≤ maxLen) (H : EntsAt w L U a n es) :
    Calls Try.prog 93 #[.agg #[.int .i64 k, .int .i64 v, .int .i64 h, .string nm, .string s, .slice a n c]] w fun e w' => e = .returned (.bool (partsB ⟨k, v, s, es⟩)) ∧ Below w.heap.size w w' := by
  have hB : ∀ o1, Below w.heap.size w (w.alloc o1) := fun o1 => (Below.refl _ _).alloc (Nat.le_refl _) _
  have hlen := H.len
  have HL : Hid (n = es.length) := hlen
  clear hlen
  by_cases hk0 : k = 0
  · subst hk0
    cases he : s.toList.isEmpty
    · have HEm : Hid (emp s = false) := he
      go_enter Try.func93, Try.ntmps93
      go_wp2_with fail
      go_ret
      exact ⟨ret_bool (by simp [partsB, HEm.out]), hB _⟩
    · have HEm : Hid (emp s = true) := he
      go_enter Try.func93, Try.ntmps93
      go_wp2_with fail
      go_ret
      exact ⟨ret_bool (by simp only [partsB, HEm.out, ← HL.out, nil_eq]; rfl), hB _⟩
  by_cases hk1 : k = 1
  · subst hk1
    cases hb : body s.data.toList
    · have HBy : Hid (body s.data.toList = false) := hb
      clear hb
      go_enter Try.func93, Try.ntmps93
      go_wp2_with (go_at_call 103; refine (implBody_of HBy.out _ hs).mono ?_; rintro x w1 ⟨rfl, rfl⟩)
      go_ret
      exact ⟨ret_bool (by simp [partsB, HBy.out]), hB _⟩
    · have HBy : Hid (body s.data.toList = true) := hb
      clear hb
      go_enter Try.func93, Try.ntmps93
      go_wp2_with (go_at_call 103; refine (implBody_of HBy.out _ hs).mono ?_; rintro x w1 ⟨rfl, rfl⟩)
      go_ret
      exact ⟨ret_bool (by simp only [partsB, HBy.out, ← HL.out, nil_eq]; rfl), hB _⟩
  by_cases hk2 : k = 2
  · subst hk2
    cases he : s.toList.isEmpty
    · have HEm : Hid (emp s = false) := he
      go_enter Try.func93, Try.ntmps93
      go_wp2_with fail
      go_ret
      exact ⟨ret_bool (by simp [partsB, HEm.out]), hB _⟩
    · have HEm : Hid (emp s = true) := he
      go_enter Try.func93, Try.ntmps93
      go_wp2_with fail
      refine (implKidsOk _ _ _ _ L U _ (by simp; omega) (H.below (hB _) hU)).mono ?_
      rintro x w1 ⟨rfl, hb1⟩
      go_wp2_with fail
      go_ret
      exact ⟨ret_bool (by simp [partsB, HEm.out]), (hB _).trans (hb1.mono (by simp))⟩
  · have t0 : (k == 0) = false := by simpa using hk0
    have t1 : (k == 1) = false := by simpa using hk1
    have t2 : (k == 2) = false := by simpa using hk2
    have HK : Hid (k ≠ 0 ∧ k ≠ 1 ∧ k ≠ 2) := ⟨hk0, hk1, hk2⟩
    clear hk0 hk1 hk2
    go_enter Try.func93, Try.ntmps93
    go_wp2_with fail
    go_ret
    exact ⟨ret_bool (by simp [partsB, HK.out.1, HK.out.2.1, HK.out.2.2]), hB _⟩

theorem objB_lo {o : LObj} (h : o.ver < 0) : objB o = false := by
  unfold objB verB
  have : ¬ (if o.kind = 0 then (0 : Int) else 1) ≤ o.ver := by split <;> omega
  simp [this]
theorem objB_hi {o : LObj} (h : 1000000 < o.ver) : objB o = false := by
  have : ¬ o.ver ≤ 1000000 := by omega
  simp [objB, verB, this]
theorem objB_parts {o : LObj} (h : partsB o = false) : objB o = false := by simp [objB, h]
theorem objB_0 {o : LObj} (h0 : 0 ≤ o.ver) (h1 : o.ver ≤ 1000000) (hk : o.kind = 0) : objB o = partsB o := by
  simp [objB, verB, hk, h0, h1]
theorem objB_n {o : LObj} (h1 : o.ver ≤ 1000000) (hk : o.kind ≠ 0) : objB o = (partsB o && decide (0 < o.ver)) := by
  have : decide (1 ≤ o.ver) = decide (0 < o.ver) := by rw [Bool.eq_iff_iff]; simp; omega
  simp [objB, verB, hk, h1, this, Bool.and_comm]

set_option maxHeartbeats 1000000 in
theorem l1Obj_any (k v : Int) (s : ByteArray) (a : Option Addr) (n c : Nat) (es : List LEnt) (L U : Nat) (w : World) (hU : U ≤ w.heap.size) (hs : s.size ≤ maxLen) (H : EntsAt w L U a n es) :
    Calls Try.prog 33 #[.agg #[.int .i64 k, .int .i64 v, .string s, .slice a n c]] w fun e w' => e = .returned (.bool (objB ⟨k, v, s, es⟩)) ∧ Below w.heap.size w w' := by
  have hB : ∀ o1, Below w.heap.size w (w.alloc o1) := fun o1 => (Below.refl _ _).alloc (Nat.le_refl _) _
  have hlen := H.len
  have HL : Hid (n = es.length) := hlen
  clear hlen
  by_cases hv0 : v < 0
  · go_enter Try.func33, Try.ntmps33
    go_wp2_with fail
    go_ret
    exact ⟨ret_bool (objB_lo (o := ⟨k, v, s, es⟩) hv0).symm, hB _⟩
  by_cases hv1 : 1000000 < v
  · go_enter Try.func33, Try.ntmps33
    go_wp2_with fail
    go_ret
    exact ⟨ret_bool (objB_hi (o := ⟨k, v, s, es⟩) hv1).symm, hB _⟩
  have hw0 : 0 ≤ v := by omega
  have hw1 : v ≤ 1000000 := by omega
  have HV0 : Hid (0 ≤ v) := hw0
  have HV1 : Hid (v ≤ 1000000) := hw1
  clear hv0 hv1
  by_cases hk0 : k = 0
  · subst hk0
    cases he : s.toList.isEmpty
    · have HEm : Hid (emp s = false) := he
      go_enter Try.func33, Try.ntmps33
      go_wp2_with fail
      go_ret
      exact ⟨ret_bool (by rw [objB_0 (o := ⟨0, v, s, es⟩) HV0.out HV1.out rfl]; simp [partsB, HEm.out]), hB _⟩
    · have HEm : Hid (emp s = true) := he
      go_enter Try.func33, Try.ntmps33
      go_wp2_with fail
      go_ret
      exact ⟨ret_bool (by rw [objB_0 (o := ⟨0, v, s, es⟩) HV0.out HV1.out rfl]; simp only [partsB, HEm.out, ← HL.out, nil_eq]; rfl), hB _⟩
  by_cases hk1 : k = 1
  · subst hk1
    cases hb : body s.data.toList
    · have HBy : Hid (body s.data.toList = false) := hb
      clear hb
      go_enter Try.func33, Try.ntmps33
      go_wp2_with (go_at_call 59; refine (specBody_of HBy.out _ hs).mono ?_; rintro x w1 ⟨rfl, rfl⟩)
      go_ret
      exact ⟨ret_bool (by rw [objB_parts (o := ⟨1, v, s, es⟩) (by simp [partsB, HBy.out])]), hB _⟩
    · have HBy : Hid (body s.data.toList = true) := hb
      clear hb
      by_cases hn : n = 0
      · have t : ((n : Int) == 0) = true := by simpa using hn
        have HN : Hid (n = 0) := hn
        clear hn
        go_enter Try.func33, Try.ntmps33
        go_wp2_with (go_at_call 59; refine (specBody_of HBy.out _ hs).mono ?_; rintro x w1 ⟨rfl, rfl⟩)
        go_ret
        exact ⟨ret_bool (by rw [objB_n (o := ⟨1, v, s, es⟩) HV1.out (by simp)]; simp [partsB, HBy.out, nil?, ← HL.out, HN.out]), hB _⟩
      · have t : ((n : Int) == 0) = false := by simpa using hn
        have HN : Hid (n ≠ 0) := hn
        clear hn
        go_enter Try.func33, Try.ntmps33
        go_wp2_with (go_at_call 59; refine (specBody_of HBy.out _ hs).mono ?_; rintro x w1 ⟨rfl, rfl⟩)
        go_ret
        exact ⟨ret_bool (by rw [objB_parts (o := ⟨1, v, s, es⟩) (by simp [partsB, HBy.out, nil?, ← HL.out, HN.out])]), hB _⟩
  by_cases hk2 : k = 2
  · subst hk2
    cases he : s.toList.isEmpty
    · have HEm : Hid (emp s = false) := he
      go_enter Try.func33, Try.ntmps33
      go_wp2_with fail
      go_ret
      exact ⟨ret_bool (by rw [objB_parts (o := ⟨2, v, s, es⟩) (by simp [partsB, HEm.out])]), hB _⟩
    · have HEm : Hid (emp s = true) := he
      go_enter Try.func33, Try.ntmps33
      go_wp2_with fail
      refine (specKidsOk _ _ _ _ L U _ (H.below (hB _) hU)).mono ?_
      rintro x w1 ⟨rfl, m, rfl⟩
      cases hkb : kidsB es
      · have HKB : Hid (kidsB es = false) := hkb
        clear hkb
        go_wp2_with fail
        go_ret
        exact ⟨ret_bool (by rw [objB_parts (o := ⟨2, v, s, es⟩) (by simp [partsB, HKB.out])]), (hB _).trans ((Below.drewN _ _).mono (by simp))⟩
      · have HKB : Hid (kidsB es = true) := hkb
        clear hkb
        go_wp2_with fail
        go_ret
        exact ⟨ret_bool (by rw [objB_n (o := ⟨2, v, s, es⟩) HV1.out (by simp)]; simp [partsB, HKB.out, HEm.out]), (hB _).trans ((Below.drewN _ _).mono (by simp))⟩
  · have t0 : (k == 0) = false := by simpa using hk0
    have t1 : (k == 1) = false := by simpa using hk1
    have t2 : (k == 2) = false := by simpa using hk2
    have HK : Hid (k ≠ 0 ∧ k ≠ 1 ∧ k ≠ 2) := ⟨hk0, hk1, hk2⟩
    clear hk0 hk1 hk2
    go_enter Try.func33, Try.ntmps33
    go_wp2_with fail
    go_ret
    exact ⟨ret_bool (by rw [objB_parts (o := ⟨k, v, s, es⟩) (by simp [partsB, HK.out.1, HK.out.2.1, HK.out.2.2])]), hB _⟩
end Go.Proofs.Ytnfegihemhidgaa
