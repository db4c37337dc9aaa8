/- What is done: whether it can be done at all. -/
import Derived.Test.YtjenldenggaljaaObj
import Derived.Deep.DeepCutAuto
namespace Go.Proofs.Ytjenldenggaljaa
open Go.RowKit

structure LOp where
  kind : Int
  dir : Int
  name : ByteArray
  dir2 : Int
  name2 : ByteArray
  id : Int
  text : ByteArray
def LOp.val (o : LOp) : Array Value := #[.int .i64 o.kind, .int .i64 o.dir, .string o.name, .int .i64 o.dir2, .string o.name2, .int .i64 o.id, .string o.text]
theorem l1Id_any (i : Int) (w : World) : Calls Try.prog 78 #[.int .i64 i] w fun e w' => e = .returned (.bool (idB i)) ∧ w' = w := by
  by_cases h0 : 0 ≤ i
  · by_cases h1 : i < 32
    · have : idB i = true := by simp [idB, h0, h1]
      rw [this]; exact l1Id_yes i h0 h1 w
    · have : idB i = false := by simp [idB, h1]
      rw [this]; exact l1Id_no i (.inr (by omega)) w
  · have : idB i = false := by simp [idB, h0]
    rw [this]; exact l1Id_no i (.inl (by omega)) w
def opId (o : LOp) : Bool := decide (1 ≤ o.id) && idB o.id
def opSlot (o : LOp) : Bool := idB o.dir && word o.name.data.toList
def opSlot2 (o : LOp) : Bool := idB o.dir2 && word o.name2.data.toList
def opNone2 (o : LOp) : Bool := (o.dir2 == 0) && o.name2.toList.isEmpty
def opOk (o : LOp) : Bool :=
  if o.kind = 1 ∨ o.kind = 2 ∨ o.kind = 3 then opId o && opSlot o && opNone2 o && o.text.toList.isEmpty
  else if o.kind = 4 then opId o && opSlot o && opSlot2 o && o.text.toList.isEmpty
  else if o.kind = 5 then opId o && (o.dir == 0) && o.name.toList.isEmpty && opNone2 o && body o.text.data.toList
  else false

set_option maxHeartbeats 2000000 in
set_option maxRecDepth 20000 in
theorem opOk_any (o : LOp) (w : World) (h1 : o.name.size ≤ maxLen) (h2 : o.name2.size ≤ maxLen) (h3 : o.text.size ≤ maxLen) :
    Calls Try.prog 56 #[.agg o.val] w fun e w' => e = .returned (.bool (opOk o)) ∧ w' = w.alloc (.cells o.val 65) := by
  obtain ⟨k, d, nm, d2, nm2, id, tx⟩ := o
  simp only [LOp.val] at *
  go_enter Try.func56, Try.ntmps56
  go_upto_region 1 with fail
  go_cut [3] (fun s wx => s = .bool (opId ⟨k, d, nm, d2, nm2, id, tx⟩) ∧ wx = w.alloc (.cells #[.int .i64 k, .int .i64 d, .string nm, .int .i64 d2, .string nm2, .int .i64 id, .string tx] 65))
  case first =>
    by_cases hi : 1 ≤ id
    · go_wp2_with fail
      refine (l1Id_any _ _).mono ?_
      rintro x w1 ⟨rfl, rfl⟩
      go_wp2_with fail
      go_meet
      exact ⟨by simp [opId, hi], rfl⟩
    · go_wp2_with fail
      go_meet
      exact ⟨by simp [opId]; omega, rfl⟩
  obtain ⟨rfl, rfl⟩ := hcut
  go_upto_region 2 with fail
  go_cut [4] (fun s wx => s = .bool (opSlot ⟨k, d, nm, d2, nm2, id, tx⟩) ∧ wx = w.alloc (.cells #[.int .i64 k, .int .i64 d, .string nm, .int .i64 d2, .string nm2, .int .i64 id, .string tx] 65))
  case first =>
    by_cases hi : idB d = true
    · go_wp2_with fail
      refine (l1Id_any _ _).mono ?_
      rintro x w1 ⟨rfl, rfl⟩
      go_wp2_with fail
      refine (specWord _ _ h1).mono ?_
      rintro x w1 ⟨rfl, rfl⟩
      go_wp2_with fail
      go_meet
      exact ⟨by simp [opSlot, hi], rfl⟩
    · have hi' : idB d = false := by simpa using hi
      go_wp2_with fail
      refine (l1Id_any _ _).mono ?_
      rintro x w1 ⟨rfl, rfl⟩
      go_wp2_with fail
      go_meet
      exact ⟨by simp [opSlot, hi'], rfl⟩
  obtain ⟨rfl, rfl⟩ := hcut
  go_upto_region 3 with fail
  go_cut [5] (fun s wx => s = .bool (opSlot2 ⟨k, d, nm, d2, nm2, id, tx⟩) ∧ wx = w.alloc (.cells #[.int .i64 k, .int .i64 d, .string nm, .int .i64 d2, .string nm2, .int .i64 id, .string tx] 65))
  case first =>
    by_cases hi : idB d2 = true
    · go_wp2_with fail
      refine (l1Id_any _ _).mono ?_
      rintro x w1 ⟨rfl, rfl⟩
      go_wp2_with fail
      refine (specWord _ _ h2).mono ?_
      rintro x w1 ⟨rfl, rfl⟩
      go_wp2_with fail
      go_meet
      exact ⟨by simp [opSlot2, hi], rfl⟩
    · have hi' : idB d2 = false := by simpa using hi
      go_wp2_with fail
      refine (l1Id_any _ _).mono ?_
      rintro x w1 ⟨rfl, rfl⟩
      go_wp2_with fail
      go_meet
      exact ⟨by simp [opSlot2, hi'], rfl⟩
  obtain ⟨rfl, rfl⟩ := hcut
  go_upto_region 4 with fail
  go_cut [6] (fun s wx => s = .bool (opNone2 ⟨k, d, nm, d2, nm2, id, tx⟩) ∧ wx = w.alloc (.cells #[.int .i64 k, .int .i64 d, .string nm, .int .i64 d2, .string nm2, .int .i64 id, .string tx] 65))
  case first =>
    by_cases hi : d2 = 0
    · have t0 : (d2 == 0) = true := by simpa using hi
      clear hi
      go_wp2_with fail
      go_meet
      exact ⟨by simp only [opNone2, t0]; rfl, rfl⟩
    · have t0 : (d2 == 0) = false := by simpa using hi
      go_wp2_with fail
      go_meet
      exact ⟨by simp [opNone2, hi], rfl⟩
  obtain ⟨rfl, rfl⟩ := hcut
  have HV : Hid (opOk ⟨k, d, nm, d2, nm2, id, tx⟩ = if k = 1 ∨ k = 2 ∨ k = 3 then opId ⟨k, d, nm, d2, nm2, id, tx⟩ && opSlot ⟨k, d, nm, d2, nm2, id, tx⟩ && opNone2 ⟨k, d, nm, d2, nm2, id, tx⟩ && tx.toList.isEmpty
      else if k = 4 then opId ⟨k, d, nm, d2, nm2, id, tx⟩ && opSlot ⟨k, d, nm, d2, nm2, id, tx⟩ && opSlot2 ⟨k, d, nm, d2, nm2, id, tx⟩ && tx.toList.isEmpty
      else if k = 5 then opId ⟨k, d, nm, d2, nm2, id, tx⟩ && (d == 0) && nm.toList.isEmpty && opNone2 ⟨k, d, nm, d2, nm2, id, tx⟩ && body tx.data.toList else false) := rfl
  generalize opId ⟨k, d, nm, d2, nm2, id, tx⟩ = A at HV ⊢
  generalize opSlot ⟨k, d, nm, d2, nm2, id, tx⟩ = S at HV ⊢
  generalize opSlot2 ⟨k, d, nm, d2, nm2, id, tx⟩ = S2 at HV ⊢
  generalize opNone2 ⟨k, d, nm, d2, nm2, id, tx⟩ = N at HV ⊢
  by_cases k1 : k = 1 ∨ k = 2 ∨ k = 3
  · rcases k1 with rfl | rfl | rfl
    all_goals
      cases A <;> cases S <;> cases N <;>
      (go_wp2_with fail; go_ret; exact ⟨by rw [HV.out]; simp, rfl⟩)
  · have e1 : (k == 1) = false := by simp; omega
    have e2 : (k == 2) = false := by simp; omega
    have e3 : (k == 3) = false := by simp; omega
    by_cases k4 : k = 4
    · subst k4
      clear k1 e1 e2 e3
      cases A <;> cases S <;> cases S2 <;>
      (go_wp2_with fail; go_ret; exact ⟨by rw [HV.out]; simp, rfl⟩)
    · have e4 : (k == 4) = false := by simp; omega
      by_cases k5 : k = 5
      · subst k5
        clear k1 e1 e2 e3 e4 k4
        by_cases hd : d = 0
        · have t0 : (d == 0) = true := by simpa using hd
          have HD : Hid (d = 0) := hd
          clear hd
          rcases hn : nm.toList.isEmpty with _ | _
          all_goals
            cases A <;> cases N <;>
            (go_wp2_with (go_at_call 44; refine (specBody _ _ h3).mono ?_; rintro x w1 ⟨rfl, rfl⟩)
             go_ret
             exact ⟨by rw [HV.out]; simp [HD.out, hn], rfl⟩)
        · have t0 : (d == 0) = false := by simpa using hd
          cases A <;> cases N <;>
          (go_wp2_with fail; go_ret; exact ⟨by rw [HV.out]; simp [hd], rfl⟩)
      · have e5 : (k == 5) = false := by simp; omega
        have HV' : Hid (opOk ⟨k, d, nm, d2, nm2, id, tx⟩ = false) := by show _ = _; rw [HV.out]; simp [k1, k4, k5]
        clear HV k1 k4 k5
        go_wp2_with fail
        go_ret
        exact ⟨by rw [HV'.out]; rfl, rfl⟩
end Go.Proofs.Ytjenldenggaljaa
