/- Servers: what is ok of them, and two that are compared; the program's and the specification's. -/
import Derived.Test.YtdjffkiiglilnaaShopA
import Derived.Test.YtdjffkiiglilnaaLogD
import Derived.Test.YtdjffkiiglilnaaUnder
namespace Go.Proofs.Ytdjffkiiglilnaa
open Go.RowKit

def doneB (d : LDone) : Bool := decide (0 ≤ d.who) && decide (d.who < 3) && (decide (1 ≤ d.seq) && decide (d.seq ≤ 1000)) && ((d.code == 0) || (d.code == 1))
/-- The one ahead of it, if there is one, has a smaller number. -/
def behindB (ds : List LDone) (i : Nat) (d : LDone) : Bool := match i with
  | 0 => true
  | k + 1 => match ds[k]? with
    | none => true
    | some p => decide (p.who < d.who)
def doneAtB (ds : List LDone) (i : Nat) : Bool := match ds[i]? with
  | none => true
  | some d => doneB d && behindB ds i d
def donesB (ds : List LDone) : Bool := (List.range ds.length).all (doneAtB ds)
theorem donesB_no {ds : List LDone} {i : Nat} (hi : i < ds.length) (h : doneAtB ds i = false) : donesB ds = false := by
  unfold donesB
  rw [List.all_eq_false]
  exact ⟨i, List.mem_range.2 hi, by simp [h]⟩
theorem donesB_yes {ds : List LDone} (h : ∀ i, i < ds.length → doneAtB ds i = true) : donesB ds = true := by
  unfold donesB
  rw [List.all_eq_true]
  exact fun i hi => h i (List.mem_range.1 hi)
theorem doneAtB_of {ds : List LDone} {i : Nat} {d : LDone} (h : ds[i]? = some d) : doneAtB ds i = (doneB d && behindB ds i d) := by simp [doneAtB, h]
theorem behindB_of {ds : List LDone} {i k : Nat} {d p : LDone} (e : i = k + 1) (h : ds[k]? = some p) : behindB ds i d = decide (p.who < d.who) := by subst e; simp [behindB, h]

set_option maxHeartbeats 4000000 in
set_option maxRecDepth 20000 in
theorem donesOk_any (a : Option Addr) (n c : Nat) (ds : List LDone) (L U : Nat) (w : World) (hU : U ≤ w.heap.size) (H : DonesAt w L U a n ds) :
    Calls Try.prog 83 #[.slice a n c] w fun e w' => e = .returned (.bool (donesB ds)) ∧ Below w.heap.size w w' := by
  have hbd := H.bd
  unfold maxLen at hbd
  have HLN : Hid (n = ds.length) := H.len
  go_enter Try.func83, Try.ntmps83
  go_wp2_with fail
  go_loopg [7] n (fun g i wr => ∃ j : Nat, j ≤ n ∧ Hid (g = n - j) ∧ i = .int .i64 j ∧ Hid (∀ i, i < j → doneAtB ds i = true) ∧ Below w.heap.size w wr)
  case atStart => exact ⟨0, Nat.zero_le _, rfl, rfl, fun i hi => by omega, Below.refl _ _⟩
  case round =>
    obtain ⟨j, hj, hk, rfl, hq, hb⟩ := hrel
    by_cases hlt : j < n
    · obtain ⟨b, off, ha, hL, hbU, hc⟩ := H.at_ (by omega)
      subst ha
      obtain ⟨x, he, c0, c1, c2⟩ := hc j hlt
      rw [← hb.cell (by simp; omega)] at c0 c1 c2
      have HX : Hid (ds[j]? = some x) := he
      have hlt' : (j : Int) < (n : Int) := by omega
      have hA : ∀ o1 : Obj, Below w.heap.size w (wr.alloc o1) := fun o1 => hb.alloc hb.size _
      rcases t1 : (decide (0 ≤ x.who) && decide (x.who < 3)) with _ | _
      · have HN : Hid (donesB ds = false) := donesB_no (i := j) (by rw [← HLN.out]; exact hlt) (by rw [doneAtB_of he, doneB, t1]; simp)
        clear he hc
        go_wp2_with fail
        refine (isClient_any _ _).mono ?_
        rintro e w1 ⟨rfl, rfl⟩
        rw [t1]
        go_wp2_with fail
        go_ret
        exact ⟨ret_bool HN.out.symm, hA _⟩
      rcases t2 : (decide (1 ≤ x.seq) && decide (x.seq ≤ 1000)) with _ | _
      · have HN : Hid (donesB ds = false) := donesB_no (i := j) (by rw [← HLN.out]; exact hlt) (by rw [doneAtB_of he, doneB, t2]; simp)
        clear he hc
        go_wp2_with fail
        refine (isClient_any _ _).mono ?_
        rintro e w1 ⟨rfl, rfl⟩
        rw [t1]
        go_wp2_with fail
        refine (isLogNumber_any _ _).mono ?_
        rintro e w1 ⟨rfl, rfl⟩
        rw [t2]
        go_wp2_with fail
        go_ret
        exact ⟨ret_bool HN.out.symm, hA _⟩
      by_cases t3 : x.code = 0 ∨ x.code = 1
      case neg =>
        have HN : Hid (donesB ds = false) := donesB_no (i := j) (by rw [← HLN.out]; exact hlt) (by rw [doneAtB_of he, doneB]; simp; omega)
        have u0 : (x.code != 0) = true := by simp; omega
        have u1 : (x.code != 1) = true := by simp; omega
        clear he hc t3
        go_wp2_with fail
        refine (isClient_any _ _).mono ?_
        rintro e w1 ⟨rfl, rfl⟩
        rw [t1]
        go_wp2_with fail
        refine (isLogNumber_any _ _).mono ?_
        rintro e w1 ⟨rfl, rfl⟩
        rw [t2]
        go_wp2_with fail
        go_ret
        exact ⟨ret_bool HN.out.symm, hA _⟩
      have HD : Hid (doneB x = true) := by
        show _ = _
        rw [doneB, t1, t2]
        rcases t3 with h | h <;> simp [h]
      have HC : Hid (((x.code != 0) = false) ∨ ((x.code != 0) = true ∧ (x.code != 1) = false)) := by
        rcases t3 with h | h
        · exact .inl (by simp [h])
        · exact .inr (by simp [h])
      clear t3
      obtain ⟨wb, hwb⟩ : ∃ W : World, W = wr := ⟨_, rfl⟩
      by_cases hj0 : j = 0
      · have HN : Hid (doneAtB ds j = true) := by show _ = _; rw [doneAtB_of he, HD.out, hj0]; rfl
        have hg : ¬ (0 : Int) < (j : Int) := by omega
        have hg' : ¬ 0 < j := by omega
        have HJ : Hid (j = 0) := hj0
        have HCC := HC.out
        clear he hc HD HC hj0 hwb
        rcases HCC with u0 | ⟨u0, u1⟩
        all_goals
          go_wp2_with fail
          refine (isClient_any _ _).mono ?_
          rintro e w1 ⟨rfl, rfl⟩
          rw [t1]
          go_wp2_with fail
          refine (isLogNumber_any _ _).mono ?_
          rintro e w1 ⟨rfl, rfl⟩
          rw [t2]
          go_wp2_with fail
          go_quiet (fail)
          go_wp2_with fail
          go_roundg (n - (j + 1))
          case measure => have := hk.out; omega
          case rel =>
            refine ⟨j + 1, by omega, rfl, by go_num, fun i hi => ?_, (hA _).trans ((Below.drewN _ _).mono (by have := hb.size; simp <;> omega))⟩
            by_cases e : i = j
            · subst e; exact HN.out
            · exact hq.out i (by omega)
      obtain ⟨k, hk1⟩ : ∃ k, k + 1 = j := ⟨j - 1, by omega⟩
      obtain ⟨y, hy, d0, _, _⟩ := hc k (by omega)
      rw [← hb.cell (by simp; omega)] at d0
      have d0' : ∀ o : Obj, (wr.alloc o).cell? ⟨b, off + k * 3, none⟩ = some (.int .i64 y.who) := fun o => by
        rw [((Below.refl wr.heap.size wr).alloc (Nat.le_refl _) o).cell (by have := hb.size; simp; omega)]; exact d0
      have hw : IntKind.i64.wrap ((j : Int) - 1) = (k : Int) := by simp only [IntKind.wrap_i64]; omega
      have hg : (0 : Int) < (j : Int) := by omega
      have hg' : 0 < j := by omega
      have hkn : (k : Int) < (n : Int) := by omega
      have hkn' : k < n := by omega
      have HBH : Hid (doneAtB ds j = decide (y.who < x.who)) := by show _ = _; rw [doneAtB_of he, HD.out, behindB_of hk1.symm hy]; simp
      have HJ : Hid (k + 1 = j) := hk1
      have HCC := HC.out
      clear he hc HD HC hj0 hwb hk1 hy
      by_cases hlt2 : y.who < x.who
      · have HN : Hid (doneAtB ds j = true) := by show _ = _; rw [HBH.out]; simp [hlt2]
        clear HBH
        rcases HCC with u0 | ⟨u0, u1⟩
        all_goals
          go_wp2_with fail
          refine (isClient_any _ _).mono ?_
          rintro e w1 ⟨rfl, rfl⟩
          rw [t1]
          go_wp2_with fail
          refine (isLogNumber_any _ _).mono ?_
          rintro e w1 ⟨rfl, rfl⟩
          rw [t2]
          go_wp2_with fail
          go_quiet (fail)
          go_wp2_with fail
          go_roundg (n - (j + 1))
          case measure => have := hk.out; omega
          case rel =>
            refine ⟨j + 1, by omega, rfl, by go_num, fun i hi => ?_, (hA _).trans ((Below.drewN _ _).mono (by have := hb.size; simp <;> omega))⟩
            by_cases e : i = j
            · subst e; exact HN.out
            · exact hq.out i (by omega)
      · have HN : Hid (donesB ds = false) := donesB_no (i := j) (by rw [← HLN.out]; exact hlt) (by rw [HBH.out]; simp [hlt2])
        clear HBH
        rcases HCC with u0 | ⟨u0, u1⟩
        all_goals
          go_wp2_with fail
          refine (isClient_any _ _).mono ?_
          rintro e w1 ⟨rfl, rfl⟩
          rw [t1]
          go_wp2_with fail
          refine (isLogNumber_any _ _).mono ?_
          rintro e w1 ⟨rfl, rfl⟩
          rw [t2]
          go_wp2_with fail
          go_quiet (fail)
          go_wp2_with fail
          go_ret
          exact ⟨ret_bool HN.out.symm, (hA _).trans ((Below.drewN _ _).mono (by have := hb.size; simp <;> omega))⟩
    · have HN : Hid (donesB ds = true) := donesB_yes (fun i hi => hq.out i (by rw [← HLN.out] at hi; omega))
      go_wp2_with fail
      go_ret
      exact ⟨ret_bool HN.out.symm, hb⟩
end Go.Proofs.Ytdjffkiiglilnaa
