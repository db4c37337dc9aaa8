/- Lists of what is done: compared. -/
import Derived.Test.YtnfegihemhidgaaOpsAll
import Derived.Test.YtnfegihemhidgaaSameAll
namespace Go.Proofs.Ytnfegihemhidgaa
open Go.RowKit

def opEq (x y : LOp) : Bool := (x.kind == y.kind) && (x.dir == y.dir) && (x.name.toList == y.name.toList) && (x.dir2 == y.dir2) && (x.name2.toList == y.name2.toList) && (x.id == y.id) && (x.text.toList == y.text.toList)
/-- Two are one, or there is a first part in which they are not. -/
def OpParts (x y : LOp) : Prop := ((x.kind == y.kind) = true ∧ (x.dir == y.dir) = true ∧ (x.name.toList == y.name.toList) = true ∧ (x.dir2 == y.dir2) = true ∧ (x.name2.toList == y.name2.toList) = true ∧ (x.id == y.id) = true ∧ (x.text.toList == y.text.toList) = true) ∨ ((x.kind == y.kind) = false) ∨ ((x.kind == y.kind) = true ∧ (x.dir == y.dir) = false) ∨ ((x.kind == y.kind) = true ∧ (x.dir == y.dir) = true ∧ (x.name.toList == y.name.toList) = false) ∨ ((x.kind == y.kind) = true ∧ (x.dir == y.dir) = true ∧ (x.name.toList == y.name.toList) = true ∧ (x.dir2 == y.dir2) = false) ∨ ((x.kind == y.kind) = true ∧ (x.dir == y.dir) = true ∧ (x.name.toList == y.name.toList) = true ∧ (x.dir2 == y.dir2) = true ∧ (x.name2.toList == y.name2.toList) = false) ∨ ((x.kind == y.kind) = true ∧ (x.dir == y.dir) = true ∧ (x.name.toList == y.name.toList) = true ∧ (x.dir2 == y.dir2) = true ∧ (x.name2.toList == y.name2.toList) = true ∧ (x.id == y.id) = false) ∨ ((x.kind == y.kind) = true ∧ (x.dir == y.dir) = true ∧ (x.name.toList == y.name.toList) = true ∧ (x.dir2 == y.dir2) = true ∧ (x.name2.toList == y.name2.toList) = true ∧ (x.id == y.id) = true ∧ (x.text.toList == y.text.toList) = false)
theorem opParts (x y : LOp) : OpParts x y := by
  unfold OpParts
  cases h0 : (x.kind == y.kind) <;> cases h1 : (x.dir == y.dir) <;> cases h2 : (x.name.toList == y.name.toList) <;> cases h3 : (x.dir2 == y.dir2) <;> cases h4 : (x.name2.toList == y.name2.toList) <;> cases h5 : (x.id == y.id) <;> cases h6 : (x.text.toList == y.text.toList) <;> simp [*]
theorem opEq_self (x : LOp) : opEq x x = true := by simp [opEq]

set_option maxHeartbeats 2000000 in
theorem specOpSame (a a' : Option Addr) (n n' c c' : Nat) (ops ops' : List LOp) (L U L' U' : Nat) (w : World) (H : OpsAt w L U a n ops) (H' : OpsAt w L' U' a' n' ops') :
    Calls Try.prog 49 #[.slice a n c, .slice a' n' c'] w fun e w' => e = .returned (.bool (listEq opEq ops ops')) ∧ ∃ m, w' = w.drewN m := by
  have hbd := H.bd
  have hbd' := H'.bd
  unfold maxLen at hbd hbd'
  by_cases hnn : n = n'
  · subst hnn
    go_enter Try.func49, Try.ntmps49
    go_wp2
    go_loopg [5] n (fun k i wr => ∃ j : Nat, j ≤ n ∧ Hid (k = n - j) ∧ i = .int .i64 j ∧ Hid (∀ i, i < j → ∀ x y, ops[i]? = some x → ops'[i]? = some y → opEq x y = true) ∧ Hid (∃ m, wr = w.drewN m))
    case atStart => exact ⟨0, Nat.zero_le _, by show _ = _; omega, rfl, fun i hi => by omega, ⟨0, rfl⟩⟩
    case round =>
      obtain ⟨j, hj, hk, rfl, hq, hb⟩ := hrel
      obtain ⟨m, rfl⟩ := hb.out
      by_cases hlt : j < n
      · obtain ⟨b, off, ha, hL, hbU, hc⟩ := H.at_ (by omega)
        obtain ⟨b', off', ha', hL', hbU', hc'⟩ := H'.at_ (by omega)
        subst ha ha'
        obtain ⟨x, he, hsz, c0, c1, c2, c3, c4, c5, c6⟩ := hc j hlt
        obtain ⟨y, he2, hsz2, d0, d1, d2, d3, d4, d5, d6⟩ := hc' j hlt
        have HE : Hid (ops[j]? = some x ∧ ops'[j]? = some y) := ⟨he, he2⟩
        have hlt' : (j : Int) < (n : Int) := by omega
        clear he he2 hc hc'
        rcases opParts x y with ⟨t0, t1, t2, t3, t4, t5, t6⟩ | t0 | ⟨t0, t1⟩ | ⟨t0, t1, t2⟩ | ⟨t0, t1, t2, t3⟩ | ⟨t0, t1, t2, t3, t4⟩ | ⟨t0, t1, t2, t3, t4, t5⟩ | ⟨t0, t1, t2, t3, t4, t5, t6⟩
        · have HY : Hid (opEq x y = true) := by show _ = _; simp only [opEq, t0, t1, t2, t3, t4, t5, t6, Bool.and_true]
          go_wp2_with fail
          go_quiet (fail)
          go_wp2_with fail
          go_roundg (n - (j + 1))
          case measure => have := hk.out; omega
          case rel =>
            refine ⟨j + 1, by omega, rfl, by go_num, fun i hi x' y' hx hy => ?_, ⟨_, rfl⟩⟩
            by_cases e : i = j
            · subst e
              rw [HE.out.1] at hx
              rw [HE.out.2] at hy
              cases hx
              cases hy
              exact HY.out
            · exact hq.out i (by omega) x' y' hx hy
        all_goals
          have HN : Hid (opEq x y = false) := by show _ = _; simp only [opEq, *, Bool.and_true, Bool.and_false, Bool.false_and]
          go_wp2_with fail
          go_quiet (fail)
          go_wp2_with fail
          go_ret
          exact ⟨ret_bool (listEq_no HE.out.1 HE.out.2 HN.out).symm, m + nq, by rw [World.drewN_drewN]⟩
      · go_wp2_with fail
        go_ret
        exact ⟨ret_bool (listEq_yes (by rw [← H.len, ← H'.len]) (fun i x y hx hy => hq.out i (by have := (List.getElem?_eq_some_iff.1 hx).1; have := H.len; omega) x y hx hy)).symm, m, rfl⟩
  · have hne : ((n : Int) == n') = false := by simp; omega
    go_enter Try.func49, Try.ntmps49
    go_wp2
    go_ret
    exact ⟨ret_bool (listEq_len (by rw [← H.len, ← H'.len]; exact hnn)).symm, 0, rfl⟩

set_option maxHeartbeats 2000000 in
theorem equalOps (a a' : Option Addr) (n n' c c' : Nat) (ops ops' : List LOp) (L U L' U' : Nat) (w : World) (H : OpsAt w L U a n ops) (H' : OpsAt w L' U' a' n' ops') :
    Calls Try.prog 75 #[.slice a n c, .slice a' n' c'] w fun e w' => e = .returned (.bool (listEq opEq ops ops')) ∧ ∃ m, w' = w.drewN m := by
  have hbd := H.bd
  have hbd' := H'.bd
  unfold maxLen at hbd hbd'
  by_cases hnn : n = n'
  · subst hnn
    go_enter Try.func75, Try.ntmps75
    go_wp2
    go_loopg [13] n (fun k i wr => ∃ j : Nat, j ≤ n ∧ Hid (k = n - j) ∧ i = .int .i64 j ∧ Hid (∀ i, i < j → ∀ x y, ops[i]? = some x → ops'[i]? = some y → opEq x y = true) ∧ Hid (∃ m, wr = w.drewN m))
    case atStart => exact ⟨0, Nat.zero_le _, by show _ = _; omega, rfl, fun i hi => by omega, ⟨0, rfl⟩⟩
    case round =>
      obtain ⟨j, hj, hk, rfl, hq, hb⟩ := hrel
      obtain ⟨m, rfl⟩ := hb.out
      by_cases hlt : j < n
      · obtain ⟨b, off, ha, hL, hbU, hc⟩ := H.at_ (by omega)
        obtain ⟨b', off', ha', hL', hbU', hc'⟩ := H'.at_ (by omega)
        subst ha ha'
        obtain ⟨x, he, hsz, c0, c1, c2, c3, c4, c5, c6⟩ := hc j hlt
        obtain ⟨y, he2, hsz2, d0, d1, d2, d3, d4, d5, d6⟩ := hc' j hlt
        have HE : Hid (ops[j]? = some x ∧ ops'[j]? = some y) := ⟨he, he2⟩
        have hlt' : (j : Int) < (n : Int) := by omega
        clear he he2 hc hc'
        rcases opParts x y with ⟨t0, t1, t2, t3, t4, t5, t6⟩ | t0 | ⟨t0, t1⟩ | ⟨t0, t1, t2⟩ | ⟨t0, t1, t2, t3⟩ | ⟨t0, t1, t2, t3, t4⟩ | ⟨t0, t1, t2, t3, t4, t5⟩ | ⟨t0, t1, t2, t3, t4, t5, t6⟩
        · have HY : Hid (opEq x y = true) := by show _ = _; simp only [opEq, t0, t1, t2, t3, t4, t5, t6, Bool.and_true]
          go_wp2_with fail
          go_quiet (fail)
          go_wp2_with fail
          go_roundg (n - (j + 1))
          case measure => have := hk.out; omega
          case rel =>
            refine ⟨j + 1, by omega, rfl, by go_num, fun i hi x' y' hx hy => ?_, ⟨_, rfl⟩⟩
            by_cases e : i = j
            · subst e
              rw [HE.out.1] at hx
              rw [HE.out.2] at hy
              cases hx
              cases hy
              exact HY.out
            · exact hq.out i (by omega) x' y' hx hy
        all_goals
          have HN : Hid (opEq x y = false) := by show _ = _; simp only [opEq, *, Bool.and_true, Bool.and_false, Bool.false_and]
          go_wp2_with fail
          go_quiet (fail)
          go_wp2_with fail
          go_ret
          exact ⟨ret_bool (listEq_no HE.out.1 HE.out.2 HN.out).symm, m + nq, by rw [World.drewN_drewN]⟩
      · go_wp2_with fail
        go_ret
        exact ⟨ret_bool (listEq_yes (by rw [← H.len, ← H'.len]) (fun i x y hx hy => hq.out i (by have := (List.getElem?_eq_some_iff.1 hx).1; have := H.len; omega) x y hx hy)).symm, m, rfl⟩
  · have hne : ((n : Int) == n') = false := by simp; omega
    go_enter Try.func75, Try.ntmps75
    go_wp2
    go_ret
    exact ⟨ret_bool (listEq_len (by rw [← H.len, ← H'.len]; exact hnn)).symm, 0, rfl⟩

theorem implOpSame (a a' : Option Addr) (n n' c c' : Nat) (ops ops' : List LOp) (L U L' U' : Nat) (w : World) (H : OpsAt w L U a n ops) (H' : OpsAt w L' U' a' n' ops') :
    Calls Try.prog 53 #[.slice a n c, .slice a' n' c'] w fun e w' => e = .returned (.bool (listEq opEq ops ops')) ∧ ∃ m, w' = w.drewN m := by
  go_enter Try.func53, Try.ntmps53
  go_wp2_with (go_at_call 75; refine (equalOps _ _ _ _ _ _ _ _ _ _ _ _ _ H H').mono ?_; rintro e w1 ⟨rfl, hw1⟩)
  go_ret
  exact ⟨rfl, hw1⟩

theorem eqOp_same (o : LOp) (w : World) : Calls Try.prog 72 #[.agg o.val, .agg o.val] w fun e w' => e = .returned (.bool true) ∧ Below w.heap.size w w' := by
  simp only [LOp.val]
  go_enter Try.func72, Try.ntmps72
  go_wp2
  go_ret
  exact ⟨rfl, ((Below.refl _ _).alloc (Nat.le_refl _) _).alloc (by simp) _⟩

set_option maxHeartbeats 800000 in
theorem eqOpS_same (a a' : Option Addr) (n c c' : Nat) (ops : List LOp) (L U L' U' : Nat) (w : World) (hU : U ≤ w.heap.size) (hU' : U' ≤ w.heap.size) (H : OpsAt w L U a n ops) (H' : OpsAt w L' U' a' n ops) :
    Calls Try.prog 47 #[.slice a n c, .slice a' n c'] w fun e w' => e = .returned (.bool true) ∧ Below w.heap.size w w' := by
  have hbd := H.bd
  unfold maxLen at hbd
  go_enter Try.func47, Try.ntmps47
  go_wp2_with fail
  go_loopg [5] n (fun k i wr => ∃ j : Nat, j ≤ n ∧ Hid (k = n - j) ∧ i = .int .i64 j ∧ Below w.heap.size w wr)
  case atStart => exact ⟨0, Nat.zero_le _, rfl, rfl, Below.refl _ _⟩
  case round =>
    obtain ⟨j, hj, hk, rfl, hb⟩ := hrel
    by_cases hlt : j < n
    · obtain ⟨b, off, ha, hL, hbU, hc⟩ := H.at_ (by omega)
      obtain ⟨b', off', ha', hL', hbU', hc'⟩ := H'.at_ (by omega)
      subst ha ha'
      obtain ⟨x, he, hsz, hat⟩ := hc j hlt
      obtain ⟨y, he2, hsz2, hat2⟩ := hc' j hlt
      obtain rfl : x = y := by rw [he] at he2; simpa using he2
      obtain ⟨c0, c1, c2, c3, c4, c5, c6⟩ := hat.of_block (hb.block b (by omega))
      obtain ⟨d0, d1, d2, d3, d4, d5, d6⟩ := hat2.of_block (hb.block b' (by omega))
      have hlt' : (j : Int) < (n : Int) := by omega
      have HEQ := eqOp_same x
      simp only [LOp.val] at HEQ
      clear he he2 hc hc' hat hat2
      go_wp2_with fail
      go_region_with (go_at_call 72; go_must (refine (HEQ _).mono ?_; rintro e w1 ⟨rfl, hb1⟩))
      all_goals
        go_wp2_with fail
        go_roundg (n - (j + 1))
        case measure => have := hk.out; omega
        case rel => exact ⟨j + 1, by omega, rfl, by go_num, hb.trans ((Below.refl _ _).drew.trans (hb1.mono (by simp)) |>.mono hb.size)⟩
    · obtain rfl : j = n := by omega
      go_wp2_with fail
      go_ret
      exact ⟨rfl, hb⟩
end Go.Proofs.Ytnfegihemhidgaa
