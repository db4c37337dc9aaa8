/- Servers: two that are compared, by the program and by the specification. -/
import Derived.Test.YtdjffkiiglilnaaShopA
namespace Go.Proofs.Ytdjffkiiglilnaa
open Go.RowKit

def doneEq (x y : LDone) : Bool := (x.who == y.who) && (x.seq == y.seq) && (x.code == y.code)
theorem doneParts (x y : LDone) : ((x.who == y.who) = true ∧ (x.seq == y.seq) = true ∧ (x.code == y.code) = true) ∨ ((x.who == y.who) = false) ∨ ((x.who == y.who) = true ∧ (x.seq == y.seq) = false) ∨ ((x.who == y.who) = true ∧ (x.seq == y.seq) = true ∧ (x.code == y.code) = false) := by
  cases h0 : (x.who == y.who) <;> cases h1 : (x.seq == y.seq) <;> cases h2 : (x.code == y.code) <;> simp
def shopEq (os os' : List LObj) (ds ds' : List LDone) : Bool := listEq oSame os os' && listEq doneEq ds ds'

set_option maxHeartbeats 2000000 in
theorem equalDones (a a' : Option Addr) (n n' c c' : Nat) (ops ops' : List LDone) (L U L' U' : Nat) (w : World) (H : DonesAt w L U a n ops) (H' : DonesAt w L' U' a' n' ops') :
    Calls Try.prog 86 #[.slice a n c, .slice a' n' c'] w fun e w' => e = .returned (.bool (listEq doneEq ops ops')) ∧ ∃ m, w' = w.drewN m := by
  have hbd := H.bd
  have hbd' := H'.bd
  unfold maxLen at hbd hbd'
  by_cases hnn : n = n'
  · subst hnn
    go_enter Try.func86, Try.ntmps86
    go_wp2
    go_loopg [13] n (fun k i wr => ∃ j : Nat, j ≤ n ∧ Hid (k = n - j) ∧ i = .int .i64 j ∧ Hid (∀ i, i < j → ∀ x y, ops[i]? = some x → ops'[i]? = some y → doneEq x y = true) ∧ Hid (∃ m, wr = w.drewN m))
    case atStart => exact ⟨0, Nat.zero_le _, by show _ = _; omega, rfl, fun i hi => by omega, ⟨0, rfl⟩⟩
    case round =>
      obtain ⟨j, hj, hk, rfl, hq, hb⟩ := hrel
      obtain ⟨m, rfl⟩ := hb.out
      by_cases hlt : j < n
      · obtain ⟨b, off, ha, hL, hbU, hc⟩ := H.at_ (by omega)
        obtain ⟨b', off', ha', hL', hbU', hc'⟩ := H'.at_ (by omega)
        subst ha ha'
        obtain ⟨x, he, c0, c1, c2⟩ := hc j hlt
        obtain ⟨y, he2, d0, d1, d2⟩ := hc' j hlt
        have HE : Hid (ops[j]? = some x ∧ ops'[j]? = some y) := ⟨he, he2⟩
        have hlt' : (j : Int) < (n : Int) := by omega
        clear he he2 hc hc'
        rcases doneParts x y with ⟨t0, t1, t2⟩ | t0 | ⟨t0, t1⟩ | ⟨t0, t1, t2⟩
        · have HY : Hid (doneEq x y = true) := by show _ = _; simp only [doneEq, t0, t1, t2, Bool.and_true]
          go_wp2_with fail
          go_quiet (fail)
          go_wp2_with fail
          go_roundg (n - (j + 1))
          case measure => have := hk.out; omega
          case rel =>
            refine ⟨j + 1, by omega, rfl, by go_num, fun i hi x' y' hx hy => ?_, ⟨_, rfl⟩⟩
            by_cases e : i = j
            · subst e
              rw [HE.out.1] at hx
              rw [HE.out.2] at hy
              cases hx
              cases hy
              exact HY.out
            · exact hq.out i (by omega) x' y' hx hy
        all_goals
          have HN : Hid (doneEq x y = false) := by show _ = _; simp only [doneEq, *, Bool.and_false, Bool.false_and]
          go_wp2_with fail
          go_quiet (fail)
          go_wp2_with fail
          go_ret
          exact ⟨ret_bool (listEq_no HE.out.1 HE.out.2 HN.out).symm, m + nq, by rw [World.drewN_drewN]⟩
      · go_wp2_with fail
        go_ret
        exact ⟨ret_bool (listEq_yes (by rw [← H.len, ← H'.len]) (fun i x y hx hy => hq.out i (by have := (List.getElem?_eq_some_iff.1 hx).1; have := H.len; omega) x y hx hy)).symm, m, rfl⟩
  · have hne : ((n : Int) == n') = false := by simp; omega
    go_enter Try.func86, Try.ntmps86
    go_wp2
    go_ret
    exact ⟨ret_bool (listEq_len (by rw [← H.len, ← H'.len]; exact hnn)).symm, 0, rfl⟩

set_option maxHeartbeats 2000000 in
theorem implShopSame (a : Option Addr) (n c : Nat) (d : Option Addr) (k e : Nat) (a' : Option Addr) (n' c' : Nat) (d' : Option Addr) (k' e' : Nat) (os os' : List LObj) (ds ds' : List LDone) (L U L' U' : Nat) (w : World) (hU : U ≤ w.heap.size) (hU' : U' ≤ w.heap.size) (HO : ObjsAt w L U a n os) (HD : DonesAt w L U d k ds) (HO' : ObjsAt w L' U' a' n' os') (HD' : DonesAt w L' U' d' k' ds') :
    Calls Try.prog 42 #[.agg #[.slice a n c, .slice d k e], .agg #[.slice a' n' c', .slice d' k' e']] w fun e w' => e = .returned (.bool (shopEq os os' ds ds')) ∧ Below w.heap.size w w' := by
  have hA : ∀ o1 o2 : Obj, Below w.heap.size w ((w.alloc o1).alloc o2) := fun o1 o2 => ((Below.refl _ _).alloc (Nat.le_refl _) _).alloc (by simp) _
  go_enter Try.func42, Try.ntmps42
  go_wp2_with fail
  refine (implSame _ _ _ _ _ _ _ _ L U L' U' _ (by simp <;> omega) (by simp <;> omega) (HO.below (hA _ _) hU) (HO'.below (hA _ _) hU')).mono ?_
  rintro x w1 ⟨rfl, hb1⟩
  have hb2 : Below w.heap.size w w1 := (hA _ _).trans (hb1.mono (by simp <;> omega))
  have p3 : w1.cell? ⟨w.heap.size, 1, none⟩ = some (.slice d k e) := by rw [hb1.cell (by simp <;> omega)]; simp [go_sem]
  have p4 : w1.cell? ⟨w.heap.size + 1, 1, none⟩ = some (.slice d' k' e') := by rw [hb1.cell (by simp)]; simp [go_sem]
  clear hb1
  rcases t1 : listEq oSame os os' with _ | _
  · go_wp2_with fail
    go_ret
    exact ⟨ret_bool (by simp [shopEq, t1]), hb2⟩
  · go_wp2_with fail
    refine (equalDones _ _ _ _ _ _ _ _ L U L' U' _ (HD.below hb2 hU) (HD'.below hb2 hU')).mono ?_
    rintro x w2 ⟨rfl, m, rfl⟩
    go_wp2_with fail
    go_ret
    exact ⟨ret_bool (by simp [shopEq, t1]), hb2.trans ((Below.drewN _ _).mono hb2.size)⟩

set_option maxHeartbeats 4000000 in
set_option maxRecDepth 20000 in
theorem specShopSame (a : Option Addr) (n c : Nat) (d : Option Addr) (k e : Nat) (a' : Option Addr) (n' c' : Nat) (d' : Option Addr) (k' e' : Nat) (os os' : List LObj) (ds ds' : List LDone) (L U L' U' : Nat) (w : World) (hU : U ≤ w.heap.size) (hU' : U' ≤ w.heap.size) (HO : ObjsAt w L U a n os) (HD : DonesAt w L U d k ds) (HO' : ObjsAt w L' U' a' n' os') (HD' : DonesAt w L' U' d' k' ds') :
    Calls Try.prog 41 #[.agg #[.slice a n c, .slice d k e], .agg #[.slice a' n' c', .slice d' k' e']] w fun e w' => e = .returned (.bool (shopEq os os' ds ds')) ∧ Below w.heap.size w w' := by
  have hA : ∀ o1 o2 : Obj, Below w.heap.size w ((w.alloc o1).alloc o2) := fun o1 o2 => ((Below.refl _ _).alloc (Nat.le_refl _) _).alloc (by simp) _
  have hbd := HD.bd
  have hbd' := HD'.bd
  unfold maxLen at hbd hbd'
  go_enter Try.func41, Try.ntmps41
  go_wp2_with fail
  refine (specSame _ _ _ _ _ _ _ _ L U L' U' _ (by simp <;> omega) (by simp <;> omega) (HO.below (hA _ _) hU) (HO'.below (hA _ _) hU')).mono ?_
  rintro x w2 ⟨rfl, hb1⟩
  have hb2 : Below w.heap.size w w2 := (hA _ _).trans (hb1.mono (by simp <;> omega))
  have p3 : w2.cell? ⟨w.heap.size, 1, none⟩ = some (.slice d k e) := by rw [hb1.cell (by simp <;> omega)]; simp [go_sem]
  have p4 : w2.cell? ⟨w.heap.size + 1, 1, none⟩ = some (.slice d' k' e') := by rw [hb1.cell (by simp)]; simp [go_sem]
  clear hb1
  rcases t1 : listEq oSame os os' with _ | _
  · go_wp2_with fail
    go_ret
    exact ⟨ret_bool (by simp [shopEq, t1]), hb2⟩
  by_cases hnn : k = k'
  case neg =>
    have hne : ((k : Int) != k') = true := by simp; omega
    have HN : Hid (listEq doneEq ds ds' = false) := listEq_len (by rw [← HD.len, ← HD'.len]; exact hnn)
    go_wp2_with fail
    go_ret
    exact ⟨ret_bool (by simp [shopEq, HN.out]), hb2⟩
  subst hnn
  have HV : Hid (shopEq os os' ds ds' = listEq doneEq ds ds') := by show _ = _; simp [shopEq, t1]
  go_wp2_with fail
  go_loopg [5] k (fun g i wr => ∃ j : Nat, j ≤ k ∧ Hid (g = k - j) ∧ i = .int .i64 j ∧ Hid (∀ i, i < j → ∀ x y, ds[i]? = some x → ds'[i]? = some y → doneEq x y = true) ∧ ∃ q, wr = w2.drewN q)
  case atStart => exact ⟨0, Nat.zero_le _, by show _ = _; omega, rfl, fun i hi => by omega, 0, rfl⟩
  case round =>
    obtain ⟨j, hj, hk, rfl, hq, qq, rfl⟩ := hrel
    by_cases hlt : j < k
    · obtain ⟨b, off, ha, hL, hbU, hc⟩ := HD.at_ (by omega)
      obtain ⟨b', off', ha', hL', hbU', hc'⟩ := HD'.at_ (by omega)
      subst ha ha'
      obtain ⟨x, he, c0, c1, c2⟩ := hc j hlt
      obtain ⟨y, he2, d0, d1, d2⟩ := hc' j hlt
      rw [← hb2.cell (by simp; omega)] at c0 c1 c2 d0 d1 d2
      have HE : Hid (ds[j]? = some x ∧ ds'[j]? = some y) := ⟨he, he2⟩
      have hlt' : (j : Int) < (k : Int) := by omega
      clear he he2 hc hc'
      rcases doneParts x y with ⟨t0, t1, t2⟩ | t0 | ⟨t0, t1⟩ | ⟨t0, t1, t2⟩
      · have HY : Hid (doneEq x y = true) := by show _ = _; simp only [doneEq, t0, t1, t2, Bool.and_true]
        go_wp2_with fail
        go_quiet (fail)
        go_wp2_with fail
        go_roundg (k - (j + 1))
        case measure => have := hk.out; omega
        case rel =>
          refine ⟨j + 1, by omega, rfl, by go_num, fun i hi x' y' hx hy => ?_, _, rfl⟩
          by_cases e : i = j
          · subst e
            rw [HE.out.1] at hx
            rw [HE.out.2] at hy
            cases hx
            cases hy
            exact HY.out
          · exact hq.out i (by omega) x' y' hx hy
      all_goals
        have HN : Hid (listEq doneEq ds ds' = false) := listEq_no HE.out.1 HE.out.2 (by simp only [doneEq, *, Bool.and_false, Bool.false_and])
        go_wp2_with fail
        go_quiet (fail)
        go_wp2_with fail
        go_ret
        exact ⟨ret_bool (by rw [HV.out, HN.out]), by rw [World.drewN_drewN]; exact hb2.trans ((Below.drewN _ _).mono hb2.size)⟩
    · have HN : Hid (listEq doneEq ds ds' = true) := listEq_yes (by rw [← HD.len, ← HD'.len]) (fun i x y hx hy => hq.out i (by have := (List.getElem?_eq_some_iff.1 hx).1; have := HD.len; omega) x y hx hy)
      go_wp2_with fail
      go_ret
      exact ⟨ret_bool (by rw [HV.out, HN.out]), hb2.trans ((Below.drewN _ _).mono hb2.size)⟩
end Go.Proofs.Ytdjffkiiglilnaa
