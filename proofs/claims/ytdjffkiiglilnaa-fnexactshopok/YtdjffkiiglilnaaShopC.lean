/- Servers: ShopOk and ShopSame, of the program and of the specification. -/
import Derived.Test.YtdjffkiiglilnaaShopB
import Derived.Test.YtdjffkiiglilnaaSpecOk
namespace Go.Proofs.Ytdjffkiiglilnaa
open Go.RowKit

def shopOk (os : List LObj) (ds : List LDone) : Bool := specOk os && donesB ds

theorem implShopOk (a : Option Addr) (n c : Nat) (os : List LObj) (a' : Option Addr) (n' c' : Nat) (ds : List LDone) (L U L' U' : Nat) (w : World) (hU : U ≤ w.heap.size) (hU' : U' ≤ w.heap.size) (HO : ObjsAt w L U a n os) (HD : DonesAt w L' U' a' n' ds) :
    Calls Try.prog 40 #[.agg #[.slice a n c, .slice a' n' c']] w fun e w' => e = .returned (.bool (shopOk os ds)) ∧ Below w.heap.size w w' := by
  have hA : ∀ o1 : Obj, Below w.heap.size w (w.alloc o1) := fun o1 => (Below.refl _ _).alloc (Nat.le_refl _) _
  go_enter Try.func40, Try.ntmps40
  go_wp2_with fail
  refine (implTreeOk _ _ _ _ L U _ (by simp; omega) (HO.below (hA _) hU)).mono ?_
  rintro x w1 ⟨rfl, hb1⟩
  have h1 : Below w.heap.size w w1 := (hA _).trans (hb1.mono (by simp))
  have c1 : w1.cell? ⟨w.heap.size, 1, none⟩ = some (.slice a' n' c') := by rw [hb1.cell (by simp)]; simp [go_sem]
  clear hb1
  rcases t1 : specOk os with _ | _
  · go_wp2_with fail
    go_ret
    exact ⟨ret_bool (by simp [shopOk, t1]), h1⟩
  · go_wp2_with fail
    refine (donesOk_any _ _ _ _ L' U' _ (by have := h1.size; omega) (HD.below h1 hU')).mono ?_
    rintro x w2 ⟨rfl, hb2⟩
    go_wp2_with fail
    go_ret
    exact ⟨ret_bool (by simp [shopOk, t1]), h1.trans (hb2.mono h1.size)⟩

theorem doneB_parts (x : LDone) : (decide (x.who < 0) = false ∧ decide (3 ≤ x.who) = false ∧ decide (x.seq < 1) = false ∧ decide (1000 < x.seq) = false ∧ ((x.code != 0) = false ∨ (x.code != 0) = true ∧ (x.code != 1) = false) ∧ doneB x = true) ∨ (decide (x.who < 0) = true ∧ doneB x = false) ∨ (decide (x.who < 0) = false ∧ decide (3 ≤ x.who) = true ∧ doneB x = false) ∨ (decide (x.who < 0) = false ∧ decide (3 ≤ x.who) = false ∧ decide (x.seq < 1) = true ∧ doneB x = false) ∨ (decide (x.who < 0) = false ∧ decide (3 ≤ x.who) = false ∧ decide (x.seq < 1) = false ∧ decide (1000 < x.seq) = true ∧ doneB x = false) ∨ (decide (x.who < 0) = false ∧ decide (3 ≤ x.who) = false ∧ decide (x.seq < 1) = false ∧ decide (1000 < x.seq) = false ∧ (x.code != 0) = true ∧ (x.code != 1) = true ∧ doneB x = false) := by
  by_cases h0 : x.who < 0
  · exact .inr (.inl ⟨decide_eq_true h0, by simp [doneB]; omega⟩)
  have g0 := decide_eq_false h0
  by_cases h1 : 3 ≤ x.who
  · exact .inr (.inr (.inl ⟨g0, decide_eq_true h1, by simp [doneB]; omega⟩))
  have g1 := decide_eq_false h1
  by_cases h2 : x.seq < 1
  · exact .inr (.inr (.inr (.inl ⟨g0, g1, decide_eq_true h2, by simp [doneB]; omega⟩)))
  have g2 := decide_eq_false h2
  by_cases h3 : 1000 < x.seq
  · exact .inr (.inr (.inr (.inr (.inl ⟨g0, g1, g2, decide_eq_true h3, by simp [doneB]; omega⟩))))
  have g3 := decide_eq_false h3
  by_cases h4 : x.code = 0
  · exact .inl ⟨g0, g1, g2, g3, .inl (by simp [h4]), by simp [doneB, h4]; omega⟩
  by_cases h5 : x.code = 1
  · exact .inl ⟨g0, g1, g2, g3, .inr (by simp [h5]), by simp [doneB, h5]; omega⟩
  · exact .inr (.inr (.inr (.inr (.inr ⟨g0, g1, g2, g3, by simp [h4], by simp [h5], by simp [doneB, h4, h5]⟩))))

set_option maxHeartbeats 8000000 in
set_option maxRecDepth 20000 in
theorem specShopOk (a : Option Addr) (n c : Nat) (os : List LObj) (a' : Option Addr) (n' c' : Nat) (ds : List LDone) (L U L' U' : Nat) (w : World) (hS : Sizes os 1048576) (hU : U ≤ w.heap.size) (hU' : U' ≤ w.heap.size) (HO : ObjsAt w L U a n os) (H : DonesAt w L' U' a' n' ds) :
    Calls Try.prog 38 #[.agg #[.slice a n c, .slice a' n' c']] w fun e w' => e = .returned (.bool (shopOk os ds)) ∧ Below w.heap.size w w' := by
  have hA : ∀ o1 : Obj, Below w.heap.size w (w.alloc o1) := fun o1 => (Below.refl _ _).alloc (Nat.le_refl _) _
  have hbd := H.bd
  unfold maxLen at hbd
  have HLN : Hid (n' = ds.length) := H.len
  go_enter Try.func38, Try.ntmps38
  go_wp2_with fail
  refine (specTreeOk _ _ _ _ L U _ hS (by simp; omega) (HO.below (hA _) hU)).mono ?_
  rintro x w1 ⟨rfl, hb1⟩
  have h1 : Below w.heap.size w w1 := (hA _).trans (hb1.mono (by simp))
  have c1 : w1.cell? ⟨w.heap.size, 1, none⟩ = some (.slice a' n' c') := by rw [hb1.cell (by simp)]; simp [go_sem]
  have hz1 : w.heap.size < w1.heap.size := by have := hb1.size; simp at this; omega
  clear hb1
  rcases t1 : specOk os with _ | _
  · go_wp2_with fail
    go_ret
    exact ⟨ret_bool (by simp [shopOk, t1]), h1⟩
  have HV : Hid (shopOk os ds = donesB ds) := by show _ = _; simp [shopOk, t1]
  go_wp2_with fail
  go_loopg [3] n' (fun g i wr => ∃ j : Nat, j ≤ n' ∧ Hid (g = n' - j) ∧ i = .int .i64 j ∧ Hid (∀ i, i < j → doneAtB ds i = true) ∧ Below w1.heap.size w1 wr)
  case atStart => exact ⟨0, Nat.zero_le _, rfl, rfl, fun i hi => by omega, Below.refl _ _⟩
  case round =>
    obtain ⟨j, hj, hk, rfl, hq, hb⟩ := hrel
    have hzz := hb.size
    have c1r : wr.cell? ⟨w.heap.size, 1, none⟩ = some (.slice a' n' c') := by rw [hb.cell (by simp; omega)]; exact c1
    have HB : Hid (Below w.heap.size w wr) := h1.trans (hb.mono h1.size)
    by_cases hlt : j < n'
    · obtain ⟨b, off, ha, hL, hbU, hc⟩ := H.at_ (by omega)
      subst ha
      have hbw : b < wr.heap.size := by have := HB.out.size; omega
      obtain ⟨x, he, c0, c1', c2⟩ := hc j hlt
      rw [← HB.out.cell (by simp; omega)] at c0 c1' c2
      have hlt' : (j : Int) < (n' : Int) := by omega
      have hA2 : ∀ o1 : Obj, Below w1.heap.size w1 (wr.alloc o1) := fun o1 => hb.alloc hb.size _
      have c1a : ∀ o : Obj, (wr.alloc o).cell? ⟨w.heap.size, 1, none⟩ = some (.slice (some ⟨b, off, none⟩) n' c') := fun o => by
        rw [((Below.refl wr.heap.size wr).alloc (Nat.le_refl _) o).cell (by simp; omega)]; exact c1r
      rcases doneB_parts x with ⟨p0, p1, p2, p3, p4, hd⟩ | ⟨p0, hd⟩ | ⟨p0, p1, hd⟩ | ⟨p0, p1, p2, hd⟩ | ⟨p0, p1, p2, p3, hd⟩ | ⟨p0, p1, p2, p3, u0, u1, hd⟩
      · by_cases hj0 : j = 0
        · have HN : Hid (doneAtB ds j = true) := by show _ = _; rw [doneAtB_of he, hd, hj0]; rfl
          have hg : decide ((0 : Int) < (j : Int)) = false := by simp; omega
          have hg' : decide (0 < j) = false := by simp; omega
          have HJ : Hid (j = 0) := hj0
          clear he hc hd hj0
          rcases p4 with u0 | ⟨u0, u1⟩
          all_goals
            go_wp2_with fail
            go_big_quiet (fail)
            go_wp2_with fail
            go_roundg (n' - (j + 1))
            case measure => have := hk.out; omega
            case rel =>
              refine ⟨j + 1, by omega, rfl, by go_num, fun i hi => ?_, (hA2 _).trans ((Below.drewN _ _).mono (by simp <;> omega))⟩
              by_cases e : i = j
              · subst e; exact HN.out
              · exact hq.out i (by omega)
        obtain ⟨k, hk1⟩ : ∃ k, k + 1 = j := ⟨j - 1, by omega⟩
        obtain ⟨y, hy, d0, _, _⟩ := hc k (by omega)
        rw [← HB.out.cell (by simp; omega)] at d0
        have d0' : ∀ o : Obj, (wr.alloc o).cell? ⟨b, off + k * 3, none⟩ = some (.int .i64 y.who) := fun o => by
          rw [((Below.refl wr.heap.size wr).alloc (Nat.le_refl _) o).cell (by simp; omega)]; exact d0
        have hw : IntKind.i64.wrap ((j : Int) - 1) = (k : Int) := by simp only [IntKind.wrap_i64]; omega
        have hg : decide ((0 : Int) < (j : Int)) = true := by simp; omega
        have hg' : decide (0 < j) = true := by simp; omega
        have hkn : (k : Int) < (n' : Int) := by omega
        have hkn' : k < n' := by omega
        have HBH : Hid (doneAtB ds j = decide (y.who < x.who)) := by show _ = _; rw [doneAtB_of he, hd, behindB_of hk1.symm hy]; simp
        have HJ : Hid (k + 1 = j) := hk1
        clear he hc hd hj0 hk1 hy
        rcases hlt2 : decide (x.who ≤ y.who) with _ | _
        · have HN : Hid (doneAtB ds j = true) := by show _ = _; rw [HBH.out]; simp at hlt2 ⊢; omega
          clear HBH
          rcases p4 with u0 | ⟨u0, u1⟩
          all_goals
            go_wp2_with fail
            go_big_quiet (fail)
            go_wp2_with fail
            go_roundg (n' - (j + 1))
            case measure => have := hk.out; omega
            case rel =>
              refine ⟨j + 1, by omega, rfl, by go_num, fun i hi => ?_, (hA2 _).trans ((Below.drewN _ _).mono (by simp <;> omega))⟩
              by_cases e : i = j
              · subst e; exact HN.out
              · exact hq.out i (by omega)
        · have HN : Hid (donesB ds = false) := donesB_no (i := j) (by rw [← HLN.out]; exact hlt) (by rw [HBH.out]; simp at hlt2 ⊢; omega)
          clear HBH
          rcases p4 with u0 | ⟨u0, u1⟩
          all_goals
            go_wp2_with fail
            go_big_quiet (fail)
            go_wp2_with fail
            go_ret
            exact ⟨ret_bool (by rw [HV.out, HN.out]), h1.trans (((hA2 _).trans ((Below.drewN _ _).mono (by simp <;> omega))).mono h1.size)⟩
      all_goals
        have HN : Hid (donesB ds = false) := donesB_no (i := j) (by rw [← HLN.out]; exact hlt) (by rw [doneAtB_of he, hd]; rfl)
        clear he hc hd
        go_wp2_with fail
        go_big_quiet (fail)
        go_wp2_with fail
        go_ret
        exact ⟨ret_bool (by rw [HV.out, HN.out]), h1.trans (((hA2 _).trans ((Below.drewN _ _).mono (by simp <;> omega))).mono h1.size)⟩
    · have HN : Hid (donesB ds = true) := donesB_yes (fun i hi => hq.out i (by rw [← HLN.out] at hi; omega))
      go_wp2_with fail
      go_ret
      exact ⟨ret_bool (by rw [HV.out, HN.out]), h1.trans (hb.mono h1.size)⟩
end Go.Proofs.Ytdjffkiiglilnaa
