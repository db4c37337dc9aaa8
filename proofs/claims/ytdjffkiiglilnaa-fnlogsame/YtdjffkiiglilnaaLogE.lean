/- Logs: what is ok, of the specification. -/
import Derived.Test.YtdjffkiiglilnaaLogD
namespace Go.Proofs.Ytdjffkiiglilnaa
open Go.RowKit

theorem baseOf_parts (x : LBase) (k : Nat) : ((x.id != (k : Int)) = false ∧ 0 ≤ x.ver ∧ x.ver ≤ 1000000 ∧ baseOf x k = true) ∨ ((x.id != (k : Int)) = true ∧ baseOf x k = false) ∨ ((x.id != (k : Int)) = false ∧ x.ver < 0 ∧ baseOf x k = false) ∨ ((x.id != (k : Int)) = false ∧ 0 ≤ x.ver ∧ 1000000 < x.ver ∧ baseOf x k = false) := by
  cases h0 : (x.id == (k : Int))
  · exact .inr (.inl ⟨by simp [bne, h0], by simp [baseOf, h0]⟩)
  · have h0' : (x.id != (k : Int)) = false := by simp [bne, h0]
    by_cases h1 : 0 ≤ x.ver
    · by_cases h2 : x.ver ≤ 1000000
      · exact .inl ⟨h0', h1, h2, by simp [baseOf, h0, h1, h2]⟩
      · exact .inr (.inr (.inr ⟨h0', h1, by omega, by simp [baseOf]; omega⟩))
    · exact .inr (.inr (.inl ⟨h0', by omega, by simp [baseOf]; omega⟩))

set_option maxHeartbeats 4000000 in
set_option maxRecDepth 20000 in
theorem specLogOk (q s : Int) (a : Option Addr) (n c : Nat) (a' : Option Addr) (n' c' : Nat) (l : LLog) (L U : Nat) (w : World) (hU : U ≤ w.heap.size) (H : LogAt w L U q s a n a' n' l) :
    Calls Try.prog 13 #[.agg #[.int .i64 q, .int .i64 s, .slice a n c, .slice a' n' c']] w fun e w' => e = .returned (.bool (logOk l)) ∧ Below w.heap.size w w' := by
  have HV : Hid (logOk l = (whoB q s && formsB l.list && basesFor l.bases (logIds l.list))) := by show _ = _; unfold logOk; rw [H.q, H.s]
  have HB := H.b
  have HO := H.o
  have hbd := HB.bd
  unfold maxLen at hbd
  clear H
  have hA : ∀ o1 : Obj, Below w.heap.size w (w.alloc o1) := fun o1 => (Below.refl _ _).alloc (Nat.le_refl _) _
  by_cases q0 : q < 0
  · go_enter Try.func13, Try.ntmps13
    go_wp2_with fail
    go_ret
    exact ⟨ret_bool (by rw [HV.out]; simp [whoB]; omega), hA _⟩
  by_cases q3 : 3 ≤ q
  · go_enter Try.func13, Try.ntmps13
    go_wp2_with fail
    go_ret
    exact ⟨ret_bool (by rw [HV.out]; simp [whoB]; omega), hA _⟩
  by_cases s1 : s < 1
  · go_enter Try.func13, Try.ntmps13
    go_wp2_with fail
    go_ret
    exact ⟨ret_bool (by rw [HV.out]; simp [whoB]; omega), hA _⟩
  by_cases s2 : 1000 < s
  · go_enter Try.func13, Try.ntmps13
    go_wp2_with fail
    go_ret
    exact ⟨ret_bool (by rw [HV.out]; simp [whoB]; omega), hA _⟩
  have HW : Hid (whoB q s = true) := by show _ = _; simp [whoB]; omega
  go_enter Try.func13, Try.ntmps13
  go_wp2_with fail
  refine (forms_any _ _ _ _ L U _ (by simp; omega) (HO.below (hA _) hU)).mono ?_
  rintro e w1 ⟨rfl, hb1⟩
  have h1 : Below w.heap.size w w1 := (hA _).trans (hb1.mono (by simp))
  have c2 : w1.cell? ⟨w.heap.size, 2, none⟩ = some (.slice a n c) := by rw [hb1.cell (by simp)]; simp [go_sem]
  have c3 : w1.cell? ⟨w.heap.size, 3, none⟩ = some (.slice a' n' c') := by rw [hb1.cell (by simp)]; simp [go_sem]
  have hz1 : w.heap.size < w1.heap.size := by have := hb1.size; simp at this; omega
  clear hb1
  rcases t1 : formsB l.list with _ | _
  · go_wp2_with fail
    go_ret
    exact ⟨ret_bool (by rw [HV.out, t1]; simp), h1⟩
  go_wp2_with fail
  refine (specLogIds _ _ _ _ L U _ (by have := h1.size; omega) (HO.below h1 hU)).mono ?_
  rintro e w2 ⟨⟨v2, rfl, hv2⟩, hb2⟩
  obtain ⟨a2, k2, rfl, hI⟩ := hv2.out.at_
  have h2 : Below w.heap.size w w2 := h1.trans (hb2.mono h1.size)
  have d2 : w2.cell? ⟨w.heap.size, 2, none⟩ = some (.slice a n c) := by rw [hb2.cell (by simpa using hz1)]; exact c2
  have hz2 := hb2.size
  obtain ⟨ids, hids⟩ : ∃ ids, ids = logIds l.list := ⟨_, rfl⟩
  have hle := logIds_le l.list
  rw [← hids] at hI hle
  have HV2 : Hid (logOk l = basesFor l.bases ids) := by show _ = _; rw [HV.out, HW.out, t1, hids]; simp
  have HIL : Hid (∃ m, m = ids.length) := ⟨_, rfl⟩
  rw [← hids]
  clear hids hv2 hb2 c2 c3
  obtain ⟨m, hm⟩ := HIL.out
  rw [← hm] at hI hle ⊢
  by_cases hnn : m = n
  case neg =>
    have hne : ((m : Int) != n) = true := by simp; omega
    have HN : Hid (basesFor l.bases ids = false) := basesFor_len (by rw [← HB.len, ← hI.1]; exact fun h => hnn h.symm)
    go_wp2_with fail
    go_ret
    exact ⟨ret_bool (by rw [HV2.out, HN.out]), h2⟩
  subst hnn
  go_wp2_with fail
  go_loopg [4] m (fun g i wr => ∃ j : Nat, j ≤ m ∧ Hid (g = m - j) ∧ i = .int .i64 j ∧ Hid (∀ i, i < j → ∀ x y, l.bases[i]? = some x → ids[i]? = some y → baseOf x y = true) ∧ ∃ q, wr = w2.drewN q)
  case atStart => exact ⟨0, Nat.zero_le _, rfl, rfl, fun i hi => by omega, 0, rfl⟩
  case round =>
    obtain ⟨j, hj, hk, rfl, hq, qq, rfl⟩ := hrel
    by_cases hlt : j < m
    · obtain ⟨b, off, ha, hL, hbU, hc⟩ := HB.at_ (by omega)
      subst ha
      obtain ⟨x, he, c0, c1⟩ := hc j hlt
      obtain ⟨g, k, rfl, hg1, hg2, he2, d0⟩ := hI.2 j hlt
      rw [← h2.cell (by simp; omega)] at c0 c1
      have HE : Hid (l.bases[j]? = some x ∧ ids[j]? = some k) := ⟨he, he2⟩
      have hlt' : (j : Int) < (m : Int) := by omega
      clear he he2 hc
      rcases baseOf_parts x k with ⟨t0, t1, t2, ht⟩ | ⟨t0, ht⟩ | ⟨t0, t1, ht⟩ | ⟨t0, t1, t2, ht⟩
      · have HT : Hid (baseOf x k = true) := ht
        clear ht
        go_wp2_with fail
        go_quiet (fail)
        go_wp2_with fail
        go_roundg (m - (j + 1))
        case measure => have := hk.out; omega
        case rel =>
          refine ⟨j + 1, by omega, rfl, by go_num, fun i hi x' y' hx hy => ?_, _, rfl⟩
          by_cases e : i = j
          · subst e
            rw [HE.out.1] at hx
            rw [HE.out.2] at hy
            cases hx
            cases hy
            exact HT.out
          · exact hq.out i (by omega) x' y' hx hy
      all_goals
        have HN : Hid (basesFor l.bases ids = false) := basesFor_no HE.out.1 HE.out.2 ht
        clear ht
        go_wp2_with fail
        go_quiet (fail)
        go_wp2_with fail
        go_ret
        exact ⟨ret_bool (by rw [HV2.out, HN.out]), by rw [World.drewN_drewN]; exact h2.trans ((Below.drewN _ _).mono h2.size)⟩
    · have HN : Hid (basesFor l.bases ids = true) := basesFor_yes (by rw [← HB.len, ← hI.1]) (fun i x y hx hy => hq.out i (by have := (List.getElem?_eq_some_iff.1 hx).1; have := HB.len; omega) x y hx hy)
      go_wp2_with fail
      go_ret
      exact ⟨ret_bool (by rw [HV2.out, HN.out]), h2.trans ((Below.drewN _ _).mono h2.size)⟩
end Go.Proofs.Ytdjffkiiglilnaa
