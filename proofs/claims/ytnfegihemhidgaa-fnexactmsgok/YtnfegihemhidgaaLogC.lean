/- Logs: compared by the specification; whose they are. -/
import Derived.Test.YtnfegihemhidgaaLogB
namespace Go.Proofs.Ytnfegihemhidgaa
open Go.RowKit

set_option maxHeartbeats 4000000 in
set_option maxRecDepth 20000 in
theorem specLogSame (q s : Int) (a : Option Addr) (n c : Nat) (a' : Option Addr) (n' c' : Nat) (p r : Int) (b : Option Addr) (m d : Nat) (b' : Option Addr) (m' d' : Nat) (l k : LLog) (L U L' U' : Nat) (w : World) (hU : U ≤ w.heap.size) (hU' : U' ≤ w.heap.size) (H : LogAt w L U q s a n a' n' l) (H' : LogAt w L' U' p r b m b' m' k) :
    Calls Try.prog 26 #[.agg #[.int .i64 q, .int .i64 s, .slice a n c, .slice a' n' c'], .agg #[.int .i64 p, .int .i64 r, .slice b m d, .slice b' m' d']] w fun e w' => e = .returned (.bool (logEq l k)) ∧ Below w.heap.size w w' := by
  have HV : Hid (logEq l k = ((q == p) && (s == r) && listEq baseEq l.bases k.bases && listEq opEq l.list k.list)) := by show _ = _; unfold logEq; rw [H.q, H.s, H'.q, H'.s]
  have HB := H.b
  have HO := H.o
  have HB' := H'.b
  have HO' := H'.o
  have hbd := HB.bd
  have hbd' := HB'.bd
  unfold maxLen at hbd hbd'
  clear H H'
  have hA : ∀ o1 o2 : Obj, Below w.heap.size w ((w.alloc o1).alloc o2) := fun o1 o2 => ((Below.refl _ _).alloc (Nat.le_refl _) _).alloc (by simp) _
  rcases t1 : (q == p) with _ | _
  · have u1 : (q != p) = true := by simp [bne, t1]
    go_enter Try.func26, Try.ntmps26
    go_wp2_with fail
    go_ret
    exact ⟨ret_bool (by rw [HV.out, t1]; rfl), hA _ _⟩
  have u1 : (q != p) = false := by simp [bne, t1]
  rcases t2 : (s == r) with _ | _
  · have u2 : (s != r) = true := by simp [bne, t2]
    go_enter Try.func26, Try.ntmps26
    go_wp2_with fail
    go_ret
    exact ⟨ret_bool (by rw [HV.out, t1, t2]; rfl), hA _ _⟩
  have u2 : (s != r) = false := by simp [bne, t2]
  by_cases hnn : n = m
  case neg =>
    have hne : ((n : Int) != m) = true := by simp; omega
    have HN : Hid (listEq baseEq l.bases k.bases = false) := listEq_len (by rw [← HB.len, ← HB'.len]; exact hnn)
    go_enter Try.func26, Try.ntmps26
    go_wp2_with fail
    go_ret
    exact ⟨ret_bool (by rw [HV.out, HN.out]; simp), hA _ _⟩
  subst hnn
  go_enter Try.func26, Try.ntmps26
  go_wp2_with fail
  refine (specOpSame _ _ _ _ _ _ _ _ L U L' U' _ (HO.below (hA _ _) hU) (HO'.below (hA _ _) hU')).mono ?_
  rintro e w4 ⟨rfl, m4, rfl⟩
  rcases t3 : listEq opEq l.list k.list with _ | _
  · go_wp2_with fail
    go_ret
    exact ⟨ret_bool (by rw [HV.out, t3]; simp), (hA _ _).trans ((Below.drewN _ _).mono (by simp <;> omega))⟩
  obtain ⟨w2, hw2⟩ : ∃ W : World, W = (w.alloc (Obj.cells #[.int .i64 q, .int .i64 s, .slice a n c, .slice a' n' c'] 36)).alloc (Obj.cells #[.int .i64 p, .int .i64 r, .slice b n d, .slice b' m' d'] 36) := ⟨_, rfl⟩
  rw [← hw2]
  have hD : Hid (Below w.heap.size w w2) := by show Below _ _ _; rw [hw2]; exact hA _ _
  have p2 : w2.cell? ⟨w.heap.size, 2, none⟩ = some (.slice a n c) := by rw [hw2]; simp [go_sem]
  have p4 : w2.cell? ⟨w.heap.size + 1, 2, none⟩ = some (.slice b n d) := by rw [hw2]; simp [go_sem]
  clear hw2
  go_wp2_with fail
  go_loopg [5] n (fun g i wr => ∃ j : Nat, j ≤ n ∧ Hid (g = n - j) ∧ i = .int .i64 j ∧ Hid (∀ i, i < j → ∀ x y, l.bases[i]? = some x → k.bases[i]? = some y → baseEq x y = true) ∧ ∃ q, wr = w2.drewN q)
  case atStart => exact ⟨0, Nat.zero_le _, by show _ = _; omega, rfl, fun i hi => by omega, m4, rfl⟩
  case round =>
    obtain ⟨j, hj, hk, rfl, hq, qq, rfl⟩ := hrel
    by_cases hlt : j < n
    · obtain ⟨b1, off, ha, hL, hbU, hc⟩ := HB.at_ (by omega)
      obtain ⟨b2, off', ha', hL', hbU', hc'⟩ := HB'.at_ (by omega)
      subst ha ha'
      obtain ⟨x, he, c0, c1⟩ := hc j hlt
      obtain ⟨y, he2, d0, d1⟩ := hc' j hlt
      rw [← hD.out.cell (by simp; omega)] at c0 c1 d0 d1
      have HE : Hid (l.bases[j]? = some x ∧ k.bases[j]? = some y) := ⟨he, he2⟩
      have hlt' : (j : Int) < (n : Int) := by omega
      clear he he2 hc hc'
      rcases baseParts x y with ⟨t0, t1⟩ | t0 | ⟨t0, t1⟩
      · have HY : Hid (baseEq x y = true) := by show _ = _; simp only [baseEq, t0, t1, Bool.and_true]
        go_wp2_with fail
        go_quiet (fail)
        go_wp2_with fail
        go_roundg (n - (j + 1))
        case measure => have := hk.out; omega
        case rel =>
          refine ⟨j + 1, by omega, rfl, by go_num, fun i hi x' y' hx hy => ?_, _, rfl⟩
          by_cases e : i = j
          · subst e
            rw [HE.out.1] at hx
            rw [HE.out.2] at hy
            cases hx
            cases hy
            exact HY.out
          · exact hq.out i (by omega) x' y' hx hy
      all_goals
        have HN : Hid (listEq baseEq l.bases k.bases = false) := listEq_no HE.out.1 HE.out.2 (by simp only [baseEq, *, Bool.and_false, Bool.false_and])
        go_wp2_with fail
        go_quiet (fail)
        go_wp2_with fail
        go_ret
        exact ⟨ret_bool (by rw [HV.out, HN.out]; simp), by rw [World.drewN_drewN]; exact hD.out.trans ((Below.drewN _ _).mono hD.out.size)⟩
    · have HN : Hid (listEq baseEq l.bases k.bases = true) := listEq_yes (by rw [← HB.len, ← HB'.len]) (fun i x y hx hy => hq.out i (by have := (List.getElem?_eq_some_iff.1 hx).1; have := HB.len; omega) x y hx hy)
      go_wp2_with fail
      go_ret
      exact ⟨ret_bool (by rw [HV.out, t1, t2, t3, HN.out]; rfl), hD.out.trans ((Below.drewN _ _).mono hD.out.size)⟩
end Go.Proofs.Ytnfegihemhidgaa
