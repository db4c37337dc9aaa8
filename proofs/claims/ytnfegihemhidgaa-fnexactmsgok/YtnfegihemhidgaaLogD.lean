/- Logs: what is ok, of the program. -/
import Derived.Test.YtnfegihemhidgaaLogB
import Derived.Test.YtnfegihemhidgaaLogIJ
import Derived.Test.YtnfegihemhidgaaIntS
import Derived.Test.YtnfegihemhidgaaSlimI2
namespace Go.Proofs.Ytnfegihemhidgaa
open Go.RowKit

/-- The bases are of just these numbers. -/
def baseOf (x : LBase) (i : Nat) : Bool := (x.id == (i : Int)) && (decide (0 ≤ x.ver) && decide (x.ver ≤ 1000000))
def basesFor : List LBase → List Nat → Bool
  | [], [] => true
  | x :: xs, i :: is => baseOf x i && basesFor xs is
  | _, _ => false
def whoB (q s : Int) : Bool := decide (0 ≤ q) && decide (q < 3) && (decide (1 ≤ s) && decide (s ≤ 1000))
def logOk (l : LLog) : Bool := whoB l.who l.seq && formsB l.list && basesFor l.bases (logIds l.list)
theorem basesFor_len : ∀ {xs : List LBase} {is : List Nat}, xs.length ≠ is.length → basesFor xs is = false
  | [], [], h => absurd rfl h
  | [], _ :: _, _ => rfl
  | _ :: _, [], _ => rfl
  | x :: xs, i :: is, h => by
    have := basesFor_len (xs := xs) (is := is) (by simpa using h)
    simp [basesFor, this]
theorem basesFor_no : ∀ {xs : List LBase} {is : List Nat} {j : Nat} {x : LBase} {i : Nat}, xs[j]? = some x → is[j]? = some i → baseOf x i = false → basesFor xs is = false
  | [], _, _, _, _, h, _, _ => by simp at h
  | _ :: _, [], _, _, _, _, h, _ => by simp at h
  | x :: xs, i :: is, 0, y, k, h1, h2, h3 => by
    simp at h1 h2; subst h1 h2; simp [basesFor, h3]
  | x :: xs, i :: is, j + 1, y, k, h1, h2, h3 => by
    have := basesFor_no (xs := xs) (is := is) (j := j) (x := y) (i := k) (by simpa using h1) (by simpa using h2) h3
    simp [basesFor, this]
theorem basesFor_yes : ∀ {xs : List LBase} {is : List Nat}, xs.length = is.length → (∀ (j : Nat) x i, xs[j]? = some x → is[j]? = some i → baseOf x i = true) → basesFor xs is = true
  | [], [], _, _ => rfl
  | [], _ :: _, h, _ => by simp at h
  | _ :: _, [], h, _ => by simp at h
  | x :: xs, i :: is, h, hj => by
    have h1 := basesFor_yes (xs := xs) (is := is) (by simpa using h) (fun j x i h1 h2 => hj (j + 1) x i (by simpa using h1) (by simpa using h2))
    have h2 := hj 0 x i rfl rfl
    simp [basesFor, h1, h2]

theorem isClient_any (q : Int) (w : World) : Calls Try.prog 41 #[.int .i64 q] w fun e w' => e = .returned (.bool (decide (0 ≤ q) && decide (q < 3))) ∧ w' = w := by
  by_cases h : 0 ≤ q
  · go_enter Try.func41, Try.ntmps41
    go_wp2
    go_ret
    exact ⟨ret_bool (by simp [h]), rfl⟩
  · go_enter Try.func41, Try.ntmps41
    go_wp2
    go_ret
    exact ⟨ret_bool (by simp; omega), rfl⟩
theorem isLogNumber_any (q : Int) (w : World) : Calls Try.prog 42 #[.int .i64 q] w fun e w' => e = .returned (.bool (decide (1 ≤ q) && decide (q ≤ 1000))) ∧ w' = w := by
  by_cases h : 1 ≤ q
  · go_enter Try.func42, Try.ntmps42
    go_wp2
    go_ret
    exact ⟨ret_bool (by simp [h]), rfl⟩
  · go_enter Try.func42, Try.ntmps42
    go_wp2
    go_ret
    exact ⟨ret_bool (by simp; omega), rfl⟩
theorem ownerOk_any (q s : Int) (w : World) : Calls Try.prog 21 #[.agg #[.int .i64 q, .int .i64 s]] w fun e w' => e = .returned (.bool (whoB q s)) ∧ Below w.heap.size w w' := by
  rcases t1 : (decide (0 ≤ q) && decide (q < 3)) with _ | _
  · go_enter Try.func21, Try.ntmps21
    go_wp2_with fail
    refine (isClient_any _ _).mono ?_
    rintro e w1 ⟨rfl, rfl⟩
    rw [t1]
    go_wp2_with fail
    go_ret
    exact ⟨ret_bool (by simp only [whoB, t1, Bool.false_and]), (Below.refl _ _).alloc (Nat.le_refl _) _⟩
  · go_enter Try.func21, Try.ntmps21
    go_wp2_with fail
    refine (isClient_any _ _).mono ?_
    rintro e w1 ⟨rfl, rfl⟩
    rw [t1]
    go_wp2_with fail
    refine (isLogNumber_any _ _).mono ?_
    rintro e w1 ⟨rfl, rfl⟩
    go_wp2_with fail
    go_ret
    exact ⟨ret_bool (by simp only [whoB, t1, Bool.true_and]), (Below.refl _ _).alloc (Nat.le_refl _) _⟩

theorem clos140 (x : LBase) (i : Nat) (w : World) : Calls Try.prog 90 #[.agg #[.int .i64 x.id, .int .i64 x.ver], .int .i64 (i : Int)] w fun e w' => e = .returned (.bool (baseOf x i)) ∧ Below w.heap.size w w' := by
  rcases t1 : (x.id == (i : Int)) with _ | _
  · go_enter Try.func90, Try.ntmps90
    go_wp2_with fail
    go_ret
    exact ⟨ret_bool (by simp only [baseOf, t1, Bool.false_and]), (Below.refl _ _).alloc (Nat.le_refl _) _⟩
  by_cases t2 : 0 ≤ x.ver
  · go_enter Try.func90, Try.ntmps90
    go_wp2_with fail
    go_ret
    exact ⟨ret_bool (by simp [baseOf, t1, t2]), (Below.refl _ _).alloc (Nat.le_refl _) _⟩
  · go_enter Try.func90, Try.ntmps90
    go_wp2_with fail
    go_ret
    exact ⟨ret_bool (by simp [baseOf]; omega), (Below.refl _ _).alloc (Nat.le_refl _) _⟩

/-- Numbers that are looked at only. -/
def IntsAt (w : World) (L U : Nat) (a : Option Addr) (n : Nat) (l : List Nat) : Prop := n = l.length ∧ ∀ i, i < n → ∃ g k, a = some ⟨g, 0, none⟩ ∧ L ≤ g ∧ g < U ∧ l[i]? = some k ∧ w.cell? ⟨g, i, none⟩ = some (.int .i64 (k : Nat))
theorem OwnInts.at_ {w : World} {B : Nat} {v : Value} {l : List Nat} (h : OwnInts w B v l) : ∃ a c, v = .slice a l.length c ∧ IntsAt w B w.heap.size a l.length l := by
  obtain ⟨a, c, rfl, hc⟩ := h.form
  exact ⟨a, c, rfl, rfl, fun i hi => by
    obtain ⟨g, k, h1, h2, h3, h4, h5⟩ := hc i hi
    exact ⟨g, k, h1, h2, h3, h4, h5⟩⟩
theorem IntsAt.below {w w' : World} {L U B : Nat} {a : Option Addr} {n : Nat} {l : List Nat} (h : IntsAt w L U a n l) (hb : Below B w w') (hU : U ≤ B) : IntsAt w' L U a n l := ⟨h.1, fun i hi => by
  obtain ⟨g, k, h1, h2, h3, h4, h5⟩ := h.2 i hi
  exact ⟨g, k, h1, h2, h3, h4, by rw [hb.cell (by simp; omega)]; exact h5⟩⟩

set_option maxHeartbeats 1000000 in
theorem equalFuncB (a a' : Option Addr) (n n' c c' : Nat) (bs : List LBase) (l : List Nat) (L U L' U' : Nat) (w : World) (hU : U ≤ w.heap.size) (hU' : U' ≤ w.heap.size) (hl : n' ≤ 1000000) (H : BasesAt w L U a n bs) (H' : IntsAt w L' U' a' n' l) :
    Calls Try.prog 88 #[.slice a n c, .slice a' n' c', .func (.func 90) #[] #[]] w fun e w' => e = .returned (.bool (basesFor bs l)) ∧ Below w.heap.size w w' := by
  have hbd := H.bd
  unfold maxLen at hbd
  by_cases hnn : n = n'
  case neg =>
    have hne : ((n : Int) != n') = true := by simp; omega
    have HN : Hid (basesFor bs l = false) := basesFor_len (by rw [← H.len, ← H'.1]; exact hnn)
    go_enter Try.func88, Try.ntmps88
    go_wp2_with fail
    go_ret
    exact ⟨ret_bool HN.out.symm, Below.refl _ _⟩
  subst hnn
  go_enter Try.func88, Try.ntmps88
  go_wp2_with fail
  go_loopg [17] n (fun g i wr => ∃ j : Nat, j ≤ n ∧ Hid (g = n - j) ∧ i = .int .i64 j ∧ Hid (∀ i, i < j → ∀ x y, bs[i]? = some x → l[i]? = some y → baseOf x y = true) ∧ Below w.heap.size w wr)
  case atStart => exact ⟨0, Nat.zero_le _, rfl, rfl, fun i hi => by omega, Below.refl _ _⟩
  case round =>
    obtain ⟨j, hj, hk, rfl, hq, hb⟩ := hrel
    have hzz := hb.size
    by_cases hlt : j < n
    · obtain ⟨b, off, ha, hL, hbU, hc⟩ := H.at_ (by omega)
      subst ha
      obtain ⟨x, he, c0, c1⟩ := hc j hlt
      obtain ⟨g, k, rfl, hg1, hg2, he2, d0⟩ := H'.2 j hlt
      rw [← hb.cell (by simp; omega)] at c0 c1 d0
      have HE : Hid (bs[j]? = some x ∧ l[j]? = some k) := ⟨he, he2⟩
      have hlt' : (j : Int) < (n : Int) := by omega
      have e0 : ∀ o, (wr.alloc o).cell? ⟨g, j, none⟩ = some (.int .i64 (k : Nat)) := fun o => by rw [((Below.refl wr.heap.size wr).alloc (Nat.le_refl _) o).cell (by simp; omega)]; exact d0
      have HCL := clos140 x k
      clear he he2 hc
      go_wp2_with fail
      refine (HCL _).mono ?_
      rintro e w1 ⟨rfl, hb1⟩
      have hbb : Below w.heap.size w w1 := (hb.alloc hb.size _).trans (hb1.mono (by simp; omega))
      rcases t : baseOf x k with _ | _
      · have HN : Hid (basesFor bs l = false) := basesFor_no HE.out.1 HE.out.2 t
        go_wp2_with fail
        go_ret
        exact ⟨ret_bool HN.out.symm, hbb⟩
      · have HT : Hid (baseOf x k = true) := t
        go_wp2_with fail
        go_roundg (n - (j + 1))
        case measure => have := hk.out; omega
        case rel =>
          refine ⟨j + 1, by omega, rfl, by go_num, fun i hi x' y' hx hy => ?_, hbb⟩
          by_cases e : i = j
          · subst e
            rw [HE.out.1] at hx
            rw [HE.out.2] at hy
            cases hx
            cases hy
            exact HT.out
          · exact hq.out i (by omega) x' y' hx hy
    · have HN : Hid (basesFor bs l = true) := basesFor_yes (by rw [← H.len, ← H'.1]) (fun i x y hx hy => hq.out i (by have := (List.getElem?_eq_some_iff.1 hx).1; have := H.len; omega) x y hx hy)
      go_wp2_with fail
      go_ret
      exact ⟨ret_bool HN.out.symm, hb⟩

set_option maxHeartbeats 2000000 in
set_option maxRecDepth 20000 in
theorem basesOk_any (q s : Int) (a : Option Addr) (n c : Nat) (a' : Option Addr) (n' c' : Nat) (l : LLog) (L U : Nat) (w : World) (hU : U ≤ w.heap.size) (hnc : n' ≤ c') (hcm : c' ≤ maxLen) (HB : BasesAt w L U a n l.bases) (HO : OpsAt w L U a' n' l.list) :
    Calls Try.prog 82 #[.agg #[.int .i64 q, .int .i64 s, .slice a n c, .slice a' n' c']] w fun e w' => e = .returned (.bool (basesFor l.bases (logIds l.list))) ∧ Below w.heap.size w w' := by
  go_enter Try.func82, Try.ntmps82
  go_upto_region 1 with fail
  obtain ⟨w2, hw2⟩ : ∃ W : World, W = w.alloc (Obj.cells #[.int .i64 q, .int .i64 s, .slice a n c, .slice a' n' c'] 85) := ⟨_, rfl⟩
  rw [← hw2]
  have HX : Hid (LogBox w2 w.heap.size q s a n c a' n' c') := ⟨by rw [hw2]; simp [go_sem], by rw [hw2]; simp [go_sem], by rw [hw2]; simp [go_sem], by rw [hw2]; simp [go_sem]⟩
  have hA : Below w.heap.size w w2 := by rw [hw2]; exact (Below.refl _ _).alloc (Nat.le_refl _) _
  have hz2 : w2.heap.size = w.heap.size + 1 := by rw [hw2]; simp
  have l1 : w.heap.size < w2.heap.size := by omega
  clear hw2
  go_cut [2] (fun x wx => x = .bool (basesFor l.bases (logIds l.list)) ∧ Below w2.heap.size w2 wx)
  case first =>
    refine wp_region_held_drew (S := (fun W => Below w2.heap.size w2 W)) (by kernel_rfl) ?_ (fun hHeld => ?_)
    · exact (Below.refl _ _).drew
    refine listH (l2 := #[false, false, false, false, false, false, false]) (by kernel_rfl) ?_
    refine takeH (i := 0) (oi := _) (v := ?v0) 3 #[true, false, false, false, false, false, false] rfl (by kernel_rfl) (by kernel_rfl) (by kernel_rfl) rfl (by kernel_rfl) (fun _ _ _ h => h) (Or.inl ⟨by rfl, ?y0⟩) (by assumption) ?r0
    case y0 => (intro w' hSw; (try dsimp only at hSw); have x0 := hSw.cell (p := ⟨w.heap.size, 0, none⟩) (by simpa using l1); have x1 := hSw.cell (p := ⟨w.heap.size, 1, none⟩) (by simpa using l1); have x2 := hSw.cell (p := ⟨w.heap.size, 2, none⟩) (by simpa using l1); have x3 := hSw.cell (p := ⟨w.heap.size, 3, none⟩) (by simpa using l1); rw [HX.out.c0] at x0; rw [HX.out.c1] at x1; rw [HX.out.c2] at x2; rw [HX.out.c3] at x3; go_simp; try with_reducible rfl)
    simp only [Act.put, List.setIfInBounds_toArray, List.set_cons_succ, List.set_cons_zero]
    refine takeH (i := 1) (oi := _) (v := ?v1) 4 #[true, true, false, false, false, false, false] rfl (by kernel_rfl) (by kernel_rfl) (by kernel_rfl) rfl (by kernel_rfl) (fun _ _ _ h => h) (Or.inl ⟨by rfl, ?y1⟩) (by assumption) ?r1
    case y1 => (intro w' hSw; (try dsimp only at hSw); have x0 := hSw.cell (p := ⟨w.heap.size, 0, none⟩) (by simpa using l1); have x1 := hSw.cell (p := ⟨w.heap.size, 1, none⟩) (by simpa using l1); have x2 := hSw.cell (p := ⟨w.heap.size, 2, none⟩) (by simpa using l1); have x3 := hSw.cell (p := ⟨w.heap.size, 3, none⟩) (by simpa using l1); rw [HX.out.c0] at x0; rw [HX.out.c1] at x1; rw [HX.out.c2] at x2; rw [HX.out.c3] at x3; go_simp; try with_reducible rfl)
    simp only [Act.put, List.setIfInBounds_toArray, List.set_cons_succ, List.set_cons_zero]
    refine takeH (i := 2) (oi := _) (v := ?v2) 5 #[true, true, true, false, false, false, false] rfl (by kernel_rfl) (by kernel_rfl) (by kernel_rfl) rfl (by kernel_rfl) (fun _ _ _ h => h) (Or.inl ⟨by rfl, ?y2⟩) (by assumption) ?r2
    case y2 => (intro w' hSw; (try dsimp only at hSw); have x0 := hSw.cell (p := ⟨w.heap.size, 0, none⟩) (by simpa using l1); have x1 := hSw.cell (p := ⟨w.heap.size, 1, none⟩) (by simpa using l1); have x2 := hSw.cell (p := ⟨w.heap.size, 2, none⟩) (by simpa using l1); have x3 := hSw.cell (p := ⟨w.heap.size, 3, none⟩) (by simpa using l1); rw [HX.out.c0] at x0; rw [HX.out.c1] at x1; rw [HX.out.c2] at x2; rw [HX.out.c3] at x3; go_simp; try with_reducible rfl)
    simp only [Act.put, List.setIfInBounds_toArray, List.set_cons_succ, List.set_cons_zero]
    refine takeH (i := 3) (oi := _) (v := ?v3) 6 #[true, true, true, true, false, false, false] rfl (by kernel_rfl) (by kernel_rfl) (by kernel_rfl) rfl (by kernel_rfl) (fun _ _ _ h => h) (Or.inl ⟨by rfl, ?y3⟩) (by assumption) ?r3
    case y3 => (intro w' hSw; (try dsimp only at hSw); have x0 := hSw.cell (p := ⟨w.heap.size, 0, none⟩) (by simpa using l1); have x1 := hSw.cell (p := ⟨w.heap.size, 1, none⟩) (by simpa using l1); have x2 := hSw.cell (p := ⟨w.heap.size, 2, none⟩) (by simpa using l1); have x3 := hSw.cell (p := ⟨w.heap.size, 3, none⟩) (by simpa using l1); rw [HX.out.c0] at x0; rw [HX.out.c1] at x1; rw [HX.out.c2] at x2; rw [HX.out.c3] at x3; go_simp; try with_reducible rfl)
    simp only [Act.put, List.setIfInBounds_toArray, List.set_cons_succ, List.set_cons_zero]
    refine wpAnyH_ready (rs := [4]) (by kernel_rfl) (by simp) ?_
    refine AllReadyH.cons (o := _) rfl (fun K hK => ?_) AllReadyH.nil
    go_simp
    refine (implLogIds _ _ _ _ L U _ (by simp; omega) hnc hcm (HO.below ((hA).drew) hU)).mono ?_
    rintro e w3 ⟨⟨v3, rfl, hv3⟩, hb3⟩
    obtain ⟨a3, c3, rfl, hI⟩ := hv3.out.at_
    have hB : Below w2.heap.size w2 w3 := (Below.refl _ _).drew.trans hb3
    go_wp2_with fail
    refine hK.out _ _ ?_ (fun hHeld => ?_)
    · exact hB
    clear hK K
    try simp only [Act.put]
    refine listH (l2 := #[true, true, true, true, true, false, false]) (by kernel_rfl) ?_
    refine wpAnyH_ready (rs := [5]) (by kernel_rfl) (by simp) ?_
    refine AllReadyH.cons (o := _) rfl (fun K hK => ?_) AllReadyH.nil
    go_simp
    refine (equalFuncB _ _ _ _ _ _ _ _ L U _ _ _ (by have := hB.size; omega) (Nat.le_refl _) (by have := logIds_le l.list; omega) (HB.below (hA.trans (hB.mono hA.size)) hU) hI).mono ?_
    rintro e w4 ⟨rfl, hb4⟩
    have hB4 : Below w2.heap.size w2 w4 := hB.trans (hb4.mono hB.size)
    go_wp2_with fail
    refine hK.out _ _ ?_ (fun hHeld => ?_)
    · exact hB4
    clear hK K
    try simp only [Act.put]
    refine listH (l2 := #[true, true, true, true, true, true, false]) (by kernel_rfl) ?_
    refine wpAnyH_ready (rs := [6]) (by kernel_rfl) (by simp) ?_
    refine AllReadyH.cons (o := _) rfl (fun K hK => ?_) AllReadyH.nil
    go_simp
    refine hK.out _ _ ?_ (fun hHeld => ?_)
    · exact hB4
    clear hK K
    try simp only [Act.put]
    refine listH (l2 := #[true, true, true, true, true, true, true]) (by kernel_rfl) ?_
    refine wpAnyH_done (by kernel_rfl) ?_ _
    go_wp2_with fail
    go_meet
    exact ⟨rfl, hB4⟩
  obtain ⟨rfl, hB⟩ := hcut
  go_wp2_with fail
  go_ret
  exact ⟨rfl, hA.trans (hB.mono hA.size)⟩

set_option maxHeartbeats 2000000 in
theorem implLogOk (q s : Int) (a : Option Addr) (n c : Nat) (a' : Option Addr) (n' c' : Nat) (l : LLog) (L U : Nat) (w : World) (hU : U ≤ w.heap.size) (hnc : n' ≤ c') (hcm : c' ≤ maxLen) (H : LogAt w L U q s a n a' n' l) :
    Calls Try.prog 68 #[.agg #[.int .i64 q, .int .i64 s, .slice a n c, .slice a' n' c']] w fun e w' => e = .returned (.bool (logOk l)) ∧ Below w.heap.size w w' := by
  have HV : Hid (logOk l = (whoB q s && formsB l.list && basesFor l.bases (logIds l.list))) := by show _ = _; unfold logOk; rw [H.q, H.s]
  have HB := H.b
  have HO := H.o
  clear H
  go_enter Try.func68, Try.ntmps68
  go_wp2_with fail
  refine (bundleOf_any _ _ _ _ _ _ _ _ _).mono ?_
  rintro e w1 ⟨rfl, hb1⟩
  have h1 : Below w.heap.size w w1 := ((Below.refl _ _).alloc (Nat.le_refl _) _).trans (hb1.mono (by simp))
  clear hb1
  go_wp2_with fail
  have h2 : Below w.heap.size w (w1.alloc (Obj.cells #[.int .i64 q, .int .i64 s, .slice a n c, .slice a' n' c'] 85)) := h1.alloc h1.size _
  have hz := h1.size
  refine (ownerOk_any _ _ _).mono ?_
  rintro e w3 ⟨rfl, hb3⟩
  have h3 : Below w.heap.size w w3 := h2.trans (hb3.mono (by simp; omega))
  have c0 : w3.cell? ⟨w1.heap.size, 0, none⟩ = some (.int .i64 q) := by rw [hb3.cell (by simp)]; simp [go_sem]
  have c1 : w3.cell? ⟨w1.heap.size, 1, none⟩ = some (.int .i64 s) := by rw [hb3.cell (by simp)]; simp [go_sem]
  have c2 : w3.cell? ⟨w1.heap.size, 2, none⟩ = some (.slice a n c) := by rw [hb3.cell (by simp)]; simp [go_sem]
  have c3 : w3.cell? ⟨w1.heap.size, 3, none⟩ = some (.slice a' n' c') := by rw [hb3.cell (by simp)]; simp [go_sem]
  have hz3 : w1.heap.size < w3.heap.size := by have := hb3.size; simp at this; omega
  clear hb3 h2 h1
  rcases t1 : whoB q s with _ | _
  · go_wp2_with fail
    go_ret
    exact ⟨ret_bool (by rw [HV.out, t1]; rfl), h3⟩
  go_wp2_with fail
  refine (listOk_any _ _ _ _ L U _ (by have := h3.size; omega) (HO.below h3 hU)).mono ?_
  rintro e w4 ⟨rfl, hb4⟩
  have h4 : Below w.heap.size w w4 := h3.trans (hb4.mono h3.size)
  have d0 : w4.cell? ⟨w1.heap.size, 0, none⟩ = some (.int .i64 q) := by rw [hb4.cell (by simpa using hz3)]; exact c0
  have d1 : w4.cell? ⟨w1.heap.size, 1, none⟩ = some (.int .i64 s) := by rw [hb4.cell (by simpa using hz3)]; exact c1
  have d2 : w4.cell? ⟨w1.heap.size, 2, none⟩ = some (.slice a n c) := by rw [hb4.cell (by simpa using hz3)]; exact c2
  have d3 : w4.cell? ⟨w1.heap.size, 3, none⟩ = some (.slice a' n' c') := by rw [hb4.cell (by simpa using hz3)]; exact c3
  clear c0 c1 c2 c3 hb4 h3
  rcases t2 : formsB l.list with _ | _
  · go_wp2_with fail
    go_ret
    exact ⟨ret_bool (by rw [HV.out, t1, t2]; rfl), h4⟩
  go_wp2_with fail
  refine (basesOk_any _ _ _ _ _ _ _ _ l L U _ (by have := h4.size; omega) hnc hcm (HB.below h4 hU) (HO.below h4 hU)).mono ?_
  rintro e w5 ⟨rfl, hb5⟩
  go_wp2_with fail
  go_ret
  exact ⟨ret_bool (by rw [HV.out, t1, t2]; rfl), h4.trans (hb5.mono h4.size)⟩
end Go.Proofs.Ytnfegihemhidgaa
