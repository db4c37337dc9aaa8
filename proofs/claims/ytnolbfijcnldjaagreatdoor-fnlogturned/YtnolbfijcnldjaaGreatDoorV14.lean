/- Lemmas that the proofs of this seat share: LogD, LogE, LogF, LogM. -/
import Derived.Test.YtnolbfijcnldjaaGreatDoorV12
import Derived.Test.YtnolbfijcnldjaaGreatDoorV13
import Derived.Test.YtnolbfijcnldjaaGreatDoorV07
/- Logs: what is ok, of the program. -/
namespace Go.Proofs.YtnolbfijcnldjaaGreatDoor
open Go.RowKit

/-- The bases are of just these numbers. -/
def baseOf (x : LBase) (i : Nat) : Bool := (x.id == (i : Int)) && (decide (0 ≤ x.ver) && decide (x.ver ≤ 1000000))
def basesFor : List LBase → List Nat → Bool
  | [], [] => true
  | x :: xs, i :: is => baseOf x i && basesFor xs is
  | _, _ => false
def whoB (q s : Int) : Bool := decide (0 ≤ q) && decide (q < 3) && (decide (1 ≤ s) && decide (s ≤ 1000))
def logOk (l : LLog) : Bool := whoB l.who l.seq && formsB l.list && basesFor l.bases (logIds l.list)
theorem basesFor_len : ∀ {xs : List LBase} {is : List Nat}, xs.length ≠ is.length → basesFor xs is = false
  | [], [], h => absurd rfl h
  | [], _ :: _, _ => rfl
  | _ :: _, [], _ => rfl
  | x :: xs, i :: is, h => by
    have := basesFor_len (xs := xs) (is := is) (by simpa using h)
    simp [basesFor, this]
theorem basesFor_no : ∀ {xs : List LBase} {is : List Nat} {j : Nat} {x : LBase} {i : Nat}, xs[j]? = some x → is[j]? = some i → baseOf x i = false → basesFor xs is = false
  | [], _, _, _, _, h, _, _ => by simp at h
  | _ :: _, [], _, _, _, _, h, _ => by simp at h
  | x :: xs, i :: is, 0, y, k, h1, h2, h3 => by
    simp at h1 h2; subst h1 h2; simp [basesFor, h3]
  | x :: xs, i :: is, j + 1, y, k, h1, h2, h3 => by
    have := basesFor_no (xs := xs) (is := is) (j := j) (x := y) (i := k) (by simpa using h1) (by simpa using h2) h3
    simp [basesFor, this]
theorem basesFor_yes : ∀ {xs : List LBase} {is : List Nat}, xs.length = is.length → (∀ (j : Nat) x i, xs[j]? = some x → is[j]? = some i → baseOf x i = true) → basesFor xs is = true
  | [], [], _, _ => rfl
  | [], _ :: _, h, _ => by simp at h
  | _ :: _, [], h, _ => by simp at h
  | x :: xs, i :: is, h, hj => by
    have h1 := basesFor_yes (xs := xs) (is := is) (by simpa using h) (fun j x i h1 h2 => hj (j + 1) x i (by simpa using h1) (by simpa using h2))
    have h2 := hj 0 x i rfl rfl
    simp [basesFor, h1, h2]

theorem isClient_any (q : Int) (w : World) : Calls Tryz.prog 156 #[.int .i64 q] w fun e w' => e = .returned (.bool (decide (0 ≤ q) && decide (q < 3))) ∧ w' = w := by
  by_cases h : 0 ≤ q
  · go_enter Tryz.func156, Tryz.ntmps156
    go_wp2
    go_ret
    exact ⟨ret_bool (by simp [h]), rfl⟩
  · go_enter Tryz.func156, Tryz.ntmps156
    go_wp2
    go_ret
    exact ⟨ret_bool (by simp; omega), rfl⟩
theorem isLogNumber_any (q : Int) (w : World) : Calls Tryz.prog 157 #[.int .i64 q] w fun e w' => e = .returned (.bool (decide (1 ≤ q) && decide (q ≤ 1000))) ∧ w' = w := by
  by_cases h : 1 ≤ q
  · go_enter Tryz.func157, Tryz.ntmps157
    go_wp2
    go_ret
    exact ⟨ret_bool (by simp [h]), rfl⟩
  · go_enter Tryz.func157, Tryz.ntmps157
    go_wp2
    go_ret
    exact ⟨ret_bool (by simp; omega), rfl⟩
theorem ownerOk_any (q s : Int) (w : World) : Calls Tryz.prog 104 #[.agg #[.int .i64 q, .int .i64 s]] w fun e w' => e = .returned (.bool (whoB q s)) ∧ Below w.heap.size w w' := by
  rcases t1 : (decide (0 ≤ q) && decide (q < 3)) with _ | _
  · go_enter Tryz.func104, Tryz.ntmps104
    go_wp2_with fail
    refine (isClient_any _ _).mono ?_
    rintro e w1 ⟨rfl, rfl⟩
    rw [t1]
    go_wp2_with fail
    go_ret
    exact ⟨ret_bool (by simp only [whoB, t1, Bool.false_and]), (Below.refl _ _).alloc (Nat.le_refl _) _⟩
  · go_enter Tryz.func104, Tryz.ntmps104
    go_wp2_with fail
    refine (isClient_any _ _).mono ?_
    rintro e w1 ⟨rfl, rfl⟩
    rw [t1]
    go_wp2_with fail
    refine (isLogNumber_any _ _).mono ?_
    rintro e w1 ⟨rfl, rfl⟩
    go_wp2_with fail
    go_ret
    exact ⟨ret_bool (by simp only [whoB, t1, Bool.true_and]), (Below.refl _ _).alloc (Nat.le_refl _) _⟩

theorem clos140 (x : LBase) (i : Nat) (w : World) : Calls Tryz.prog 159 #[.agg #[.int .i64 x.id, .int .i64 x.ver], .int .i64 (i : Int)] w fun e w' => e = .returned (.bool (baseOf x i)) ∧ Below w.heap.size w w' := by
  rcases t1 : (x.id == (i : Int)) with _ | _
  · go_enter Tryz.func159, Tryz.ntmps159
    go_wp2_with fail
    go_ret
    exact ⟨ret_bool (by simp only [baseOf, t1, Bool.false_and]), (Below.refl _ _).alloc (Nat.le_refl _) _⟩
  by_cases t2 : 0 ≤ x.ver
  · go_enter Tryz.func159, Tryz.ntmps159
    go_wp2_with fail
    go_ret
    exact ⟨ret_bool (by simp [baseOf, t1, t2]), (Below.refl _ _).alloc (Nat.le_refl _) _⟩
  · go_enter Tryz.func159, Tryz.ntmps159
    go_wp2_with fail
    go_ret
    exact ⟨ret_bool (by simp [baseOf]; omega), (Below.refl _ _).alloc (Nat.le_refl _) _⟩

/-- Numbers that are looked at only. -/
def IntsAt (w : World) (L U : Nat) (a : Option Addr) (n : Nat) (l : List Nat) : Prop := n = l.length ∧ ∀ i, i < n → ∃ g k, a = some ⟨g, 0, none⟩ ∧ L ≤ g ∧ g < U ∧ l[i]? = some k ∧ w.cell? ⟨g, i, none⟩ = some (.int .i64 (k : Nat))
theorem OwnInts.at_ {w : World} {B : Nat} {v : Value} {l : List Nat} (h : OwnInts w B v l) : ∃ a c, v = .slice a l.length c ∧ IntsAt w B w.heap.size a l.length l := by
  obtain ⟨a, c, rfl, hc⟩ := h.form
  exact ⟨a, c, rfl, rfl, fun i hi => by
    obtain ⟨g, k, h1, h2, h3, h4, h5⟩ := hc i hi
    exact ⟨g, k, h1, h2, h3, h4, h5⟩⟩
theorem IntsAt.below {w w' : World} {L U B : Nat} {a : Option Addr} {n : Nat} {l : List Nat} (h : IntsAt w L U a n l) (hb : Below B w w') (hU : U ≤ B) : IntsAt w' L U a n l := ⟨h.1, fun i hi => by
  obtain ⟨g, k, h1, h2, h3, h4, h5⟩ := h.2 i hi
  exact ⟨g, k, h1, h2, h3, h4, by rw [hb.cell (by simp; omega)]; exact h5⟩⟩

set_option maxHeartbeats 1000000 in
theorem equalFuncB (a a' : Option Addr) (n n' c c' : Nat) (bs : List LBase) (l : List Nat) (L U L' U' : Nat) (w : World) (hU : U ≤ w.heap.size) (hU' : U' ≤ w.heap.size) (hl : n' ≤ 1000000) (H : BasesAt w L U a n bs) (H' : IntsAt w L' U' a' n' l) :
    Calls Tryz.prog 158 #[.slice a n c, .slice a' n' c', .func (.func 159) #[] #[]] w fun e w' => e = .returned (.bool (basesFor bs l)) ∧ Below w.heap.size w w' := by
  have hbd := H.bd
  unfold maxLen at hbd
  by_cases hnn : n = n'
  case neg =>
    have hne : ((n : Int) != n') = true := by simp; omega
    have HN : Hid (basesFor bs l = false) := basesFor_len (by rw [← H.len, ← H'.1]; exact hnn)
    go_enter Tryz.func158, Tryz.ntmps158
    go_wp2_with fail
    go_ret
    exact ⟨ret_bool HN.out.symm, Below.refl _ _⟩
  subst hnn
  go_enter Tryz.func158, Tryz.ntmps158
  go_wp2_with fail
  go_loopg [17] n (fun g i wr => ∃ j : Nat, j ≤ n ∧ Hid (g = n - j) ∧ i = .int .i64 j ∧ Hid (∀ i, i < j → ∀ x y, bs[i]? = some x → l[i]? = some y → baseOf x y = true) ∧ Below w.heap.size w wr)
  case atStart => exact ⟨0, Nat.zero_le _, rfl, rfl, fun i hi => by omega, Below.refl _ _⟩
  case round =>
    obtain ⟨j, hj, hk, rfl, hq, hb⟩ := hrel
    have hzz := hb.size
    by_cases hlt : j < n
    · obtain ⟨b, off, ha, hL, hbU, hc⟩ := H.at_ (by omega)
      subst ha
      obtain ⟨x, he, c0, c1⟩ := hc j hlt
      obtain ⟨g, k, rfl, hg1, hg2, he2, d0⟩ := H'.2 j hlt
      rw [← hb.cell (by simp; omega)] at c0 c1 d0
      have HE : Hid (bs[j]? = some x ∧ l[j]? = some k) := ⟨he, he2⟩
      have hlt' : (j : Int) < (n : Int) := by omega
      have e0 : ∀ o, (wr.alloc o).cell? ⟨g, j, none⟩ = some (.int .i64 (k : Nat)) := fun o => by rw [((Below.refl wr.heap.size wr).alloc (Nat.le_refl _) o).cell (by simp; omega)]; exact d0
      have HCL := clos140 x k
      clear he he2 hc
      go_wp2_with fail
      refine (HCL _).mono ?_
      rintro e w1 ⟨rfl, hb1⟩
      have hbb : Below w.heap.size w w1 := (hb.alloc hb.size _).trans (hb1.mono (by simp; omega))
      rcases t : baseOf x k with _ | _
      · have HN : Hid (basesFor bs l = false) := basesFor_no HE.out.1 HE.out.2 t
        go_wp2_with fail
        go_ret
        exact ⟨ret_bool HN.out.symm, hbb⟩
      · have HT : Hid (baseOf x k = true) := t
        go_wp2_with fail
        go_roundg (n - (j + 1))
        case measure => have := hk.out; omega
        case rel =>
          refine ⟨j + 1, by omega, rfl, by go_num, fun i hi x' y' hx hy => ?_, hbb⟩
          by_cases e : i = j
          · subst e
            rw [HE.out.1] at hx
            rw [HE.out.2] at hy
            cases hx
            cases hy
            exact HT.out
          · exact hq.out i (by omega) x' y' hx hy
    · have HN : Hid (basesFor bs l = true) := basesFor_yes (by rw [← H.len, ← H'.1]) (fun i x y hx hy => hq.out i (by have := (List.getElem?_eq_some_iff.1 hx).1; have := H.len; omega) x y hx hy)
      go_wp2_with fail
      go_ret
      exact ⟨ret_bool HN.out.symm, hb⟩

set_option maxHeartbeats 2000000 in
set_option maxRecDepth 20000 in
theorem basesOk_any (q s : Int) (a : Option Addr) (n c : Nat) (a' : Option Addr) (n' c' : Nat) (l : LLog) (L U : Nat) (w : World) (hU : U ≤ w.heap.size) (hnc : n' ≤ c') (hcm : c' ≤ maxLen) (HB : BasesAt w L U a n l.bases) (HO : OpsAt w L U a' n' l.list) :
    Calls Tryz.prog 105 #[.agg #[.int .i64 q, .int .i64 s, .slice a n c, .slice a' n' c']] w fun e w' => e = .returned (.bool (basesFor l.bases (logIds l.list))) ∧ Below w.heap.size w w' := by
  go_enter Tryz.func105, Tryz.ntmps105
  go_upto_region 1 with fail
  obtain ⟨w2, hw2⟩ : ∃ W : World, W = w.alloc (Obj.cells #[.int .i64 q, .int .i64 s, .slice a n c, .slice a' n' c'] 125) := ⟨_, rfl⟩
  rw [← hw2]
  have HX : Hid (LogBox w2 w.heap.size q s a n c a' n' c') := ⟨by rw [hw2]; simp [go_sem], by rw [hw2]; simp [go_sem], by rw [hw2]; simp [go_sem], by rw [hw2]; simp [go_sem]⟩
  have hA : Below w.heap.size w w2 := by rw [hw2]; exact (Below.refl _ _).alloc (Nat.le_refl _) _
  have hz2 : w2.heap.size = w.heap.size + 1 := by rw [hw2]; simp
  have l1 : w.heap.size < w2.heap.size := by omega
  clear hw2
  go_cut [2] (fun x wx => x = .bool (basesFor l.bases (logIds l.list)) ∧ Below w2.heap.size w2 wx)
  case first =>
    refine wp_region_held_drew (S := (fun W => Below w2.heap.size w2 W)) (by kernel_rfl) ?_ (fun hHeld => ?_)
    · exact (Below.refl _ _).drew
    refine listH (l2 := #[false, false, false, false, false, false, false]) (by kernel_rfl) ?_
    refine takeH (i := 0) (oi := _) (v := ?v0) 3 #[true, false, false, false, false, false, false] rfl (by kernel_rfl) (by kernel_rfl) (by kernel_rfl) rfl (by kernel_rfl) (fun _ _ _ h => h) (Or.inl ⟨by rfl, ?y0⟩) (by assumption) ?r0
    case y0 => (intro w' hSw; (try dsimp only at hSw); have x0 := hSw.cell (p := ⟨w.heap.size, 0, none⟩) (by simpa using l1); have x1 := hSw.cell (p := ⟨w.heap.size, 1, none⟩) (by simpa using l1); have x2 := hSw.cell (p := ⟨w.heap.size, 2, none⟩) (by simpa using l1); have x3 := hSw.cell (p := ⟨w.heap.size, 3, none⟩) (by simpa using l1); rw [HX.out.c0] at x0; rw [HX.out.c1] at x1; rw [HX.out.c2] at x2; rw [HX.out.c3] at x3; go_simp; try with_reducible rfl)
    simp only [Act.put, List.setIfInBounds_toArray, List.set_cons_succ, List.set_cons_zero]
    refine takeH (i := 1) (oi := _) (v := ?v1) 4 #[true, true, false, false, false, false, false] rfl (by kernel_rfl) (by kernel_rfl) (by kernel_rfl) rfl (by kernel_rfl) (fun _ _ _ h => h) (Or.inl ⟨by rfl, ?y1⟩) (by assumption) ?r1
    case y1 => (intro w' hSw; (try dsimp only at hSw); have x0 := hSw.cell (p := ⟨w.heap.size, 0, none⟩) (by simpa using l1); have x1 := hSw.cell (p := ⟨w.heap.size, 1, none⟩) (by simpa using l1); have x2 := hSw.cell (p := ⟨w.heap.size, 2, none⟩) (by simpa using l1); have x3 := hSw.cell (p := ⟨w.heap.size, 3, none⟩) (by simpa using l1); rw [HX.out.c0] at x0; rw [HX.out.c1] at x1; rw [HX.out.c2] at x2; rw [HX.out.c3] at x3; go_simp; try with_reducible rfl)
    simp only [Act.put, List.setIfInBounds_toArray, List.set_cons_succ, List.set_cons_zero]
    refine takeH (i := 2) (oi := _) (v := ?v2) 5 #[true, true, true, false, false, false, false] rfl (by kernel_rfl) (by kernel_rfl) (by kernel_rfl) rfl (by kernel_rfl) (fun _ _ _ h => h) (Or.inl ⟨by rfl, ?y2⟩) (by assumption) ?r2
    case y2 => (intro w' hSw; (try dsimp only at hSw); have x0 := hSw.cell (p := ⟨w.heap.size, 0, none⟩) (by simpa using l1); have x1 := hSw.cell (p := ⟨w.heap.size, 1, none⟩) (by simpa using l1); have x2 := hSw.cell (p := ⟨w.heap.size, 2, none⟩) (by simpa using l1); have x3 := hSw.cell (p := ⟨w.heap.size, 3, none⟩) (by simpa using l1); rw [HX.out.c0] at x0; rw [HX.out.c1] at x1; rw [HX.out.c2] at x2; rw [HX.out.c3] at x3; go_simp; try with_reducible rfl)
    simp only [Act.put, List.setIfInBounds_toArray, List.set_cons_succ, List.set_cons_zero]
    refine takeH (i := 3) (oi := _) (v := ?v3) 6 #[true, true, true, true, false, false, false] rfl (by kernel_rfl) (by kernel_rfl) (by kernel_rfl) rfl (by kernel_rfl) (fun _ _ _ h => h) (Or.inl ⟨by rfl, ?y3⟩) (by assumption) ?r3
    case y3 => (intro w' hSw; (try dsimp only at hSw); have x0 := hSw.cell (p := ⟨w.heap.size, 0, none⟩) (by simpa using l1); have x1 := hSw.cell (p := ⟨w.heap.size, 1, none⟩) (by simpa using l1); have x2 := hSw.cell (p := ⟨w.heap.size, 2, none⟩) (by simpa using l1); have x3 := hSw.cell (p := ⟨w.heap.size, 3, none⟩) (by simpa using l1); rw [HX.out.c0] at x0; rw [HX.out.c1] at x1; rw [HX.out.c2] at x2; rw [HX.out.c3] at x3; go_simp; try with_reducible rfl)
    simp only [Act.put, List.setIfInBounds_toArray, List.set_cons_succ, List.set_cons_zero]
    refine wpAnyH_ready (rs := [4]) (by kernel_rfl) (by simp) ?_
    refine AllReadyH.cons (o := _) rfl (fun K hK => ?_) AllReadyH.nil
    go_simp
    refine (implLogIds _ _ _ _ L U _ (by simp; omega) hnc hcm (HO.below ((hA).drew) hU)).mono ?_
    rintro e w3 ⟨⟨v3, rfl, hv3⟩, hb3⟩
    obtain ⟨a3, c3, rfl, hI⟩ := hv3.out.at_
    have hB : Below w2.heap.size w2 w3 := (Below.refl _ _).drew.trans hb3
    go_wp2_with fail
    refine hK.out _ _ ?_ (fun hHeld => ?_)
    · exact hB
    clear hK K
    try simp only [Act.put]
    refine listH (l2 := #[true, true, true, true, true, false, false]) (by kernel_rfl) ?_
    refine wpAnyH_ready (rs := [5]) (by kernel_rfl) (by simp) ?_
    refine AllReadyH.cons (o := _) rfl (fun K hK => ?_) AllReadyH.nil
    go_simp
    refine (equalFuncB _ _ _ _ _ _ _ _ L U _ _ _ (by have := hB.size; omega) (Nat.le_refl _) (by have := logIds_le l.list; omega) (HB.below (hA.trans (hB.mono hA.size)) hU) hI).mono ?_
    rintro e w4 ⟨rfl, hb4⟩
    have hB4 : Below w2.heap.size w2 w4 := hB.trans (hb4.mono hB.size)
    go_wp2_with fail
    refine hK.out _ _ ?_ (fun hHeld => ?_)
    · exact hB4
    clear hK K
    try simp only [Act.put]
    refine listH (l2 := #[true, true, true, true, true, true, false]) (by kernel_rfl) ?_
    refine wpAnyH_ready (rs := [6]) (by kernel_rfl) (by simp) ?_
    refine AllReadyH.cons (o := _) rfl (fun K hK => ?_) AllReadyH.nil
    go_simp
    refine hK.out _ _ ?_ (fun hHeld => ?_)
    · exact hB4
    clear hK K
    try simp only [Act.put]
    refine listH (l2 := #[true, true, true, true, true, true, true]) (by kernel_rfl) ?_
    refine wpAnyH_done (by kernel_rfl) ?_ _
    go_wp2_with fail
    go_meet
    exact ⟨rfl, hB4⟩
  obtain ⟨rfl, hB⟩ := hcut
  go_wp2_with fail
  go_ret
  exact ⟨rfl, hA.trans (hB.mono hA.size)⟩

set_option maxHeartbeats 2000000 in
theorem implLogOk (q s : Int) (a : Option Addr) (n c : Nat) (a' : Option Addr) (n' c' : Nat) (l : LLog) (L U : Nat) (w : World) (hU : U ≤ w.heap.size) (hnc : n' ≤ c') (hcm : c' ≤ maxLen) (H : LogAt w L U q s a n a' n' l) :
    Calls Tryz.prog 44 #[.agg #[.int .i64 q, .int .i64 s, .slice a n c, .slice a' n' c']] w fun e w' => e = .returned (.bool (logOk l)) ∧ Below w.heap.size w w' := by
  have HV : Hid (logOk l = (whoB q s && formsB l.list && basesFor l.bases (logIds l.list))) := by show _ = _; unfold logOk; rw [H.q, H.s]
  have HB := H.b
  have HO := H.o
  clear H
  go_enter Tryz.func44, Tryz.ntmps44
  go_wp2_with fail
  refine (bundleOf_any _ _ _ _ _ _ _ _ _).mono ?_
  rintro e w1 ⟨rfl, hb1⟩
  have h1 : Below w.heap.size w w1 := ((Below.refl _ _).alloc (Nat.le_refl _) _).trans (hb1.mono (by simp))
  clear hb1
  go_wp2_with fail
  have h2 : Below w.heap.size w (w1.alloc (Obj.cells #[.int .i64 q, .int .i64 s, .slice a n c, .slice a' n' c'] 125)) := h1.alloc h1.size _
  have hz := h1.size
  refine (ownerOk_any _ _ _).mono ?_
  rintro e w3 ⟨rfl, hb3⟩
  have h3 : Below w.heap.size w w3 := h2.trans (hb3.mono (by simp; omega))
  have c0 : w3.cell? ⟨w1.heap.size, 0, none⟩ = some (.int .i64 q) := by rw [hb3.cell (by simp)]; simp [go_sem]
  have c1 : w3.cell? ⟨w1.heap.size, 1, none⟩ = some (.int .i64 s) := by rw [hb3.cell (by simp)]; simp [go_sem]
  have c2 : w3.cell? ⟨w1.heap.size, 2, none⟩ = some (.slice a n c) := by rw [hb3.cell (by simp)]; simp [go_sem]
  have c3 : w3.cell? ⟨w1.heap.size, 3, none⟩ = some (.slice a' n' c') := by rw [hb3.cell (by simp)]; simp [go_sem]
  have hz3 : w1.heap.size < w3.heap.size := by have := hb3.size; simp at this; omega
  clear hb3 h2 h1
  rcases t1 : whoB q s with _ | _
  · go_wp2_with fail
    go_ret
    exact ⟨ret_bool (by rw [HV.out, t1]; rfl), h3⟩
  go_wp2_with fail
  refine (listOk_any _ _ _ _ L U _ (by have := h3.size; omega) (HO.below h3 hU)).mono ?_
  rintro e w4 ⟨rfl, hb4⟩
  have h4 : Below w.heap.size w w4 := h3.trans (hb4.mono h3.size)
  have d0 : w4.cell? ⟨w1.heap.size, 0, none⟩ = some (.int .i64 q) := by rw [hb4.cell (by simpa using hz3)]; exact c0
  have d1 : w4.cell? ⟨w1.heap.size, 1, none⟩ = some (.int .i64 s) := by rw [hb4.cell (by simpa using hz3)]; exact c1
  have d2 : w4.cell? ⟨w1.heap.size, 2, none⟩ = some (.slice a n c) := by rw [hb4.cell (by simpa using hz3)]; exact c2
  have d3 : w4.cell? ⟨w1.heap.size, 3, none⟩ = some (.slice a' n' c') := by rw [hb4.cell (by simpa using hz3)]; exact c3
  clear c0 c1 c2 c3 hb4 h3
  rcases t2 : formsB l.list with _ | _
  · go_wp2_with fail
    go_ret
    exact ⟨ret_bool (by rw [HV.out, t1, t2]; rfl), h4⟩
  go_wp2_with fail
  refine (basesOk_any _ _ _ _ _ _ _ _ l L U _ (by have := h4.size; omega) hnc hcm (HB.below h4 hU) (HO.below h4 hU)).mono ?_
  rintro e w5 ⟨rfl, hb5⟩
  go_wp2_with fail
  go_ret
  exact ⟨ret_bool (by rw [HV.out, t1, t2]; rfl), h4.trans (hb5.mono h4.size)⟩
end Go.Proofs.YtnolbfijcnldjaaGreatDoor

/- Logs: what is ok, of the specification. -/
namespace Go.Proofs.YtnolbfijcnldjaaGreatDoor
open Go.RowKit

theorem baseOf_parts (x : LBase) (k : Nat) : ((x.id != (k : Int)) = false ∧ 0 ≤ x.ver ∧ x.ver ≤ 1000000 ∧ baseOf x k = true) ∨ ((x.id != (k : Int)) = true ∧ baseOf x k = false) ∨ ((x.id != (k : Int)) = false ∧ x.ver < 0 ∧ baseOf x k = false) ∨ ((x.id != (k : Int)) = false ∧ 0 ≤ x.ver ∧ 1000000 < x.ver ∧ baseOf x k = false) := by
  cases h0 : (x.id == (k : Int))
  · exact .inr (.inl ⟨by simp [bne, h0], by simp [baseOf, h0]⟩)
  · have h0' : (x.id != (k : Int)) = false := by simp [bne, h0]
    by_cases h1 : 0 ≤ x.ver
    · by_cases h2 : x.ver ≤ 1000000
      · exact .inl ⟨h0', h1, h2, by simp [baseOf, h0, h1, h2]⟩
      · exact .inr (.inr (.inr ⟨h0', h1, by omega, by simp [baseOf]; omega⟩))
    · exact .inr (.inr (.inl ⟨h0', by omega, by simp [baseOf]; omega⟩))

set_option maxHeartbeats 4000000 in
set_option maxRecDepth 20000 in
theorem specLogOk (q s : Int) (a : Option Addr) (n c : Nat) (a' : Option Addr) (n' c' : Nat) (l : LLog) (L U : Nat) (w : World) (hU : U ≤ w.heap.size) (H : LogAt w L U q s a n a' n' l) :
    Calls Tryz.prog 43 #[.agg #[.int .i64 q, .int .i64 s, .slice a n c, .slice a' n' c']] w fun e w' => e = .returned (.bool (logOk l)) ∧ Below w.heap.size w w' := by
  have HV : Hid (logOk l = (whoB q s && formsB l.list && basesFor l.bases (logIds l.list))) := by show _ = _; unfold logOk; rw [H.q, H.s]
  have HB := H.b
  have HO := H.o
  have hbd := HB.bd
  unfold maxLen at hbd
  clear H
  have hA : ∀ o1 : Obj, Below w.heap.size w (w.alloc o1) := fun o1 => (Below.refl _ _).alloc (Nat.le_refl _) _
  by_cases q0 : q < 0
  · go_enter Tryz.func43, Tryz.ntmps43
    go_wp2_with fail
    go_ret
    exact ⟨ret_bool (by rw [HV.out]; simp [whoB]; omega), hA _⟩
  by_cases q3 : 3 ≤ q
  · go_enter Tryz.func43, Tryz.ntmps43
    go_wp2_with fail
    go_ret
    exact ⟨ret_bool (by rw [HV.out]; simp [whoB]; omega), hA _⟩
  by_cases s1 : s < 1
  · go_enter Tryz.func43, Tryz.ntmps43
    go_wp2_with fail
    go_ret
    exact ⟨ret_bool (by rw [HV.out]; simp [whoB]; omega), hA _⟩
  by_cases s2 : 1000 < s
  · go_enter Tryz.func43, Tryz.ntmps43
    go_wp2_with fail
    go_ret
    exact ⟨ret_bool (by rw [HV.out]; simp [whoB]; omega), hA _⟩
  have HW : Hid (whoB q s = true) := by show _ = _; simp [whoB]; omega
  go_enter Tryz.func43, Tryz.ntmps43
  go_wp2_with fail
  refine (forms_any _ _ _ _ L U _ (by simp; omega) (HO.below (hA _) hU)).mono ?_
  rintro e w1 ⟨rfl, hb1⟩
  have h1 : Below w.heap.size w w1 := (hA _).trans (hb1.mono (by simp))
  have c2 : w1.cell? ⟨w.heap.size, 2, none⟩ = some (.slice a n c) := by rw [hb1.cell (by simp)]; simp [go_sem]
  have c3 : w1.cell? ⟨w.heap.size, 3, none⟩ = some (.slice a' n' c') := by rw [hb1.cell (by simp)]; simp [go_sem]
  have hz1 : w.heap.size < w1.heap.size := by have := hb1.size; simp at this; omega
  clear hb1
  rcases t1 : formsB l.list with _ | _
  · go_wp2_with fail
    go_ret
    exact ⟨ret_bool (by rw [HV.out, t1]; simp), h1⟩
  go_wp2_with fail
  refine (specLogIds _ _ _ _ L U _ (by have := h1.size; omega) (HO.below h1 hU)).mono ?_
  rintro e w2 ⟨⟨v2, rfl, hv2⟩, hb2⟩
  obtain ⟨a2, k2, rfl, hI⟩ := hv2.out.at_
  have h2 : Below w.heap.size w w2 := h1.trans (hb2.mono h1.size)
  have d2 : w2.cell? ⟨w.heap.size, 2, none⟩ = some (.slice a n c) := by rw [hb2.cell (by simpa using hz1)]; exact c2
  have hz2 := hb2.size
  obtain ⟨ids, hids⟩ : ∃ ids, ids = logIds l.list := ⟨_, rfl⟩
  have hle := logIds_le l.list
  rw [← hids] at hI hle
  have HV2 : Hid (logOk l = basesFor l.bases ids) := by show _ = _; rw [HV.out, HW.out, t1, hids]; simp
  have HIL : Hid (∃ m, m = ids.length) := ⟨_, rfl⟩
  rw [← hids]
  clear hids hv2 hb2 c2 c3
  obtain ⟨m, hm⟩ := HIL.out
  rw [← hm] at hI hle ⊢
  by_cases hnn : m = n
  case neg =>
    have hne : ((m : Int) != n) = true := by simp; omega
    have HN : Hid (basesFor l.bases ids = false) := basesFor_len (by rw [← HB.len, ← hI.1]; exact fun h => hnn h.symm)
    go_wp2_with fail
    go_ret
    exact ⟨ret_bool (by rw [HV2.out, HN.out]), h2⟩
  subst hnn
  go_wp2_with fail
  go_loopg [4] m (fun g i wr => ∃ j : Nat, j ≤ m ∧ Hid (g = m - j) ∧ i = .int .i64 j ∧ Hid (∀ i, i < j → ∀ x y, l.bases[i]? = some x → ids[i]? = some y → baseOf x y = true) ∧ ∃ q, wr = w2.drewN q)
  case atStart => exact ⟨0, Nat.zero_le _, rfl, rfl, fun i hi => by omega, 0, rfl⟩
  case round =>
    obtain ⟨j, hj, hk, rfl, hq, qq, rfl⟩ := hrel
    by_cases hlt : j < m
    · obtain ⟨b, off, ha, hL, hbU, hc⟩ := HB.at_ (by omega)
      subst ha
      obtain ⟨x, he, c0, c1⟩ := hc j hlt
      obtain ⟨g, k, rfl, hg1, hg2, he2, d0⟩ := hI.2 j hlt
      rw [← h2.cell (by simp; omega)] at c0 c1
      have HE : Hid (l.bases[j]? = some x ∧ ids[j]? = some k) := ⟨he, he2⟩
      have hlt' : (j : Int) < (m : Int) := by omega
      clear he he2 hc
      rcases baseOf_parts x k with ⟨t0, t1, t2, ht⟩ | ⟨t0, ht⟩ | ⟨t0, t1, ht⟩ | ⟨t0, t1, t2, ht⟩
      · have HT : Hid (baseOf x k = true) := ht
        clear ht
        go_wp2_with fail
        go_quiet (fail)
        go_wp2_with fail
        go_roundg (m - (j + 1))
        case measure => have := hk.out; omega
        case rel =>
          refine ⟨j + 1, by omega, rfl, by go_num, fun i hi x' y' hx hy => ?_, _, rfl⟩
          by_cases e : i = j
          · subst e
            rw [HE.out.1] at hx
            rw [HE.out.2] at hy
            cases hx
            cases hy
            exact HT.out
          · exact hq.out i (by omega) x' y' hx hy
      all_goals
        have HN : Hid (basesFor l.bases ids = false) := basesFor_no HE.out.1 HE.out.2 ht
        clear ht
        go_wp2_with fail
        go_quiet (fail)
        go_wp2_with fail
        go_ret
        exact ⟨ret_bool (by rw [HV2.out, HN.out]), by rw [World.drewN_drewN]; exact h2.trans ((Below.drewN _ _).mono h2.size)⟩
    · have HN : Hid (basesFor l.bases ids = true) := basesFor_yes (by rw [← HB.len, ← hI.1]) (fun i x y hx hy => hq.out i (by have := (List.getElem?_eq_some_iff.1 hx).1; have := HB.len; omega) x y hx hy)
      go_wp2_with fail
      go_ret
      exact ⟨ret_bool (by rw [HV2.out, HN.out]), h2.trans ((Below.drewN _ _).mono h2.size)⟩
end Go.Proofs.YtnolbfijcnldjaaGreatDoor

/- Logs: whether a log fits, of the program and of the specification. -/
namespace Go.Proofs.YtnolbfijcnldjaaGreatDoor
open Go.RowKit

def verAt (os : List LObj) (i : Int) : Int := (os[i.toNat]?.map LObj.ver).getD 0
def fitsV (os : List LObj) : List LBase → Bool × Int
  | [] => (true, -1)
  | x :: xs => if verAt os x.id = x.ver then fitsV os xs else (false, x.id)
def logFits (os : List LObj) (l : LLog) : Bool × Int := if specOk os && logOk l then fitsV os l.bases else (false, -1)
theorem basesFor_id : ∀ {xs : List LBase} {is : List Nat}, basesFor xs is = true → ∀ (j : Nat) x, xs[j]? = some x → ∃ i ∈ is, x.id = (i : Int)
  | [], _, _, _, _, h => by simp at h
  | _ :: _, [], h, _, _, _ => by simp [basesFor] at h
  | y :: xs, i :: is, h, 0, x, hx => by
    simp at hx; subst hx
    simp [basesFor, baseOf] at h
    exact ⟨i, by simp, h.1.1⟩
  | y :: xs, i :: is, h, j + 1, x, hx => by
    simp only [basesFor, Bool.and_eq_true] at h
    obtain ⟨k, hk, e⟩ := basesFor_id h.2 j x (by simpa using hx)
    exact ⟨k, by simp [hk], e⟩
theorem logOk_id {l : LLog} (h : logOk l = true) {j : Nat} {x : LBase} (hx : l.bases[j]? = some x) : ∃ i : Nat, x.id = (i : Int) ∧ i < 32 := by
  simp only [logOk, Bool.and_eq_true] at h
  obtain ⟨i, hi, e⟩ := basesFor_id h.2 j x hx
  exact ⟨i, e, logIds_bd _ i hi⟩
theorem specOk_32 {os : List LObj} (h : specOk os = true) : os.length = 32 := by
  unfold specOk at h
  rw [Bool.and_eq_true, Bool.and_eq_true, Bool.and_eq_true, decide_eq_true_eq] at h
  exact h.1.1.1
theorem drop_cons' {α : Type} {l : List α} {j : Nat} {x : α} (h : l[j]? = some x) : l.drop j = x :: l.drop (j + 1) := by
  have hj : j < l.length := (List.getElem?_eq_some_iff.1 h).1
  rw [List.drop_eq_getElem_cons hj, (List.getElem?_eq_some_iff.1 h).2]

set_option maxHeartbeats 4000000 in
set_option maxRecDepth 20000 in
theorem implLogFits (ta : Option Addr) (tn tc : Nat) (os : List LObj) (TL TU : Nat) (q s : Int) (a : Option Addr) (n c : Nat) (a' : Option Addr) (n' c' : Nat) (l : LLog) (L U : Nat) (w : World) (hT : TU ≤ w.heap.size) (hU : U ≤ w.heap.size) (hnc : n' ≤ c') (hcm : c' ≤ maxLen) (HT : ObjsAt w TL TU ta tn os) (H : LogAt w L U q s a n a' n' l) :
    Calls Tryz.prog 46 #[.agg #[.slice ta tn tc], .agg #[.int .i64 q, .int .i64 s, .slice a n c, .slice a' n' c']] w fun e w' => e = .returned (.tuple #[.bool (logFits os l).1, .int .i64 (logFits os l).2]) ∧ Below w.heap.size w w' := by
  have HB := H.b
  have hbd := HB.bd
  unfold maxLen at hbd
  obtain ⟨w0, hw0⟩ : ∃ W : World, W = (w.alloc (Obj.cells #[.slice ta tn tc] 25)).alloc (Obj.cells #[.int .i64 q, .int .i64 s, .slice a n c, .slice a' n' c'] 58) := ⟨_, rfl⟩
  have hA : Below w.heap.size w w0 := by rw [hw0]; exact ((Below.refl _ _).alloc (Nat.le_refl _) _).alloc (by simp) _
  have t0 : w0.cell? ⟨w.heap.size, 0, none⟩ = some (.slice ta tn tc) := by rw [hw0]; simp [go_sem]
  have x0 : w0.cell? ⟨w.heap.size + 1, 0, none⟩ = some (.int .i64 q) := by rw [hw0]; simp [go_sem]
  have x1 : w0.cell? ⟨w.heap.size + 1, 1, none⟩ = some (.int .i64 s) := by rw [hw0]; simp [go_sem]
  have x2 : w0.cell? ⟨w.heap.size + 1, 2, none⟩ = some (.slice a n c) := by rw [hw0]; simp [go_sem]
  have x3 : w0.cell? ⟨w.heap.size + 1, 3, none⟩ = some (.slice a' n' c') := by rw [hw0]; simp [go_sem]
  have hz0 : w0.heap.size = w.heap.size + 2 := by rw [hw0]; simp
  go_enter Tryz.func46, Tryz.ntmps46
  go_upto_region 1 with fail
  rw [← hw0]
  clear hw0
  go_wp2_with fail
  refine (implTreeOk _ _ _ os TL TU _ (by omega) (HT.below hA hT)).mono ?_
  rintro e w1 ⟨rfl, hb1⟩
  have hB1 : Below w.heap.size w w1 := hA.trans (hb1.mono hA.size)
  have hz1 := hb1.size
  rcases ho : specOk os with _ | _
  · have HV : Hid (logFits os l = (false, -1)) := by show _ = _; simp [logFits, ho]
    go_wp2_with fail
    exact bodyPost_ret (v := .tuple #[.bool false, .int .i64 (-1)]) (by simp [results, Tryz.results46, go_sem]) rfl ⟨by rw [HV.out], hB1⟩
  have y0 : w1.cell? ⟨w.heap.size + 1, 0, none⟩ = some (.int .i64 q) := by rw [hb1.cell (by simp; omega)]; exact x0
  have y1 : w1.cell? ⟨w.heap.size + 1, 1, none⟩ = some (.int .i64 s) := by rw [hb1.cell (by simp; omega)]; exact x1
  have y2 : w1.cell? ⟨w.heap.size + 1, 2, none⟩ = some (.slice a n c) := by rw [hb1.cell (by simp; omega)]; exact x2
  have y3 : w1.cell? ⟨w.heap.size + 1, 3, none⟩ = some (.slice a' n' c') := by rw [hb1.cell (by simp; omega)]; exact x3
  have s0 : w1.cell? ⟨w.heap.size, 0, none⟩ = some (.slice ta tn tc) := by rw [hb1.cell (by simp; omega)]; exact t0
  clear x0 x1 x2 x3 t0 hb1 hA
  go_wp2_with fail
  refine (implLogOk _ _ _ _ _ _ _ _ l L U _ (by omega) hnc hcm (H.below hB1 hU)).mono ?_
  rintro e w2 ⟨rfl, hb2⟩
  have hB2 : Below w.heap.size w w2 := hB1.trans (hb2.mono hB1.size)
  have hz2 := hb2.size
  rcases hl : logOk l with _ | _
  · have HV : Hid (logFits os l = (false, -1)) := by show _ = _; simp [logFits, hl]
    go_wp2_with fail
    exact bodyPost_ret (v := .tuple #[.bool false, .int .i64 (-1)]) (by simp [results, Tryz.results46, go_sem]) rfl ⟨by rw [HV.out], hB2⟩
  have HV : Hid (logFits os l = fitsV os l.bases) := by show _ = _; simp [logFits, ho, hl]
  have HID : Hid (∀ (j : Nat) x, l.bases[j]? = some x → ∃ i : Nat, x.id = (i : Int) ∧ i < 32) := fun j x hx => logOk_id hl hx
  have h32 : tn = 32 := by rw [HT.len, specOk_32 ho]
  have z2 : w2.cell? ⟨w.heap.size + 1, 2, none⟩ = some (.slice a n c) := by rw [hb2.cell (by simp; omega)]; exact y2
  have z0 : w2.cell? ⟨w.heap.size, 0, none⟩ = some (.slice ta tn tc) := by rw [hb2.cell (by simp; omega)]; exact s0
  clear y0 y1 y2 y3 s0 hb2 hB1 ho hl
  subst h32
  go_wp2_with fail
  go_loopg [19] n (fun g i wr => ∃ j : Nat, j ≤ n ∧ Hid (g = n - j) ∧ i = .int .i64 j ∧ Hid (logFits os l = fitsV os (l.bases.drop j)) ∧ Below w2.heap.size w2 wr)
  case atStart => exact ⟨0, Nat.zero_le _, rfl, rfl, HV.out, Below.refl _ _⟩
  case round =>
    clear HV
    obtain ⟨j, hj, hk, rfl, hv, hb⟩ := hrel
    have hzz := hb.size
    have hbw : Below w.heap.size w wr := hB2.trans (hb.mono hB2.size)
    by_cases hlt : j < n
    · obtain ⟨b, off, ha, hL, hbU, hc⟩ := HB.at_ (by omega)
      subst ha
      obtain ⟨x, he, c0, c1⟩ := hc j hlt
      obtain ⟨i, hxi, hi⟩ := HID.out j x he
      obtain ⟨tb, toff, rfl, hTL, hTU, htc⟩ := HT.at_ (by omega)
      obtain ⟨o, ka, kn, kc, hoi, _, _, g1, _⟩ := htc i (by omega)
      have HVR : Hid (verAt os x.id = o.ver) := by show _ = _; simp [verAt, hxi, hoi]
      rw [← hbw.cell (by simp; omega)] at c0 c1 g1
      rw [hxi] at c0
      have HE : Hid (l.bases.drop j = x :: l.bases.drop (j + 1)) := drop_cons' he
      have HXI : Hid (x.id = (i : Int)) := hxi
      have hlt' : (j : Int) < (n : Int) := by omega
      have hi' : (i : Int) < 32 := by omega
      have e0 : wr.cell? ⟨w.heap.size, 0, none⟩ = some (.slice (some ⟨tb, toff, none⟩) 32 tc) := by rw [hb.cell (by simp; omega)]; exact z0
      have hA9 : ∀ o9 : Obj, Below wr.heap.size wr (wr.alloc o9) := fun o9 => (Below.refl _ _).alloc (Nat.le_refl _) _
      have e1 : ∀ o9 : Obj, (wr.alloc o9).cell? ⟨w.heap.size, 0, none⟩ = some (.slice (some ⟨tb, toff, none⟩) 32 tc) := fun o9 => by rw [(hA9 o9).cell (by simp; omega)]; exact e0
      have g2 : ∀ o9 : Obj, (wr.alloc o9).cell? ⟨tb, toff + i * 4 + 1, none⟩ = some (.int .i64 o.ver) := fun o9 => by rw [(hA9 o9).cell (by simp; omega)]; exact g1
      clear he hc htc hoi hxi
      rcases hver : (o.ver == x.ver) with _ | _
      · have hv1 : (o.ver != x.ver) = true := by simp [bne, hver]
        have HF : Hid (logFits os l = (false, (i : Int))) := by
          show _ = _
          rw [hv.out, HE.out, fitsV, if_neg (by rw [HVR.out]; simpa using hver), HXI.out]
        go_wp2_with fail
        go_quiet (fail)
        go_wp2_with fail
        go_quiet (fail)
        go_wp2_with fail
        exact bodyPost_ret (v := .tuple #[.bool false, .int .i64 (i : Int)]) (by simp [results, Tryz.results46, go_sem]) rfl ⟨by rw [HF.out], by repeat (first | exact hbw.alloc (by omega) _ | (refine Below.trans ?_ ((Below.drewN _ _).mono (by simp; omega))))⟩
      · have hv1 : (o.ver != x.ver) = false := by simp [bne, hver]
        have HF : Hid (logFits os l = fitsV os (l.bases.drop (j + 1))) := by
          show _ = _
          rw [hv.out, HE.out, fitsV, if_pos (by rw [HVR.out]; simpa using hver)]
        go_wp2_with fail
        go_quiet (fail)
        go_wp2_with fail
        go_roundg (n - (j + 1))
        case measure => have := hk.out; omega
        case rel => exact ⟨j + 1, by omega, rfl, by go_num, HF.out, (hb.alloc hb.size _).trans ((Below.drewN _ _).mono (by simp; omega))⟩
    · have HF : Hid (logFits os l = (true, -1)) := by
        show _ = _
        rw [hv.out, List.drop_of_length_le (by have := HB.len; omega)]; rfl
      go_wp2_with fail
      exact bodyPost_ret (v := .tuple #[.bool true, .int .i64 (-1)]) (by simp [results, Tryz.results46, go_sem]) rfl ⟨by rw [HF.out], hbw⟩

end Go.Proofs.YtnolbfijcnldjaaGreatDoor

/- Logs: made, by the program and by the specification. -/
namespace Go.Proofs.YtnolbfijcnldjaaGreatDoor
open Go.RowKit

/-! Rows of bases, of one's own, that grow. -/
def baseCells (l : List LBase) : List Value := l.flatMap fun e => [Value.int .i64 e.id, Value.int .i64 e.ver]
theorem baseCells_len (l : List LBase) : (baseCells l).length = l.length * 2 := by
  induction l with
  | nil => rfl
  | cons o r ih => simp only [baseCells, List.flatMap_cons, List.length_append, List.length_cons] at ih ⊢; rw [ih]; simp; omega
theorem baseCells_app (l r : List LBase) : baseCells (l ++ r) = baseCells l ++ baseCells r := by simp [baseCells]
theorem baseCells_one (l : List LBase) : ∀ u ∈ baseCells l, u.oneCell' = true := by
  intro u hu
  simp only [baseCells, List.mem_flatMap] at hu
  obtain ⟨e, _, h⟩ := hu
  simp at h
  rcases h with rfl | rfl <;> rfl
theorem baseCells_at : ∀ (l : List LBase) (i : Nat) (e : LBase), l[i]? = some e → (baseCells l)[i * 2]? = some (.int .i64 e.id) ∧ (baseCells l)[i * 2 + 1]? = some (.int .i64 e.ver)
  | [], _, _, h => by simp at h
  | x :: l, 0, e, h => by simp at h; subst h; simp [baseCells]
  | x :: l, i + 1, e, h => by
    have := baseCells_at l i e (by simpa using h)
    have e1 : (i + 1) * 2 = i * 2 + 1 + 1 := by omega
    rw [e1]
    simpa [baseCells] using this
def OwnBases (w : World) (B : Nat) (v : Value) (l : List LBase) : Prop := w.ownsRow B 121 2 v l.length (baseCells l)
theorem OwnBases.bare (w : World) (B : Nat) : OwnBases w B (.slice none 0 0) [] := ⟨rfl, .inl ⟨rfl, rfl⟩⟩
theorem OwnBases.base {w : World} {B B' : Nat} {v : Value} {l : List LBase} (h : OwnBases w B v l) (hB : B' ≤ B) : OwnBases w B' v l := by
  rcases h with ⟨h0, h2⟩
  refine ⟨h0, ?_⟩
  rcases h2 with h2 | ⟨g', cap', cur, e, h3, h4⟩
  · exact .inl h2
  · exact .inr ⟨g', cap', cur, e, by omega, h4⟩
theorem infoBs : (Tryz.prog.info? 121).map (fun i => (i.zero, i.size, i.bytes)) = some (some (.agg #[.int .i64 0, .int .i64 0]), 2, 16) := by kernel_rfl
structure AppBEnd (w w' : World) (B : Nat) (u v : Value) (l : List LBase) : Prop where
  own : OwnBases w' B v l
  grown : w.grownBy w' u.ownBlock
theorem run_app_base (w : World) (ty : TypeId) (B : Nat) (u : Value) (l : List LBase) (e : LBase) (hown : OwnBases w B u l) (ad : Addr)
    (hnews : ∀ j u, (baseCells [e])[j]? = some u → w.cell? (ad.add j) = some u) (hbd : l.length + 1 ≤ 1000000) (hB : B ≤ w.heap.size) :
    ∃ v w', (Builtin.append_ #[56, 56] ty #[u, .slice (some ad) 1 1]).run Tryz.prog w = .ok v w' ∧ AppBEnd w w' B u v (l ++ [e]) := by
  obtain ⟨i0, hi, hz0, hz1, hz2⟩ := info_parts infoBs
  obtain ⟨v', w', hr, h2, h3, h4, h5⟩ := run_append_own_at (P := Tryz.prog) w B 56 ty 121 i0 _ 2 16 Tryz.underlying56 hi hz0 hz1 hz2 rfl (by decide) _ _ _ hown ad 1 1 (baseCells [e]) (baseCells_len _) hnews (baseCells_one _) (by unfold maxLen; omega) (by omega) hB
  exact ⟨v', w', hr, by unfold OwnBases; rw [baseCells_app, List.length_append]; exact h2, h3⟩
theorem wpList_app_base (w : World) {ops : Array Oper} {rest : List Oper} {o : Oper} {a : Act} {Q : Exit → Act → World → Prop} (hgd : o.guard = none) (s x : Operand)
    (ho : o.op = .call { callee := .builtin .append, args := #[s, x], argTypes := #[56, 56] }) (B : Nat) (u : Value) (l : List LBase) (e : LBase) (hown : OwnBases w B u l) (ad : Addr)
    (hs : a.eval s = u) (hx : a.eval x = .slice (some ad) 1 1)
    (hnews : ∀ j u, (baseCells [e])[j]? = some u → w.cell? (ad.add j) = some u) (hbd : l.length + 1 ≤ 1000000) (hB : B ≤ w.heap.size)
    (h : ∀ v w', AppBEnd w w' B u v (l ++ [e]) → wpList Tryz.prog ops Q rest (a.put o.dst v) w') : wpList Tryz.prog ops Q (o :: rest) a w := by
  obtain ⟨v', w', hr, h2⟩ := run_app_base w o.type B u l e hown ad hnews hbd hB
  refine wpList_plain hgd fun K hK => ?_
  unfold Oper.wp execOp
  simp only [ho, resolve, invoke, builtin, Sem.run_bind, Sem.run_pure, Result.andThen_ok, List.map_toArray, List.map_cons, List.map_nil, hs, hx, hr]
  exact hK _ _ (h v' w' h2)
theorem base_at {w : World} {e : LBase} {j : Nat} {u : Value} {q : Nat} (h : (baseCells [e])[j]? = some u) (hq : q = w.heap.size) : (w.alloc (Obj.cells #[.int .i64 e.id, .int .i64 e.ver] 121)).cell? ((⟨q, 0, none⟩ : Addr).add j) = some u := by
  subst hq
  have hadd : (⟨w.heap.size, 0, none⟩ : Addr).add j = ⟨w.heap.size, j, none⟩ := by unfold Addr.add; split <;> simp_all
  rw [hadd]
  have h1 : (#[Value.int .i64 e.id, Value.int .i64 e.ver] : Array Value)[j]? = some u := by simpa [baseCells] using h
  simp [go_sem, h1]

/-! The plain functions. -/
def basesL (os : List LObj) (ids : List Nat) : List LBase := ids.map fun (i : Nat) => ⟨(i : Int), verAt os (i : Int)⟩
def logMake (os : List LObj) (q s : Int) (ops : List LOp) : LLog := if specOk os && formsB ops then ⟨q, s, basesL os (logIds ops), ops⟩ else ⟨0, 0, [], []⟩
theorem basesL_snoc {os : List LObj} {ids : List Nat} {j i : Nat} (h : ids[j]? = some i) : basesL os (ids.take (j + 1)) = basesL os (ids.take j) ++ [⟨(i : Int), verAt os i⟩] := by
  rw [take_snocX h]; simp [basesL]
theorem basesL_len (os : List LObj) (ids : List Nat) : (basesL os ids).length = ids.length := by simp [basesL]

theorem OwnBases.form {w : World} {B : Nat} {v : Value} {l : List LBase} (h : OwnBases w B v l) : ∃ a c, v = .slice a l.length c := by
  rcases h.2 with ⟨e, h0⟩ | ⟨g, cap, cur, e, _⟩
  · exact ⟨none, 0, by rw [e, h0]⟩
  · exact ⟨_, _, e⟩
theorem OwnOps.formS {w : World} {B : Nat} {v : Value} {l : List LOp} (h : OwnOps w B v l) : ∃ a c, v = .slice a l.length c := by
  rcases h.2 with ⟨e, h0⟩ | ⟨g, cap, cur, e, _⟩
  · exact ⟨none, 0, by rw [e, h0]⟩
  · exact ⟨_, _, e⟩
theorem OwnBases.next {w w' : World} {B : Nat} {v : Value} {l : List LBase} (h : OwnBases w B v l) (hb : Below w.heap.size w w') : OwnBases w' B v l := by
  rcases h with ⟨h0, h2⟩
  refine ⟨h0, ?_⟩
  rcases h2 with h2 | ⟨g', cap', cur, e, h3, h4, h5⟩
  · exact .inl h2
  · exact .inr ⟨g', cap', cur, e, h3, by rw [hb.block g' (Array.getElem?_eq_some_iff.1 h4).1]; exact h4, h5⟩
theorem OwnBases.setLow {w : World} {B : Nat} {v : Value} {l : List LBase} (h : OwnBases w B v l) (p : Addr) (x : Value) (hp : p.block < B) : OwnBases (w.setCell p x) B v l := by
  rcases h with ⟨h0, h2⟩
  refine ⟨h0, ?_⟩
  rcases h2 with h2 | ⟨g', cap', cur, e, h3, h4, h5⟩
  · exact .inl h2
  · exact .inr ⟨g', cap', cur, e, h3, by rw [Below.heap_setCell w p x g' (by omega)]; exact h4, h5⟩
theorem OwnOps.setLow {w : World} {B : Nat} {v : Value} {l : List LOp} (h : OwnOps w B v l) (p : Addr) (x : Value) (hp : p.block < B) : OwnOps (w.setCell p x) B v l := by
  rcases h with ⟨h0, h2⟩
  refine ⟨h0, ?_⟩
  rcases h2 with h2 | ⟨g', cap', cur, e, h3, h4, h5⟩
  · exact .inl h2
  · exact .inr ⟨g', cap', cur, e, h3, by rw [Below.heap_setCell w p x g' (by omega)]; exact h4, h5⟩
/-- What a made log leaves. -/
def MakeEnd (w : World) (l : LLog) (e : Ending) (w' : World) : Prop := (∃ v1 v2, e = .returned (.agg #[.int .i64 l.who, .int .i64 l.seq, v1, v2]) ∧ OwnBases w' w.heap.size v1 l.bases ∧ OwnOps w' w.heap.size v2 l.list) ∧ Below w.heap.size w w'
end Go.Proofs.YtnolbfijcnldjaaGreatDoor
