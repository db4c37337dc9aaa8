import Derived.Test.YtkllejaamnojpaaSlimI
/- Lists that are made shorter: the program: texts. -/
namespace Go.Proofs.Ytkllejaamnojpaa
open Go.RowKit

theorem ends_any (k : Int) (w : World) : Calls Try.prog 114 #[.int .i64 k] w fun e w' => e = .returned (.bool (k == 3)) ∧ w' = w := by
  go_enter Try.func114, Try.ntmps114
  go_wp2
  go_ret
  exact ⟨rfl, rfl⟩
theorem makes_any (k : Int) (w : World) : Calls Try.prog 153 #[.int .i64 k] w fun e w' => e = .returned (.bool ((k == 1) || (k == 2))) ∧ w' = w := by
  rcases h : (k == 1) with _ | _
  all_goals
    go_enter Try.func153, Try.ntmps153
    go_wp2
    go_ret
    exact ⟨ret_bool rfl, rfl⟩

set_option maxHeartbeats 1000000 in
theorem listOk_any (a : Option Addr) (n c : Nat) (ops : List LOp) (L U : Nat) (w : World) (hU : U ≤ w.heap.size) (H : OpsAt w L U a n ops) :
    Calls Try.prog 64 #[.slice a n c] w fun e w' => e = .returned (.bool (formsB ops)) ∧ Below w.heap.size w w' := by
  have hbd := H.bd
  have hlen : Hid (n = ops.length) := H.len
  unfold maxLen at hbd
  by_cases h60 : 60 < n
  · have h60' : (60 : Int) < (n : Int) := by omega
    go_enter Try.func64, Try.ntmps64
    go_wp2_with fail
    go_ret
    exact ⟨ret_bool (by have := hlen.out; simp [formsB]; omega), Below.refl _ _⟩
  · have h60' : ¬ (60 : Int) < (n : Int) := by omega
    go_enter Try.func64, Try.ntmps64
    go_wp2_with fail
    go_loopg [10] n (fun g k wr => ∃ j : Nat, j ≤ n ∧ Hid (g = n - j) ∧ k = .int .i64 j ∧ Hid (formsB ops = (ops.drop j).all opOk) ∧ Below w.heap.size w wr)
    case atStart => exact ⟨0, Nat.zero_le _, rfl, rfl, by show _ = _; have := hlen.out; simp [formsB]; omega, Below.refl _ _⟩
    case round =>
      obtain ⟨j, hj, hk, rfl, hq, hb⟩ := hrel
      by_cases hlt : j < n
      · obtain ⟨b, off, ha, hL, hbU, hc⟩ := H.at_ (by omega)
        subst ha
        obtain ⟨x, he, hsz, hat⟩ := hc j hlt
        obtain ⟨d0, d1, d2, d3, d4, d5, d6⟩ := hat.of_block (hb.block b (by omega))
        have hlt' : (j : Int) < (n : Int) := by omega
        have HQ : Hid (formsB ops = (opOk x && (ops.drop (j + 1)).all opOk)) := by show _ = _; rw [hq.out, drop_cons he, List.all_cons]
        have HOK := fun w => implOpOk x w hsz
        simp only [LOp.val] at HOK
        clear he hc hq hat H
        go_wp2_with fail
        refine (HOK _).mono ?_
        rintro e w1 ⟨rfl, hb1⟩
        have hbb : Below w.heap.size w w1 := (hb.alloc hb.size _).trans (hb1.mono (by have := hb.size; simp; omega))
        rcases hx : opOk x with _ | _
        · have HY : Hid (formsB ops = false) := by show _ = _; rw [HQ.out, hx]; rfl
          clear HOK HQ
          go_wp2_with fail
          go_ret
          exact ⟨ret_bool HY.out.symm, hbb⟩
        · have HY : Hid (formsB ops = (ops.drop (j + 1)).all opOk) := by show _ = _; rw [HQ.out, hx]; rfl
          clear HOK HQ
          go_wp2_with fail
          go_roundg (n - (j + 1))
          case measure => have := hk.out; omega
          case rel => exact ⟨j + 1, by omega, rfl, by go_num, HY.out, hbb⟩
      · have HN : Hid (formsB ops = true) := by
          show _ = _
          rw [hq.out, List.drop_of_length_le (by have := hlen.out; omega)]; rfl
        go_wp2_with fail
        go_ret
        exact ⟨ret_bool HN.out.symm, hb⟩

theorem clos56 (x : LOp) (q : Nat) (id : Int) (w : World) (hq : q < w.heap.size) (h5 : w.cell? ⟨q, 5, none⟩ = some (.int .i64 id)) :
    Calls Try.prog 113 #[.agg x.val, .pointer (some ⟨q, 0, none⟩)] w fun e w' => e = .returned (.bool (voids id x)) ∧ Below w.heap.size w w' := by
  simp only [LOp.val]
  have hB : ∀ o1 : Obj, Below w.heap.size w (w.alloc o1) := fun o1 => (Below.refl _ _).alloc (Nat.le_refl _) _
  have h5' : ∀ o1 : Obj, (w.alloc o1).cell? ⟨q, 5, none⟩ = some (.int .i64 id) := fun o1 => by rw [(hB o1).cell (by simpa using hq)]; exact h5
  clear h5
  rcases t0 : (x.id == id) with _ | _
  · have HV : Hid (voids id x = false) := by show _ = _; unfold voids; rw [t0]; rfl
    go_enter Try.func113, Try.ntmps113
    go_wp2_with fail
    go_ret
    exact ⟨ret_bool (by rw [HV.out]), hB _⟩
  · rcases t1 : (x.kind == 5) with _ | _
    · have HV : Hid (voids id x = (x.kind == 3)) := by show _ = _; unfold voids; rw [t0, t1]; rfl
      go_enter Try.func113, Try.ntmps113
      go_wp2_with (first
        | (go_at_call 111; refine (writes_any _ _).mono ?_; rintro e w1 ⟨rfl, rfl⟩; rw [t1])
        | (go_at_call 114; refine (ends_any _ _).mono ?_; rintro e w1 ⟨rfl, rfl⟩))
      go_ret
      exact ⟨ret_bool (by rw [HV.out]), hB _⟩
    · have HV : Hid (voids id x = true) := by show _ = _; unfold voids; rw [t0, t1]; rfl
      go_enter Try.func113, Try.ntmps113
      go_wp2_with (first
        | (go_at_call 111; refine (writes_any _ _).mono ?_; rintro e w1 ⟨rfl, rfl⟩; rw [t1])
        | (go_at_call 114; refine (ends_any _ _).mono ?_; rintro e w1 ⟨rfl, rfl⟩))
      go_ret
      exact ⟨ret_bool (by rw [HV.out]), hB _⟩

def IdxEnd (b : Bool) (e : Ending) : Prop := ∃ r : Int, e = .returned (.int .i64 r) ∧ decide (0 ≤ r) = b
set_option maxHeartbeats 1000000 in
theorem index_any (a : Option Addr) (n c : Nat) (ops : List LOp) (L U q : Nat) (id : Int) (w : World) (hU : U ≤ w.heap.size) (hq : q < w.heap.size) (h5 : w.cell? ⟨q, 5, none⟩ = some (.int .i64 id)) (H : OpsAt w L U a n ops) :
    Calls Try.prog 152 #[.slice a n c, .func (.func 113) #[] #[.pointer (some ⟨q, 0, none⟩)]] w fun e w' => IdxEnd (ops.any (voids id)) e ∧ Below w.heap.size w w' := by
  have hbd := H.bd
  have hlen : Hid (n = ops.length) := H.len
  unfold maxLen at hbd
  have H5 : Hid (w.cell? ⟨q, 5, none⟩ = some (.int .i64 id)) := h5
  clear h5
  go_enter Try.func152, Try.ntmps152
  go_wp2_with fail
  go_loopg [8] n (fun g k wr => ∃ j : Nat, j ≤ n ∧ Hid (g = n - j) ∧ k = .int .i64 j ∧ Hid (ops.any (voids id) = (ops.drop j).any (voids id)) ∧ Below w.heap.size w wr)
  case atStart => exact ⟨0, Nat.zero_le _, rfl, rfl, rfl, Below.refl _ _⟩
  case round =>
    obtain ⟨j, hj, hk, rfl, hqq, hb⟩ := hrel
    by_cases hlt : j < n
    · obtain ⟨b, off, ha, hL, hbU, hc⟩ := H.at_ (by omega)
      subst ha
      obtain ⟨x, he, hsz, hat⟩ := hc j hlt
      obtain ⟨d0, d1, d2, d3, d4, d5, d6⟩ := hat.of_block (hb.block b (by omega))
      have hlt' : (j : Int) < (n : Int) := by omega
      have HQ : Hid (ops.any (voids id) = (voids id x || (ops.drop (j + 1)).any (voids id))) := by show _ = _; rw [hqq.out, any_drop he]
      have HC := clos56 x q id wr (by have := hb.size; omega) (by rw [hb.cell (by simpa using hq)]; exact H5.out)
      simp only [LOp.val] at HC
      clear he hc hqq hat H
      go_wp2_with fail
      refine HC.mono ?_
      rintro e w1 ⟨rfl, hb1⟩
      have hbb := hb.trans (hb1.mono hb.size)
      rcases hx : voids id x with _ | _
      · have HY : Hid (ops.any (voids id) = (ops.drop (j + 1)).any (voids id)) := by show _ = _; rw [HQ.out, hx]; rfl
        clear HC HQ hx
        go_wp2_with fail
        go_roundg (n - (j + 1))
        case measure => have := hk.out; omega
        case rel => exact ⟨j + 1, by omega, rfl, by go_num, HY.out, hbb⟩
      · have HY : Hid (ops.any (voids id) = true) := by show _ = _; rw [HQ.out, hx]; rfl
        clear HC HQ hx
        go_wp2_with fail
        go_ret
        exact ⟨⟨_, rfl, by rw [HY.out]; simp⟩, hbb⟩
    · have HN : Hid (ops.any (voids id) = false) := by
        show _ = _
        rw [hqq.out, List.drop_of_length_le (by have := hlen.out; omega)]; rfl
      go_wp2_with fail
      go_ret
      exact ⟨⟨_, rfl, by rw [HN.out]; rfl⟩, hb⟩
theorem contains_any (a : Option Addr) (n c : Nat) (ops : List LOp) (L U q : Nat) (id : Int) (w : World) (hU : U ≤ w.heap.size) (hq : q < w.heap.size) (h5 : w.cell? ⟨q, 5, none⟩ = some (.int .i64 id)) (H : OpsAt w L U a n ops) :
    Calls Try.prog 112 #[.slice a n c, .func (.func 113) #[] #[.pointer (some ⟨q, 0, none⟩)]] w fun e w' => e = .returned (.bool (ops.any (voids id))) ∧ Below w.heap.size w w' := by
  go_enter Try.func112, Try.ntmps112
  go_wp2_with fail
  refine (index_any a n c ops L U q id w hU hq h5 H).mono ?_
  rintro e w1 ⟨⟨r, rfl, hr⟩, hb1⟩
  have HR : Hid (decide (0 ≤ r) = ops.any (voids id)) := hr
  clear hr h5
  by_cases h0 : 0 ≤ r
  · have HA : Hid (ops.any (voids id) = true) := by show _ = _; rw [← HR.out]; simpa using h0
    go_wp2_with fail
    go_ret
    exact ⟨ret_bool (by rw [HA.out]), hb1⟩
  · have HA : Hid (ops.any (voids id) = false) := by show _ = _; rw [← HR.out]; simpa using h0
    go_wp2_with fail
    go_ret
    exact ⟨ret_bool (by rw [HA.out]; exact decide_eq_false (by omega)), hb1⟩

def goesText (ops : List LOp) (i : Nat) : Bool := match ops[i]? with
  | some o => (o.kind == 5) && voidB ops i
  | none => false
theorem voidB_at {ops : List LOp} {i : Nat} {o : LOp} (h : ops[i]? = some o) : voidB ops i = (ops.drop (i + 1)).any (voids o.id) := by unfold voidB; rw [h]
set_option maxHeartbeats 1000000 in
theorem isVoid_any (a : Option Addr) (n c : Nat) (ops : List LOp) (L U i : Nat) (w : World) (hi : i < n) (hnc : n ≤ c) (hU : U ≤ w.heap.size) (H : OpsAt w L U a n ops) :
    Calls Try.prog 67 #[.slice a n c, .int .i64 i] w fun e w' => e = .returned (.bool (goesText ops i)) ∧ Below w.heap.size w w' := by
  have hbd := H.bd
  have hlen : Hid (n = ops.length) := H.len
  unfold maxLen at hbd
  obtain ⟨b, off, ha, hL, hbU, hc⟩ := H.at_ (by omega)
  subst ha
  obtain ⟨o, he, hsz, hat⟩ := hc i hi
  obtain ⟨d0, d1, d2, d3, d4, d5, d6⟩ := hat
  have hiI : (i : Int) < (n : Int) := by omega
  have HG : Hid (goesText ops i = ((o.kind == 5) && voidB ops i)) := by show _ = _; unfold goesText; rw [he]
  have HV : Hid (voidB ops i = (ops.drop (i + 1)).any (voids o.id)) := voidB_at he
  have hB : Below w.heap.size w (w.alloc (.cells o.val 30)) := (Below.refl _ _).alloc (Nat.le_refl _) _
  have HW := H.below hB hU
  simp only [LOp.val] at HW hB
  clear hc he H
  rcases t0 : (o.kind == 5) with _ | _
  · have HR : Hid (goesText ops i = false) := by show _ = _; rw [HG.out, t0]; rfl
    clear HG HV
    go_enter Try.func67, Try.ntmps67
    go_wp2_with (go_at_call 111; refine (writes_any _ _).mono ?_; rintro e w1 ⟨rfl, rfl⟩; rw [t0])
    go_ret
    exact ⟨ret_bool (by rw [HR.out]), hB⟩
  · have HR : Hid (goesText ops i = (ops.drop (i + 1)).any (voids o.id)) := by show _ = _; rw [HG.out, t0, HV.out]; rfl
    clear HG HV
    by_cases hcc : i + 1 = c
    · subst hcc
      have hz : Hid (ops.drop (i + 1) = []) := List.drop_of_length_le (by have := hlen.out; omega)
      have hn1 : n = i + 1 := by omega
      go_enter Try.func67, Try.ntmps67
      go_wp2_with (go_at_call 111; refine (writes_any _ _).mono ?_; rintro e w1 ⟨rfl, rfl⟩; rw [t0])
      have h0 : i + 1 - (i + 1) = 0 := by omega
      subst hn1
      refine (contains_any _ _ _ [] w.heap.size w.heap.size w.heap.size o.id _ (by simp) (by simp) (by simp [go_sem]) (by first | exact OpsAt.none_ _ _ _ _ | (rw [h0]; exact OpsAt.none_ _ _ _ _))).mono ?_
      rintro e w1 ⟨rfl, hb1⟩
      go_wp2_with fail
      go_ret
      exact ⟨ret_bool (by rw [HR.out, hz.out]; rfl), hB.trans (hb1.mono (by simp))⟩
    · go_enter Try.func67, Try.ntmps67
      go_wp2_with (go_at_call 111; refine (writes_any _ _).mono ?_; rintro e w1 ⟨rfl, rfl⟩; rw [t0])
      refine (contains_any _ _ _ (ops.drop (i + 1)) L U w.heap.size o.id _ (by simp; omega) (by simp) (by simp [go_sem]) (HW.drop_ (by omega))).mono ?_
      rintro e w1 ⟨rfl, hb1⟩
      go_wp2_with fail
      go_ret
      exact ⟨ret_bool (by rw [HR.out]), hB.trans (hb1.mono (by simp))⟩
theorem clos35 (a : Option Addr) (n c : Nat) (ops : List LOp) (L U i q : Nat) (w : World) (hi : i < n) (hnc : n ≤ c) (hU : U ≤ w.heap.size) (hq : w.cell? ⟨q, 0, none⟩ = some (.slice a n c)) (H : OpsAt w L U a n ops) :
    Calls Try.prog 66 #[.int .i64 i, .pointer (some ⟨q, 0, none⟩)] w fun e w' => e = .returned (.bool (goesText ops i)) ∧ Below w.heap.size w w' := by
  go_enter Try.func66, Try.ntmps66
  go_wp2_with fail
  refine (isVoid_any a n c ops L U i w hi hnc hU H).mono ?_
  rintro e w1 ⟨rfl, hb1⟩
  go_wp2_with fail
  go_ret
  exact ⟨rfl, hb1⟩
theorem texts_same (ops : List LOp) : keepTo (fun i => !goesText ops i) ops ops.length = textsL ops := by
  unfold textsL
  refine keepTo_congr fun i _ hi => ?_
  unfold goesText textKeep
  rw [List.getElem?_eq_getElem hi]
  have : ∀ a b : Bool, (!(a && b)) = (!a || !b) := by decide
  simp [this, bne]
theorem implSlimTexts (a : Option Addr) (n c : Nat) (ops : List LOp) (L U : Nat) (w : World) (hnc : n ≤ c) (hU : U ≤ w.heap.size) (H : OpsAt w L U a n ops) :
    Calls Try.prog 19 #[.slice a n c] w (SlimEnd w (ifOk textsL ops)) := by
  have hB : Below w.heap.size w (w.alloc (.cells #[.slice a n c] 23)) := (Below.refl _ _).alloc (Nat.le_refl _) _
  have hq : (w.alloc (.cells #[.slice a n c] 23)).cell? ⟨w.heap.size, 0, none⟩ = some (.slice a n c) := by simp [go_sem]
  go_enter Try.func19, Try.ntmps19
  go_wp2_with fail
  refine (listOk_any a n c ops L U _ (by simp; omega) (H.below hB hU)).mono ?_
  rintro e w1 ⟨rfl, hb1⟩
  have hbb : Below w.heap.size w w1 := hB.trans (hb1.mono (by simp))
  have hq1 : w1.cell? ⟨w.heap.size, 0, none⟩ = some (.slice a n c) := by rw [hb1.cell (by simp)]; exact hq
  rcases hf : formsB ops with _ | _
  · have HR : Hid (ifOk textsL ops = []) := ifOk_no hf
    clear hf
    go_wp2_with fail
    go_ret
    exact ⟨⟨_, rfl, by rw [HR.out]; exact World.ownsRow_nil _ _ _ _⟩, hbb⟩
  · have HR : Hid (ifOk textsL ops = keepTo (fun i => !goesText ops i) ops n) := by show _ = _; rw [ifOk_yes hf, ← texts_same, ← H.len]
    have hl := formsB_len hf
    clear hf
    go_wp2_with fail
    refine (delete35 a n c ops L U ⟨w.heap.size, 0, none⟩ (goesText ops) w1 (by have := H.len; omega) (by have := hbb.size; omega) (H.below hbb hU) (fun j hj W hW => clos35 a n c ops L U j w.heap.size W hj hnc (by have := hbb.size; have := hW.size; omega) (by rw [hW.cell (by have := hb1.size; simp at this ⊢; omega)]; exact hq1) ((H.below hbb hU).below hW (by have := hbb.size; omega)))).mono ?_
    rintro e w2 hE
    obtain ⟨⟨v, rfl, ho⟩, hb2⟩ := hE.later hbb
    go_wp2_with fail
    go_ret
    exact ⟨⟨_, rfl, by rw [HR.out]; exact ho⟩, hb2⟩
end Go.Proofs.Ytkllejaamnojpaa
