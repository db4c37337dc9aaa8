/- Lemmas that the proofs of this seat share: KeepI, AllB. -/
import Derived.Test.YtloopeipheklpaaGreatDoorU19
import Derived.Test.YtloopeipheklpaaGreatDoorU07
import Derived.Deep.RegionWith
import Derived.RowKitTokens
/- KeepOk of the program. -/
namespace Go.Proofs.YtloopeipheklpaaGreatDoor
open Go.RowKit Go.ChangeShapes Go.WideShapes

theorem isNoOp_any (o : LOp) (w : World) (hs : OpSz o) : Calls Tryz.prog 151 #[.agg o.val] w fun e w' => e = .returned (.bool (!opOk o)) ∧ Below w.heap.size w w' := by
  have HOK := fun w => implOpOk o w hs
  simp only [LOp.val] at HOK ⊢
  go_enter Tryz.func151, Tryz.ntmps151
  go_wp2_with fail
  refine (HOK _).mono ?_
  rintro e w1 ⟨rfl, hb1⟩
  go_wp2_with fail
  go_ret
  exact ⟨rfl, ((Below.refl _ _).alloc (Nat.le_refl _) _).trans (hb1.mono (by simp))⟩
set_option maxHeartbeats 1000000 in
theorem indexBad (a : Option Addr) (n c : Nat) (ops : List LOp) (L U : Nat) (w : World) (hU : U ≤ w.heap.size) (H : OpsAt w L U a n ops) :
    Calls Tryz.prog 197 #[.slice a n c, .func (.func 151) #[] #[]] w fun e w' => (∃ r : Int, e = .returned (.int .i64 r) ∧ decide (0 ≤ r) = !ops.all opOk) ∧ Below w.heap.size w w' := by
  have hbd := H.bd
  have hlen : Hid (n = ops.length) := H.len
  unfold maxLen at hbd
  go_enter Tryz.func197, Tryz.ntmps197
  go_wp2_with fail
  go_loopg [8] n (fun g k wr => ∃ j : Nat, j ≤ n ∧ Hid (g = n - j) ∧ k = .int .i64 j ∧ Hid (ops.all opOk = (ops.drop j).all opOk) ∧ Below w.heap.size w wr)
  case atStart => exact ⟨0, Nat.zero_le _, rfl, rfl, by show _ = _; simp, Below.refl _ _⟩
  case round =>
    obtain ⟨j, hj, hk, rfl, hq, hb⟩ := hrel
    by_cases hlt : j < n
    · obtain ⟨b, off, ha, hL, hbU, hc⟩ := H.at_ (by omega)
      subst ha
      obtain ⟨x, he, hsz, hat⟩ := hc j hlt
      obtain ⟨d0, d1, d2, d3, d4, d5, d6⟩ := hat.of_block (hb.block b (by omega))
      have hlt' : (j : Int) < (n : Int) := by omega
      have HQ : Hid (ops.all opOk = (opOk x && (ops.drop (j + 1)).all opOk)) := by show _ = _; rw [hq.out, drop_cons he, List.all_cons]
      have HOK := fun w => isNoOp_any x w hsz
      simp only [LOp.val] at HOK
      clear he hc hq hat H
      go_wp2_with fail
      refine (HOK _).mono ?_
      rintro e w1 ⟨rfl, hb1⟩
      have hbb : Below w.heap.size w w1 := hb.trans (hb1.mono hb.size)
      rcases hx : opOk x with _ | _
      · have HY : Hid (ops.all opOk = false) := by show _ = _; rw [HQ.out, hx]; rfl
        clear HOK HQ
        go_wp2_with fail
        go_ret
        exact ⟨⟨_, rfl, by rw [HY.out]; simp⟩, hbb⟩
      · have HY : Hid (ops.all opOk = (ops.drop (j + 1)).all opOk) := by show _ = _; rw [HQ.out, hx]; rfl
        clear HOK HQ
        go_wp2_with fail
        go_roundg (n - (j + 1))
        case measure => have := hk.out; omega
        case rel => exact ⟨j + 1, by omega, rfl, by go_num, HY.out, hbb⟩
    · have HN : Hid (ops.all opOk = true) := by
        show _ = _
        rw [hq.out, List.drop_of_length_le (by have := hlen.out; omega)]; rfl
      go_wp2_with fail
      go_ret
      exact ⟨⟨-1, rfl, by rw [HN.out]; rfl⟩, hb⟩
theorem containsBad (a : Option Addr) (n c : Nat) (ops : List LOp) (L U : Nat) (w : World) (hU : U ≤ w.heap.size) (H : OpsAt w L U a n ops) :
    Calls Tryz.prog 150 #[.slice a n c, .func (.func 151) #[] #[]] w fun e w' => e = .returned (.bool (!ops.all opOk)) ∧ Below w.heap.size w w' := by
  go_enter Tryz.func150, Tryz.ntmps150
  go_wp2_with fail
  refine (indexBad _ _ _ ops L U _ hU H).mono ?_
  rintro e w1 ⟨⟨r, rfl, hr⟩, hb1⟩
  have HR := hidMk hr
  clear hr
  go_wp2_with fail
  go_ret
  exact ⟨ret_bool HR.out, hb1⟩
set_option maxHeartbeats 1000000 in
theorem implShelfOk (a : Option Addr) (n c : Nat) (xs : List (List LOp)) (L U : Nat) (w : World) (hU : U ≤ w.heap.size) (H : RowsAt 1 OpsE w L U a n xs) :
    Calls Tryz.prog 87 #[.slice a n c] w fun e w' => e = .returned (.bool (shelfB xs)) ∧ Below w.heap.size w w' := by
  have hbd := H.bd
  have hlen : Hid (n = xs.length) := H.len
  unfold maxLen at hbd
  by_cases h4 : 4 < n
  · have h4' : (4 : Int) < (n : Int) := by omega
    go_enter Tryz.func87, Tryz.ntmps87
    go_wp2_with fail
    go_ret
    exact ⟨ret_bool (by have := hlen.out; simp [shelfB]; omega), Below.refl _ _⟩
  have h4' : ¬ (4 : Int) < (n : Int) := by omega
  go_enter Tryz.func87, Tryz.ntmps87
  go_wp2_with fail
  go_loopg [10] n (fun g k wr => ∃ j : Nat, j ≤ n ∧ Hid (g = n - j) ∧ k = .int .i64 j ∧ Hid (shelfB xs = (xs.drop j).all (fun l => decide (l.length ≤ 120) && l.all opOk)) ∧ Below w.heap.size w wr)
  case atStart => exact ⟨0, Nat.zero_le _, rfl, rfl, by show _ = _; have := hlen.out; unfold shelfB; rw [decide_eq_true (by omega)]; simp, Below.refl _ _⟩
  case round =>
    obtain ⟨j, hj, hk, rfl, hq, hb⟩ := hrel
    by_cases hlt : j < n
    · obtain ⟨b, off, ha, hL, hbU, hc⟩ := H.at_ (by omega)
      subst ha
      obtain ⟨x, vs, he, hc, hE⟩ := hc j hlt
      obtain ⟨oa, on, oc, rfl, hO⟩ := hE
      have c0 := hc 0 _ rfl
      simp only [Nat.add_zero, Nat.mul_one] at c0
      rw [← hb.cell (by simp; omega)] at c0
      have hlt' : (j : Int) < (n : Int) := by omega
      have HQ : Hid (shelfB xs = ((decide (on ≤ 120) && x.all opOk) && (xs.drop (j + 1)).all (fun l => decide (l.length ≤ 120) && l.all opOk))) := by show _ = _; rw [hq.out, drop_cons he, List.all_cons, hO.len]
      have HO := hidMk (hO.below hb hU)
      have hon := hO.bd
      unfold maxLen at hon
      clear he hc hq hO
      by_cases h120 : 120 < on
      · have h120' : (120 : Int) < (on : Int) := by omega
        have HY : Hid (shelfB xs = false) := by show _ = _; rw [HQ.out, decide_eq_false (by omega)]; simp
        clear HQ
        go_wp2_with fail
        go_ret
        exact ⟨ret_bool HY.out.symm, hb⟩
      · have h120' : ¬ (120 : Int) < (on : Int) := by omega
        have HQ2 : Hid (shelfB xs = (x.all opOk && (xs.drop (j + 1)).all (fun l => decide (l.length ≤ 120) && l.all opOk))) := by show _ = _; rw [HQ.out, decide_eq_true (by omega)]; simp
        clear HQ
        go_wp2_with fail
        refine (containsBad _ _ _ x L U _ (by have := hb.size; omega) HO.out).mono ?_
        rintro e w1 ⟨rfl, hb1⟩
        have hbb : Below w.heap.size w w1 := hb.trans (hb1.mono hb.size)
        rcases hx : x.all opOk with _ | _
        · have HY : Hid (shelfB xs = false) := by show _ = _; rw [HQ2.out, hx]; rfl
          clear HQ2
          go_wp2_with fail
          go_ret
          exact ⟨ret_bool HY.out.symm, hbb⟩
        · have HY : Hid (shelfB xs = (xs.drop (j + 1)).all (fun l => decide (l.length ≤ 120) && l.all opOk)) := by show _ = _; rw [HQ2.out, hx]; rfl
          clear HQ2
          go_wp2_with fail
          go_roundg (n - (j + 1))
          case measure => have := hk.out; omega
          case rel => exact ⟨j + 1, by omega, rfl, by go_num, HY.out, hbb⟩
    · have HN : Hid (shelfB xs = true) := by
        show _ = _
        rw [hq.out, List.drop_of_length_le (by have := hlen.out; omega)]; rfl
      go_wp2_with fail
      go_ret
      exact ⟨ret_bool HN.out.symm, hb⟩

set_option maxHeartbeats 2000000 in
theorem implSentOk (q s : Int) (a : Option Addr) (n c : Nat) (b : Bool) (a1 : Option Addr) (n1 c1 : Nat) (a2 : Option Addr) (n2 c2 : Nat) (a3 : Option Addr) (n3 c3 : Nat) (w : World) (hn1 : n1 ≤ 9223372036854775807) :
    Calls Tryz.prog 86 #[.agg #[.int .i64 q, .int .i64 s, .slice a n c, .bool b, .slice a1 n1 c1, .slice a2 n2 c2, .slice a3 n3 c3]] w fun e w' => e = .returned (.bool (sentB s b n1)) ∧ Below w.heap.size w w' := by
  have hA : ∀ o, Below w.heap.size w (w.alloc o) := fun o => (Below.refl _ _).alloc (Nat.le_refl _) _
  rcases b with _ | _
  · by_cases h0 : 0 < n1
    · have h0' : (0 : Int) < (n1 : Int) := by omega
      have hV : Hid (sentB s false n1 = false) := by show _ = _; simp [sentB, h0]
      go_enter Tryz.func86, Tryz.ntmps86
      go_wp2_with fail
      go_ret
      exact ⟨ret_bool hV.out.symm, hA _⟩
    · have h0' : ¬ (0 : Int) < (n1 : Int) := by omega
      have hV : Hid (sentB s false n1 = ((decide (1 ≤ s) && decide (s ≤ 1000)) || (s == 0))) := by show _ = _; simp [sentB, h0]
      go_enter Tryz.func86, Tryz.ntmps86
      go_wp2_with fail
      refine (isLogNumber_any s _).mono ?_
      rintro e w1 ⟨rfl, rfl⟩
      rcases hx : (decide (1 ≤ s) && decide (s ≤ 1000)) with _ | _
      · have HX := hidMk hx
        clear hx
        by_cases hs0 : s = 0
        · subst hs0
          go_wp2_with fail
          go_ret
          exact ⟨ret_bool (by rw [hV.out]; rfl), hA _⟩
        · have hs1 : (s == 0) = false := by simpa using hs0
          have HS := hidMk hs1
          go_wp2_with fail
          go_ret
          exact ⟨ret_bool (by rw [hV.out, HX.out, HS.out]; rfl), hA _⟩
      · have HX := hidMk hx
        clear hx
        go_wp2_with fail
        go_ret
        exact ⟨ret_bool (by rw [hV.out, HX.out]; simp), hA _⟩
  · by_cases h0 : 0 < n1
    · have h0' : (0 : Int) < (n1 : Int) := by omega
      have hV : Hid (sentB s true n1 = (decide (1 ≤ s) && decide (s ≤ 1000))) := by show _ = _; simp [sentB, h0]
      go_enter Tryz.func86, Tryz.ntmps86
      go_wp2_with fail
      refine (isLogNumber_any s _).mono ?_
      rintro e w1 ⟨rfl, rfl⟩
      rcases hx : (decide (1 ≤ s) && decide (s ≤ 1000)) with _ | _
      · have HX := hidMk hx
        clear hx
        rcases hs0 : (s == 0) with _ | _
        · go_wp2_with fail
          go_ret
          exact ⟨ret_bool (by rw [hV.out, HX.out]), hA _⟩
        · go_wp2_with fail
          go_ret
          exact ⟨ret_bool (by rw [hV.out, HX.out]), hA _⟩
      · have HX := hidMk hx
        clear hx
        go_wp2_with fail
        go_ret
        exact ⟨ret_bool (by rw [hV.out, HX.out]), hA _⟩
    · have h0' : ¬ (0 : Int) < (n1 : Int) := by omega
      have hV : Hid (sentB s true n1 = false) := by show _ = _; simp [sentB, h0]
      go_enter Tryz.func86, Tryz.ntmps86
      go_wp2_with fail
      go_ret
      exact ⟨ret_bool hV.out.symm, hA _⟩

theorem implCanAll (sn : Nat → Addr) (S0 : Nat) (t la : Option Addr) (n c m lc : Nat) (os : List LObj) (ops : List LOp) (L U L2 U2 : Nat) (w : World) (hS0 : S0 ≤ w.heap.size) (HS : Sents w S0 sn) (hS : Sizes os 1048576) (hU : U ≤ w.heap.size) (H : ObjsAt w L U t n os) (hU2 : U2 ≤ w.heap.size) (H2 : OpsAt w L2 U2 la m ops) :
    Calls Tryz.prog 152 #[.agg #[.slice t n c], .slice la m lc] w fun e w' => e = .returned (.bool ((allR os ops).2.1 == 0)) ∧ Below w.heap.size w w' := by
  have hA : Below w.heap.size w (w.alloc (.cells #[.slice t n c] 26)) := (Below.refl _ _).alloc (Nat.le_refl _) _
  go_enter Tryz.func152, Tryz.ntmps152
  go_wp2_with fail
  refine (implActAll sn S0 _ _ _ _ _ _ os ops L U L2 U2 _ (by have := hA.size; omega) (HS.below hA hS0) hS (by have := hA.size; omega) (H.below hA hU) (by have := hA.size; omega) (H2.below hA hU2)).mono ?_
  rintro e w1 h1
  obtain ⟨ta, tn, tc, rfl, hO, hb1⟩ := h1.objsK
  have hB := hA.trans (hb1.mono hA.size)
  clear h1 hO hb1
  go_wp2_with fail
  go_ret
  exact ⟨ret_bool rfl, hB.trans ((Below.refl _ _).alloc hB.size _)⟩
set_option maxHeartbeats 2000000 in
theorem implViewOk (sn : Nat → Addr) (S0 : Nat) (q s : Int) (a : Option Addr) (n c : Nat) (b : Bool) (a1 : Option Addr) (n1 c1 : Nat) (a2 : Option Addr) (n2 c2 : Nat) (a3 : Option Addr) (n3 c3 : Nat) (k : LKeep) (L U : Nat) (w : World) (hS0 : S0 ≤ w.heap.size) (HS : Sents w S0 sn) (hS : Sizes k.base 1048576) (hU : U ≤ w.heap.size) (H : KeepAt w L U q s a n b a1 n1 a2 n2 a3 n3 k) :
    Calls Tryz.prog 88 #[.agg #[.int .i64 q, .int .i64 s, .slice a n c, .bool b, .slice a1 n1 c1, .slice a2 n2 c2, .slice a3 n3 c3]] w fun e w' => e = .returned (.bool (viewB k)) ∧ Below w.heap.size w w' := by
  have HB0 := hidMk (HeldB.new w #[.int .i64 q, .int .i64 s, .slice a n c, .bool b, .slice a1 n1 c1, .slice a2 n2 c2, .slice a3 n3 c3] 69)
  have HH := hidMk H
  clear H
  go_enter Tryz.func88, Tryz.ntmps88
  go_wp2_with fail
  have hA := HB0.out.below
  refine (implActAll sn S0 _ _ _ _ _ _ k.base k.sent L U L U _ (by have := hA.size; omega) (HS.below hA hS0) hS (by have := hA.size; omega) (HH.out.base.below hA hU) (by have := hA.size; omega) (HH.out.sent.below hA hU)).mono ?_
  rintro e w1 h1
  obtain ⟨ta, tn, tc, rfl, hO, hb1⟩ := h1.objsK
  have H1 := HB0.out.next hb1
  have HS1 := HS.below H1.below hS0
  have hz1 := hb1.size
  clear h1 HB0 hA
  rcases hc : ((allR k.base k.sent).2.1 == 0) with _ | _
  · have HX : Hid (viewB k = false) := by show _ = _; unfold viewB; rw [hc]; rfl
    generalize (allR k.base k.sent).2.1 = cd at hc
    generalize (allR k.base k.sent).2.2 = cp
    have hB := H1.below
    clear H1 hb1 hO
    go_wp2_with fail
    go_ret
    exact ⟨ret_bool HX.out.symm, hB.trans ((Below.refl _ _).alloc hB.size _)⟩
  have HX : Hid (viewB k = ((allR (allR k.base k.sent).1 k.list).2.1 == 0)) := by show _ = _; unfold viewB; rw [hc]; rfl
  have HZ := allR_sizes k.base k.sent
  generalize hmid : (allR k.base k.sent).1 = mid at hO HX HZ
  generalize (allR k.base k.sent).2.1 = cd at hc
  generalize (allR k.base k.sent).2.2 = cp
  clear hmid
  have hA2 : Below w1.heap.size w1 (w1.alloc (.cells #[.slice ta tn tc] 26)) := (Below.refl _ _).alloc (Nat.le_refl _) _
  have H2 := H1.next hA2
  have HS2 := HS1.below hA2 (by have := H1.below.size; omega)
  have hO2 := hO.below hA2 (Nat.le_refl _)
  have HH2 := hidMk (HH.out.list.below H2.below hU)
  have hB2 := H2.below
  obtain ⟨_, _, _, _, _, f5, _⟩ := H2.box.c7
  clear H1 H2 HS1 hb1 hO HH
  have hz2 := hA2.size
  have hB2s := hB2.size
  go_wp2_with fail
  refine (implCanAll sn S0 _ _ _ _ _ _ mid k.list _ _ L U _ (by omega) HS2 HZ hz2 hO2 (by omega) HH2.out).mono ?_
  rintro e w3 ⟨rfl, hb3⟩
  go_wp2_with fail
  go_ret
  exact ⟨ret_bool HX.out.symm, hB2.trans (hb3.mono hB2.size)⟩
set_option maxHeartbeats 2000000 in
theorem implKeepOk (sn : Nat → Addr) (S0 : Nat) (q s : Int) (a : Option Addr) (n c : Nat) (b : Bool) (a1 : Option Addr) (n1 c1 : Nat) (a2 : Option Addr) (n2 c2 : Nat) (a3 : Option Addr) (n3 c3 : Nat) (k : LKeep) (L U : Nat) (w : World) (hS0 : S0 ≤ w.heap.size) (HS : Sents w S0 sn) (hS : Sizes k.base 1048576) (hU : U ≤ w.heap.size) (H : KeepAt w L U q s a n b a1 n1 a2 n2 a3 n3 k) :
    Calls Tryz.prog 32 #[.agg #[.int .i64 q, .int .i64 s, .slice a n c, .bool b, .slice a1 n1 c1, .slice a2 n2 c2, .slice a3 n3 c3]] w fun e w' => e = .returned (.bool (keepOk k)) ∧ Below w.heap.size w w' := by
  have HV : Hid (keepOk k = (clientB q && sentB s b n1 && shelfB k.shelf && viewB k)) := by show _ = _; rw [keepOk_impl, H.q, H.s, H.b, H.sent.len]
  have hn1 := H.sent.bd
  unfold maxLen at hn1
  have HB0 := hidMk (HeldB.new w #[.int .i64 q, .int .i64 s, .slice a n c, .bool b, .slice a1 n1 c1, .slice a2 n2 c2, .slice a3 n3 c3] 69)
  have HH := hidMk H
  clear H
  go_enter Tryz.func32, Tryz.ntmps32
  go_wp2_with fail
  refine (isClient_any q _).mono ?_
  rintro e w1 ⟨rfl, rfl⟩
  have hB1 := HB0.out.below
  rcases hc : (decide (0 ≤ q) && decide (q < 3)) with _ | _
  · have HX : Hid (keepOk k = false) := by show _ = _; rw [HV.out, clientB, hc]; rfl
    clear hc HV HB0
    go_wp2_with fail
    go_ret
    exact ⟨ret_bool HX.out.symm, hB1⟩
  replace HV : Hid (keepOk k = (sentB s b n1 && shelfB k.shelf && viewB k)) := by show _ = _; rw [HV.out, clientB, hc]; simp
  clear hc
  go_wp2_with fail
  refine (implSentOk q s a n c b a1 n1 c1 a2 n2 c2 a3 n3 c3 _ (by omega)).mono ?_
  rintro e w2 ⟨rfl, hb2⟩
  have H2 := HB0.out.next hb2
  clear HB0 hb2 hB1
  rcases hc : sentB s b n1 with _ | _
  · have HX : Hid (keepOk k = false) := by show _ = _; rw [HV.out, hc]; rfl
    have hB := H2.below
    clear hc HV H2
    go_wp2_with fail
    go_ret
    exact ⟨ret_bool HX.out.symm, hB⟩
  replace HV : Hid (keepOk k = (shelfB k.shelf && viewB k)) := by show _ = _; rw [HV.out, hc]; simp
  clear hc
  obtain ⟨f0, f1, f2, f3, f4, f5, f6⟩ := H2.box.c7
  go_wp2_with fail
  refine (implShelfOk _ _ _ k.shelf L U _ (by have := H2.below.size; omega) (HH.out.shelf.below eltOps H2.below hU)).mono ?_
  rintro e w3 ⟨rfl, hb3⟩
  have H3 := H2.next hb3
  clear H2 hb3 f0 f1 f2 f3 f4 f5 f6
  rcases hc : shelfB k.shelf with _ | _
  · have HX : Hid (keepOk k = false) := by show _ = _; rw [HV.out, hc]; rfl
    have hB := H3.below
    clear hc HV H3
    go_wp2_with fail
    go_ret
    exact ⟨ret_bool HX.out.symm, hB⟩
  replace HV : Hid (keepOk k = viewB k) := by show _ = _; rw [HV.out, hc]; simp
  clear hc
  obtain ⟨f0, f1, f2, f3, f4, f5, f6⟩ := H3.box.c7
  have hB := H3.below
  go_wp2_with fail
  refine (implViewOk sn S0 q s a n c b a1 n1 c1 a2 n2 c2 a3 n3 c3 k L U _ (by have := hB.size; omega) (HS.below hB hS0) hS (by have := hB.size; omega) (HH.out.below hB hU)).mono ?_
  rintro e w4 ⟨rfl, hb4⟩
  clear f0 f1 f2 f3 f4 f5 f6 H3
  go_wp2_with fail
  go_ret
  exact ⟨ret_bool HV.out.symm, hB.trans (hb4.mono hB.size)⟩
end Go.Proofs.YtloopeipheklpaaGreatDoor

/- l3All and ActAll of the specification. -/
namespace Go.Proofs.YtloopeipheklpaaGreatDoor
open Go.RowKit

set_option maxHeartbeats 4000000 in
set_option maxRecDepth 20000 in
theorem l3All_any (a la : Option Addr) (n c m lc : Nat) (os : List LObj) (ops : List LOp) (L U L2 U2 : Nat) (w : World) (hS : Sizes os 1048576) (hs : specOk os = true) (hf : formsB ops = true) (hU : U ≤ w.heap.size) (H : ObjsAt w L U a n os) (hU2 : U2 ≤ w.heap.size) (H2 : OpsAt w L2 U2 la m ops) :
    Calls Tryz.prog 46 #[.agg #[.slice a n c], .slice la m lc] w fun e w' => AllEnd w (allGo os os ops 0) e w' := by
  have hbd := H2.bd
  unfold maxLen at hbd
  have HLN : Hid (n = os.length) := H.len
  have HN : Hid (n = 32) := by show _ = _; rw [HLN.out]; exact ok_len hs
  have HLM : Hid (m = ops.length) := H2.len
  have HSZ : Hid (∀ o ∈ os, o.text.size ≤ maxLen ∧ ∀ e ∈ o.kids, e.name.size ≤ maxLen) := H.sizes
  have HCP := fun w hU H => copy_any a n c os L U w (by rw [HN.out]; omega) (by rw [HN.out]; omega) hS hU H
  have hA : Below w.heap.size w ((w.alloc (.cells #[.slice a n c] 26)).alloc (.cells #[.slice none 0 0] 26)) := ((Below.refl _ _).alloc (Nat.le_refl _) _).alloc (by simp) _
  have hx : ((w.alloc (.cells #[.slice a n c] 26)).alloc (.cells #[.slice none 0 0] 26)).rowIs (w.heap.size + 1) 26 1 (zrow #[.slice none 0 0]) := by
    have := zrow_new (w.alloc (.cells #[.slice a n c] 26)) #[.slice none 0 0] 26
    simpa using this
  have ht : ((w.alloc (.cells #[.slice a n c] 26)).alloc (.cells #[.slice none 0 0] 26)).cell? ⟨w.heap.size, 0, none⟩ = some (.slice a n c) := by simp [go_sem]
  go_enter Tryz.func46, Tryz.ntmps46
  go_wp2_with fail
  refine (HCP _ (Nat.le_trans hU hA.size) (H.below hA hU)).mono ?_
  rintro e w1 ⟨⟨v, vs, rfl, hC⟩, hb1⟩
  have hB1 : Below w.heap.size w w1 := hA.trans (hb1.mono hA.size)
  obtain ⟨b1, c1, rfl, HOW⟩ := hC.out.done HLN.out (by rw [HN.out]; omega) HSZ.out
  have hz1 := hb1.size
  simp at hz1
  have hx1 := hx.of_block (hb1.block (w.heap.size + 1) hx.lt)
  have ht1 : w1.cell? ⟨w.heap.size, 0, none⟩ = some (.slice a n c) := by rw [hb1.cell (by simp; omega)]; exact ht
  have HOW1 : OwnT w1 (w.heap.size + 1 + 1) b1 c1 os vs := by simpa using HOW
  clear hC HOW hx ht hA hb1
  have hA2 : Below w1.heap.size w1 (w1.alloc (.cells #[.slice (some ⟨b1, 0, none⟩) n c1] 26)) := (Below.refl _ _).alloc (Nat.le_refl _) _
  have HZ0 : Hid (LZ w (w1.alloc (.cells #[.slice (some ⟨b1, 0, none⟩) n c1] 26)) w1.heap.size 26 a n c b1 c1) :=
    ⟨hB1.trans (hA2.mono hB1.size), by rw [hA2.cell (by simp; omega)]; exact ht1, ⟨_, hx1.of_block (hA2.block _ (by omega))⟩, by simp [go_sem], ⟨_, zrow_new w1 #[.slice (some ⟨b1, 0, none⟩) n c1] 26⟩, by omega, by simp⟩
  have HT0 : Hid (OwnT (w1.alloc (.cells #[.slice (some ⟨b1, 0, none⟩) n c1] 26)) (w.heap.size + 1 + 1) b1 c1 os vs) := HOW1.below hA2
  obtain ⟨T, hT⟩ : ∃ T, w1.heap.size = T := ⟨_, rfl⟩
  have HZT : Hid (LZ w (w1.alloc (.cells #[.slice (some ⟨b1, 0, none⟩) n c1] 26)) T 26 a n c b1 c1) := by have h9 := HZ0.out; rw [hT] at h9; exact h9
  have HFM : Hid (formsB ops = true) := hf
  have HSO : Hid (specOk os = true) := hs
  clear HZ0 HOW1 ht1 hx1 hA2 hB1 hf hs
  go_wp2_with fail
  clear hT hz1
  go_loopg [8] m (fun g i wr => ∃ j : Nat, j ≤ m ∧ Hid (g = m - j) ∧ i = .int .i64 j ∧ ∃ os' vs', Hid (LZ w wr T 26 a n c b1 c1) ∧ Hid (OwnT wr (w.heap.size + 1 + 1) b1 c1 os' vs') ∧ Hid (specOk os' = true) ∧ Hid (allGo os os ops 0 = allGo os os' (ops.drop j) j))
  case atStart => exact ⟨0, Nat.zero_le _, rfl, rfl, os, vs, HZT, HT0, HSO, by show _ = _; rw [List.drop_zero]⟩
  case round =>
    obtain ⟨j, hj, hg, rfl, os1, vs1, HZ, HT, HS1, HG⟩ := hrel
    clear HZT HT0
    by_cases hlt : j < m
    · obtain ⟨lb, off, ha, hL, hlb0, hcc⟩ := H2.at_ (by omega)
      obtain ⟨o, he, hsz, hat⟩ := hcc j hlt
      have hlb : lb < w.heap.size := by omega
      have HAT : Hid (OpAt w lb (off + j * 7) o) := hat
      have hltI : (j : Int) < (m : Int) := by omega
      have hok : opOk o = true := forms_op HFM.out he
      have HL : Hid (os1.length = n) := by show _ = _; rw [HN.out]; exact ok_len HS1.out
      have hDO := fun (B b c : Nat) (vs : Nat → Value) (w : World) hB H => do_any B b c n o os1 vs w hok HL.out.symm (by rw [HN.out]; omega) hB (ok_bd HS1.out) hsz H
      simp only [LOp.val] at hDO
      obtain ⟨r, hr⟩ : ∃ r, r = actDo os1 o := ⟨_, rfl⟩
      rw [← hr] at hDO
      have hDO := hDO (w.heap.size + 1 + 1)
      have HRL : Hid (r.1.length = n) := by show _ = _; rw [hr, actDo_len]; exact HL.out
      have HRO : Hid (r.2 = 0 → specOk r.1 = true) := fun h => by rw [hr]; exact act_ok HS1.out hok (by rw [← hr]; exact h)
      have HG1 : Hid (allGo os os ops 0 = if r.2 = 0 then allGo os r.1 (ops.drop (j + 1)) (j + 1) else (os, r.2, j)) := by show _ = _; rw [HG.out, allGo_step os os1 he, ← hr]
      subst ha
      clear hat hcc he hr HG hok
      have x0 := HZ.out.x
      go_upto_region 5 with fail
      have HZ5 := HZ.out.next (Below.refl _ _).drew
      have HT5 := HT.out.below (Below.refl _ _).drew
      clear x0
      go_cut [9, 10] (fun p k wx => ∃ q vs4, p = .pointer (some ⟨q, 0, none⟩) ∧ k = .int .i64 r.2 ∧ Hid (LZ w wx T 26 a n c b1 c1) ∧ Hid (YB wx q n b1 c1) ∧ Hid (OwnT wx (w.heap.size + 1 + 1) b1 c1 r.1 vs4) ∧ T < q)
      case first =>
        refine wp_region_held_drew (S := (fun W => LZ w W T 26 a n c b1 c1)) (by kernel_rfl) ?_ (fun hHeld => ?_)
        · exact HZ5
        refine listH (l2 := #[false, false, false, false, false, false, false, false, false, false, false, false]) (by kernel_rfl) ?_
        refine takeH (i := 0) (oi := _) (v := ?vs0) 20 #[true, false, false, false, false, false, false, false, false, false, false, false] rfl (by kernel_rfl) (by kernel_rfl) (by kernel_rfl) rfl (by kernel_rfl) (fun _ _ _ h => h) (Or.inl ⟨by rfl, ?ys0⟩) (by assumption) ?rs0
        case ys0 => (intro w' hSw; (try dsimp only at hSw); have x0 := hSw.x; obtain ⟨d0, d1, d2, d3, d4, d5, d6⟩ := HAT.out.of_block (hSw.below.block lb hlb); go_simp; try with_reducible rfl)
        simp only [Act.put, List.setIfInBounds_toArray, List.set_cons_succ, List.set_cons_zero]
        refine takeH (i := 1) (oi := _) (v := ?vs1) 21 #[true, true, false, false, false, false, false, false, false, false, false, false] rfl (by kernel_rfl) (by kernel_rfl) (by kernel_rfl) rfl (by kernel_rfl) (fun _ _ _ h => h) (Or.inl ⟨by rfl, ?ys1⟩) (by assumption) ?rs1
        case ys1 => (intro w' hSw; (try dsimp only at hSw); have x0 := hSw.x; obtain ⟨d0, d1, d2, d3, d4, d5, d6⟩ := HAT.out.of_block (hSw.below.block lb hlb); go_simp; try with_reducible rfl)
        simp only [Act.put, List.setIfInBounds_toArray, List.set_cons_succ, List.set_cons_zero]
        refine takeH (i := 2) (oi := _) (v := ?vs2) 22 #[true, true, true, false, false, false, false, false, false, false, false, false] rfl (by kernel_rfl) (by kernel_rfl) (by kernel_rfl) rfl (by kernel_rfl) (fun _ _ _ h => h) (Or.inl ⟨by rfl, ?ys2⟩) (by assumption) ?rs2
        case ys2 => (intro w' hSw; (try dsimp only at hSw); have x0 := hSw.x; obtain ⟨d0, d1, d2, d3, d4, d5, d6⟩ := HAT.out.of_block (hSw.below.block lb hlb); go_simp; try with_reducible rfl)
        simp only [Act.put, List.setIfInBounds_toArray, List.set_cons_succ, List.set_cons_zero]
        refine takeH (i := 3) (oi := _) (v := ?vs3) 23 #[true, true, true, true, false, false, false, false, false, false, false, false] rfl (by kernel_rfl) (by kernel_rfl) (by kernel_rfl) rfl (by kernel_rfl) (fun _ _ _ h => h) (Or.inl ⟨by rfl, ?ys3⟩) (by assumption) ?rs3
        case ys3 => (intro w' hSw; (try dsimp only at hSw); have x0 := hSw.x; obtain ⟨d0, d1, d2, d3, d4, d5, d6⟩ := HAT.out.of_block (hSw.below.block lb hlb); go_simp; try with_reducible rfl)
        simp only [Act.put, List.setIfInBounds_toArray, List.set_cons_succ, List.set_cons_zero]
        refine takeH (i := 4) (oi := _) (v := ?vs4) 24 #[true, true, true, true, true, false, false, false, false, false, false, false] rfl (by kernel_rfl) (by kernel_rfl) (by kernel_rfl) rfl (by kernel_rfl) (fun _ _ _ h => h) (Or.inl ⟨by rfl, ?ys4⟩) (by assumption) ?rs4
        case ys4 => (intro w' hSw; (try dsimp only at hSw); have x0 := hSw.x; obtain ⟨d0, d1, d2, d3, d4, d5, d6⟩ := HAT.out.of_block (hSw.below.block lb hlb); go_simp; try with_reducible rfl)
        simp only [Act.put, List.setIfInBounds_toArray, List.set_cons_succ, List.set_cons_zero]
        refine wpAnyH_ready (rs := [5, 9]) (by kernel_rfl) (by simp) ?_
        refine AllReadyH.cons (o := _) rfl (fun K hK => ?_) (AllReadyH.cons (o := _) rfl (fun K hK => ?_) AllReadyH.nil)
        · go_simp
          refine (hDO b1 c1 vs1 _ (by have := hHeld.lo; have := hHeld.lt; omega) HT5).mono ?_
          rintro e w4 ⟨vs4, rfl, HOW4, hb4, hk4⟩
          have HZ4 := hHeld.call (by decide) HL.out HT5 hb4 hk4
          rw [HRL.out]
          go_wp2_with fail
          refine hK.out _ _ HZ4 (fun hHeld => ?_)
          clear hK K
          try simp only [Act.put]
          refine listH (l2 := #[true, true, true, true, true, true, false, false, false, false, false, false]) (by kernel_rfl) ?_
          refine takeH (i := 6) (oi := _) (v := ?vsf6) 19 #[true, true, true, true, true, true, true, false, false, false, false, false] rfl (by kernel_rfl) (by kernel_rfl) (by kernel_rfl) rfl (by kernel_rfl) (fun _ _ _ h => h) (Or.inl ⟨by rfl, ?ysf6⟩) (by assumption) ?rsf6
          case ysf6 => (intro w' hSw; (try dsimp only at hSw); have x0 := hSw.x; obtain ⟨d0, d1, d2, d3, d4, d5, d6⟩ := HAT.out.of_block (hSw.below.block lb hlb); go_simp; try with_reducible rfl)
          simp only [Act.put, List.setIfInBounds_toArray, List.set_cons_succ, List.set_cons_zero]
          refine takeH (i := 7) (oi := _) (v := ?vsf7) 26 #[true, true, true, true, true, true, true, true, false, false, false, false] rfl (by kernel_rfl) (by kernel_rfl) (by kernel_rfl) rfl (by kernel_rfl) (fun _ _ _ h => h) (Or.inl ⟨by rfl, ?ysf7⟩) (by assumption) ?rsf7
          case ysf7 => (intro w' hSw; (try dsimp only at hSw); have x0 := hSw.x; obtain ⟨d0, d1, d2, d3, d4, d5, d6⟩ := HAT.out.of_block (hSw.below.block lb hlb); go_simp; try with_reducible rfl)
          simp only [Act.put, List.setIfInBounds_toArray, List.set_cons_succ, List.set_cons_zero]
          refine takeH (i := 8) (oi := _) (v := ?vsf8) 27 #[true, true, true, true, true, true, true, true, true, false, false, false] rfl (by kernel_rfl) (by kernel_rfl) (by kernel_rfl) rfl (by kernel_rfl) (fun _ _ _ h => h) (Or.inl ⟨by rfl, ?ysf8⟩) (by assumption) ?rsf8
          case ysf8 => (intro w' hSw; (try dsimp only at hSw); have x0 := hSw.x; obtain ⟨d0, d1, d2, d3, d4, d5, d6⟩ := HAT.out.of_block (hSw.below.block lb hlb); go_simp; try with_reducible rfl)
          simp only [Act.put, List.setIfInBounds_toArray, List.set_cons_succ, List.set_cons_zero]
          refine wpAnyH_ready (rs := [9]) (by kernel_rfl) (by simp) ?_
          refine AllReadyH.cons (o := _) rfl (fun K hK => ?_) AllReadyH.nil
          refine st_alloc31 _ 9 ?_
          intro q6 V6 hq6 hb6 R6
          have lt6 := R6.lt
          have lo6 : T < q6 := by have := HZ4.lt; omega
          clear hq6
          refine hK.out _ _ (hHeld.next hb6) (fun hHeld => ?_)
          clear hK K
          try simp only [Act.put]
          refine listH (l2 := #[true, true, true, true, true, true, true, true, true, true, false, false]) (by kernel_rfl) ?_
          refine wpAnyH_ready (rs := [10]) (by kernel_rfl) (by simp) ?_
          refine AllReadyH.cons (o := _) rfl (fun K hK => ?_) AllReadyH.nil
          refine st_store31 _ 9 26 q6 _ _ _ rfl rfl R6 ?_
          intro V7 hB7 g7 hE7
          refine hK.out _ _ (hHeld.but hB7 lo6) (fun hHeld => ?_)
          clear hK K
          try simp only [Act.put]
          refine listH (l2 := #[true, true, true, true, true, true, true, true, true, true, true, false]) (by kernel_rfl) ?_
          refine wpAnyH_ready (rs := [11]) (by kernel_rfl) (by simp) ?_
          refine AllReadyH.cons (o := _) rfl (fun K hK => ?_) AllReadyH.nil
          go_simp
          refine hK.out _ _ hHeld (fun hHeld => ?_)
          clear hK K
          try simp only [Act.put]
          refine listH (l2 := #[true, true, true, true, true, true, true, true, true, true, true, true]) (by kernel_rfl) ?_
          refine wpAnyH_done (by kernel_rfl) ?_ _
          go_wp2_with fail
          go_meet
          exact ⟨q6, vs4, rfl, rfl, hHeld, ⟨g7, by have := R6.lt; have := hB7.below.size; omega⟩, by rw [hE7.out]; exact (HOW4.below hb6).setBox ⟨_, R6⟩ 0 _, lo6⟩
        · refine st_alloc31 _ 9 ?_
          intro q6 V6 hq6 hb6 R6
          have lt6 := R6.lt
          have lo6 : T < q6 := by have := HZ5.lt; omega
          clear hq6
          refine hK.out _ _ (hHeld.next hb6) (fun hHeld => ?_)
          clear hK K
          try simp only [Act.put]
          refine listH (l2 := #[true, true, true, true, true, false, false, false, false, true, false, false]) (by kernel_rfl) ?_
          have HT6 := HT5.below hb6
          refine wpAnyH_ready (rs := [5]) (by kernel_rfl) (by simp) ?_
          refine AllReadyH.cons (o := _) rfl (fun K hK => ?_) AllReadyH.nil
          go_simp
          refine (hDO b1 c1 vs1 _ (by have := hHeld.lo; have := hHeld.lt; omega) HT6).mono ?_
          rintro e w4 ⟨vs4, rfl, HOW4, hb4, hk4⟩
          have HZ4 := hHeld.call (by decide) HL.out HT6 hb4 hk4
          rw [HRL.out]
          go_wp2_with fail
          have e6 := hk4 q6 lt6 (HT6.far (by decide) R6).1 (fun i hi => (HT6.far (by decide) R6).2 i (by have := HL.out; omega))
          have R6 := R6.of_block e6
          refine hK.out _ _ HZ4 (fun hHeld => ?_)
          clear hK K
          try simp only [Act.put]
          refine listH (l2 := #[true, true, true, true, true, true, false, false, false, true, false, false]) (by kernel_rfl) ?_
          refine takeH (i := 6) (oi := _) (v := ?vsfg6) 19 #[true, true, true, true, true, true, true, false, false, true, false, false] rfl (by kernel_rfl) (by kernel_rfl) (by kernel_rfl) rfl (by kernel_rfl) (fun _ _ _ h => h) (Or.inl ⟨by rfl, ?ysfg6⟩) (by assumption) ?rsfg6
          case ysfg6 => (intro w' hSw; (try dsimp only at hSw); have x0 := hSw.x; obtain ⟨d0, d1, d2, d3, d4, d5, d6⟩ := HAT.out.of_block (hSw.below.block lb hlb); go_simp; try with_reducible rfl)
          simp only [Act.put, List.setIfInBounds_toArray, List.set_cons_succ, List.set_cons_zero]
          refine takeH (i := 7) (oi := _) (v := ?vsfg7) 26 #[true, true, true, true, true, true, true, true, false, true, false, false] rfl (by kernel_rfl) (by kernel_rfl) (by kernel_rfl) rfl (by kernel_rfl) (fun _ _ _ h => h) (Or.inl ⟨by rfl, ?ysfg7⟩) (by assumption) ?rsfg7
          case ysfg7 => (intro w' hSw; (try dsimp only at hSw); have x0 := hSw.x; obtain ⟨d0, d1, d2, d3, d4, d5, d6⟩ := HAT.out.of_block (hSw.below.block lb hlb); go_simp; try with_reducible rfl)
          simp only [Act.put, List.setIfInBounds_toArray, List.set_cons_succ, List.set_cons_zero]
          refine takeH (i := 8) (oi := _) (v := ?vsfg8) 27 #[true, true, true, true, true, true, true, true, true, true, false, false] rfl (by kernel_rfl) (by kernel_rfl) (by kernel_rfl) rfl (by kernel_rfl) (fun _ _ _ h => h) (Or.inl ⟨by rfl, ?ysfg8⟩) (by assumption) ?rsfg8
          case ysfg8 => (intro w' hSw; (try dsimp only at hSw); have x0 := hSw.x; obtain ⟨d0, d1, d2, d3, d4, d5, d6⟩ := HAT.out.of_block (hSw.below.block lb hlb); go_simp; try with_reducible rfl)
          simp only [Act.put, List.setIfInBounds_toArray, List.set_cons_succ, List.set_cons_zero]
          refine wpAnyH_ready (rs := [10]) (by kernel_rfl) (by simp) ?_
          refine AllReadyH.cons (o := _) rfl (fun K hK => ?_) AllReadyH.nil
          refine st_store31 _ 9 26 q6 _ _ _ rfl rfl R6 ?_
          intro V7 hB7 g7 hE7
          refine hK.out _ _ (hHeld.but hB7 lo6) (fun hHeld => ?_)
          clear hK K
          try simp only [Act.put]
          refine listH (l2 := #[true, true, true, true, true, true, true, true, true, true, true, false]) (by kernel_rfl) ?_
          refine wpAnyH_ready (rs := [11]) (by kernel_rfl) (by simp) ?_
          refine AllReadyH.cons (o := _) rfl (fun K hK => ?_) AllReadyH.nil
          go_simp
          refine hK.out _ _ hHeld (fun hHeld => ?_)
          clear hK K
          try simp only [Act.put]
          refine listH (l2 := #[true, true, true, true, true, true, true, true, true, true, true, true]) (by kernel_rfl) ?_
          refine wpAnyH_done (by kernel_rfl) ?_ _
          go_wp2_with fail
          go_meet
          exact ⟨q6, vs4, rfl, rfl, hHeld, ⟨g7, by have := R6.lt; have := hB7.below.size; omega⟩, by rw [hE7.out]; exact (HOW4).setBox ⟨_, R6⟩ 0 _, lo6⟩
      obtain ⟨q, vs4, rfl, rfl, HZ7, HY7, HT7, hTq⟩ := hcut
      obtain ⟨W7, rfl⟩ : ∃ W7, W7 = wc := ⟨_, rfl⟩
      clear HZ5 HT5 HZ HT hDO HAT
      by_cases hr0 : r.2 = 0
      · have t0 : (r.2 == 0) = true := by simp [hr0]
        have HG2 : Hid (allGo os os ops 0 = allGo os r.1 (ops.drop (j + 1)) (j + 1)) := by show _ = _; rw [HG1.out, if_pos hr0]
        have HS2 : Hid (specOk r.1 = true) := HRO.out hr0
        clear hr0 HG1 HRO
        have y0 := HY7.out.box
        have y1 := HZ7.out.x
        obtain ⟨f7, x7⟩ := HZ7.out.xr
        have z7 := x7.frozen 0
        have lt7 := x7.lt
        have HZ8 : Hid (LZ w (W7.setCell ⟨T, 0, none⟩ (.slice (some ⟨b1, 0, none⟩) n c1)) T 26 a n c b1 c1) := HZ7.out.put (by decide)
        have HT8 : Hid (OwnT (W7.setCell ⟨T, 0, none⟩ (.slice (some ⟨b1, 0, none⟩) n c1)) (w.heap.size + 1 + 1) b1 c1 r.1 vs4) := HT7.out.setBox ⟨_, x7⟩ 0 _
        clear HZ7 HY7 HT7 x7 lt7
        go_wp2_with fail
        go_roundg (m - (j + 1))
        case measure => have := hg.out; omega
        case rel => exact ⟨j + 1, by omega, rfl, by go_num, r.1, vs4, HZ8, HT8, HS2, HG2⟩
      · have t0 : (r.2 == 0) = false := by simp [hr0]
        have HG2 : Hid (allGo os os ops 0 = (os, r.2, j)) := by show _ = _; rw [HG1.out, if_neg hr0]
        clear hr0 HG1 HRO HT7 HY7
        have y0 := HZ7.out.t
        go_wp2_with fail
        refine (HCP _ (Nat.le_trans hU HZ7.out.below.size) (H.below HZ7.out.below hU)).mono ?_
        rintro e w8 ⟨⟨v, vs8, rfl, hC⟩, hb8⟩
        obtain ⟨b8, c8, rfl, HOW⟩ := hC.out.done HLN.out (by rw [HN.out]; omega) HSZ.out
        obtain ⟨f8, r8⟩ := (HZ7.out.next hb8).r
        have z8 := r8.frozen 0
        have q8 := r8.cell (i := 0) (by omega)
        have hz8 := HZ7.out.below.size
        clear hC y0
        go_wp2_with fail
        refine bodyPost_ret (v := Value.tuple #[.agg #[.slice (some ⟨b8, 0, none⟩) n c8], .int .i64 r.2, .int .i64 j]) (by rw [results, Tryz.results46]; simp [go_sem, World.cell?_setCell_same _ _ _ q8]) rfl ⟨.inr ⟨b8, c8, vs8, by rw [HG2.out, HLN.out], ?_⟩, ?_⟩
        · rw [HG2.out]; exact (HOW.setBox ⟨_, r8⟩ 0 _).base' hz8
        · exact ((HZ7.out.next hb8).below).setCell (by show _ ≤ _ + 1; omega) _
    · have HG2 : Hid (allGo os os ops 0 = (os1, 0, m)) := by
        show _ = _
        have : j = m := by omega
        subst this
        rw [HG.out, allGo_end _ _ (by rw [HLM.out]; exact Nat.le_refl _)]
      have HL : Hid (os1.length = n) := by show _ = _; rw [HN.out]; exact ok_len HS1.out
      have hjm : ¬ ((j : Int) < (m : Int)) := by omega
      have y0 := HZ.out.x
      obtain ⟨f8, r8⟩ := HZ.out.r
      have z8 := r8.frozen 0
      have q8 := r8.cell (i := 0) (by omega)
      clear HG
      go_wp2_with fail
      refine bodyPost_ret (v := Value.tuple #[.agg #[.slice (some ⟨b1, 0, none⟩) n c1], .int .i64 0, .int .i64 m]) (by rw [results, Tryz.results46]; simp [go_sem, World.cell?_setCell_same _ _ _ q8]) rfl ⟨.inr ⟨b1, c1, vs1, by rw [HG2.out, HL.out], ?_⟩, ?_⟩
      · rw [HG2.out]; exact (HT.out.setBox ⟨_, r8⟩ 0 _).base' (by omega)
      · exact (HZ.out.below).setCell (by show _ ≤ _ + 1; omega) _

end Go.Proofs.YtloopeipheklpaaGreatDoor
