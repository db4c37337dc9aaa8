import Derived.Test.YtnfegihemhidgaaLogD
import Derived.Test.YtnfegihemhidgaaMsgA2
import Derived.Test.YtnfegihemhidgaaSpecOk
import Derived.Deep.RegionHeld3
/- Logs: what is ok, of the specification. -/
namespace Go.Proofs.Ytnfegihemhidgaa
open Go.RowKit

theorem baseOf_parts (x : LBase) (k : Nat) : ((x.id != (k : Int)) = false ∧ 0 ≤ x.ver ∧ x.ver ≤ 1000000 ∧ baseOf x k = true) ∨ ((x.id != (k : Int)) = true ∧ baseOf x k = false) ∨ ((x.id != (k : Int)) = false ∧ x.ver < 0 ∧ baseOf x k = false) ∨ ((x.id != (k : Int)) = false ∧ 0 ≤ x.ver ∧ 1000000 < x.ver ∧ baseOf x k = false) := by
  cases h0 : (x.id == (k : Int))
  · exact .inr (.inl ⟨by simp [bne, h0], by simp [baseOf, h0]⟩)
  · have h0' : (x.id != (k : Int)) = false := by simp [bne, h0]
    by_cases h1 : 0 ≤ x.ver
    · by_cases h2 : x.ver ≤ 1000000
      · exact .inl ⟨h0', h1, h2, by simp [baseOf, h0, h1, h2]⟩
      · exact .inr (.inr (.inr ⟨h0', h1, by omega, by simp [baseOf]; omega⟩))
    · exact .inr (.inr (.inl ⟨h0', by omega, by simp [baseOf]; omega⟩))

set_option maxHeartbeats 4000000 in
set_option maxRecDepth 20000 in
theorem specLogOk (q s : Int) (a : Option Addr) (n c : Nat) (a' : Option Addr) (n' c' : Nat) (l : LLog) (L U : Nat) (w : World) (hU : U ≤ w.heap.size) (H : LogAt w L U q s a n a' n' l) :
    Calls Try.prog 16 #[.agg #[.int .i64 q, .int .i64 s, .slice a n c, .slice a' n' c']] w fun e w' => e = .returned (.bool (logOk l)) ∧ Below w.heap.size w w' := by
  have HV : Hid (logOk l = (whoB q s && formsB l.list && basesFor l.bases (logIds l.list))) := by show _ = _; unfold logOk; rw [H.q, H.s]
  have HB := H.b
  have HO := H.o
  have hbd := HB.bd
  unfold maxLen at hbd
  clear H
  have hA : ∀ o1 : Obj, Below w.heap.size w (w.alloc o1) := fun o1 => (Below.refl _ _).alloc (Nat.le_refl _) _
  by_cases q0 : q < 0
  · go_enter Try.func16, Try.ntmps16
    go_wp2_with fail
    go_ret
    exact ⟨ret_bool (by rw [HV.out]; simp [whoB]; omega), hA _⟩
  by_cases q3 : 3 ≤ q
  · go_enter Try.func16, Try.ntmps16
    go_wp2_with fail
    go_ret
    exact ⟨ret_bool (by rw [HV.out]; simp [whoB]; omega), hA _⟩
  by_cases s1 : s < 1
  · go_enter Try.func16, Try.ntmps16
    go_wp2_with fail
    go_ret
    exact ⟨ret_bool (by rw [HV.out]; simp [whoB]; omega), hA _⟩
  by_cases s2 : 1000 < s
  · go_enter Try.func16, Try.ntmps16
    go_wp2_with fail
    go_ret
    exact ⟨ret_bool (by rw [HV.out]; simp [whoB]; omega), hA _⟩
  have HW : Hid (whoB q s = true) := by show _ = _; simp [whoB]; omega
  go_enter Try.func16, Try.ntmps16
  go_wp2_with fail
  refine (forms_any _ _ _ _ L U _ (by simp; omega) (HO.below (hA _) hU)).mono ?_
  rintro e w1 ⟨rfl, hb1⟩
  have h1 : Below w.heap.size w w1 := (hA _).trans (hb1.mono (by simp))
  have c2 : w1.cell? ⟨w.heap.size, 2, none⟩ = some (.slice a n c) := by rw [hb1.cell (by simp)]; simp [go_sem]
  have c3 : w1.cell? ⟨w.heap.size, 3, none⟩ = some (.slice a' n' c') := by rw [hb1.cell (by simp)]; simp [go_sem]
  have hz1 : w.heap.size < w1.heap.size := by have := hb1.size; simp at this; omega
  clear hb1
  rcases t1 : formsB l.list with _ | _
  · go_wp2_with fail
    go_ret
    exact ⟨ret_bool (by rw [HV.out, t1]; simp), h1⟩
  go_wp2_with fail
  refine (specLogIds _ _ _ _ L U _ (by have := h1.size; omega) (HO.below h1 hU)).mono ?_
  rintro e w2 ⟨⟨v2, rfl, hv2⟩, hb2⟩
  obtain ⟨a2, k2, rfl, hI⟩ := hv2.out.at_
  have h2 : Below w.heap.size w w2 := h1.trans (hb2.mono h1.size)
  have d2 : w2.cell? ⟨w.heap.size, 2, none⟩ = some (.slice a n c) := by rw [hb2.cell (by simpa using hz1)]; exact c2
  have hz2 := hb2.size
  obtain ⟨ids, hids⟩ : ∃ ids, ids = logIds l.list := ⟨_, rfl⟩
  have hle := logIds_le l.list
  rw [← hids] at hI hle
  have HV2 : Hid (logOk l = basesFor l.bases ids) := by show _ = _; rw [HV.out, HW.out, t1, hids]; simp
  have HIL : Hid (∃ m, m = ids.length) := ⟨_, rfl⟩
  rw [← hids]
  clear hids hv2 hb2 c2 c3
  obtain ⟨m, hm⟩ := HIL.out
  rw [← hm] at hI hle ⊢
  by_cases hnn : m = n
  case neg =>
    have hne : ((m : Int) != n) = true := by simp; omega
    have HN : Hid (basesFor l.bases ids = false) := basesFor_len (by rw [← HB.len, ← hI.1]; exact fun h => hnn h.symm)
    go_wp2_with fail
    go_ret
    exact ⟨ret_bool (by rw [HV2.out, HN.out]), h2⟩
  subst hnn
  go_wp2_with fail
  go_loopg [4] m (fun g i wr => ∃ j : Nat, j ≤ m ∧ Hid (g = m - j) ∧ i = .int .i64 j ∧ Hid (∀ i, i < j → ∀ x y, l.bases[i]? = some x → ids[i]? = some y → baseOf x y = true) ∧ ∃ q, wr = w2.drewN q)
  case atStart => exact ⟨0, Nat.zero_le _, rfl, rfl, fun i hi => by omega, 0, rfl⟩
  case round =>
    obtain ⟨j, hj, hk, rfl, hq, qq, rfl⟩ := hrel
    by_cases hlt : j < m
    · obtain ⟨b, off, ha, hL, hbU, hc⟩ := HB.at_ (by omega)
      subst ha
      obtain ⟨x, he, c0, c1⟩ := hc j hlt
      obtain ⟨g, k, rfl, hg1, hg2, he2, d0⟩ := hI.2 j hlt
      rw [← h2.cell (by simp; omega)] at c0 c1
      have HE : Hid (l.bases[j]? = some x ∧ ids[j]? = some k) := ⟨he, he2⟩
      have hlt' : (j : Int) < (m : Int) := by omega
      clear he he2 hc
      rcases baseOf_parts x k with ⟨t0, t1, t2, ht⟩ | ⟨t0, ht⟩ | ⟨t0, t1, ht⟩ | ⟨t0, t1, t2, ht⟩
      · have HT : Hid (baseOf x k = true) := ht
        clear ht
        go_wp2_with fail
        go_quiet (fail)
        go_wp2_with fail
        go_roundg (m - (j + 1))
        case measure => have := hk.out; omega
        case rel =>
          refine ⟨j + 1, by omega, rfl, by go_num, fun i hi x' y' hx hy => ?_, _, rfl⟩
          by_cases e : i = j
          · subst e
            rw [HE.out.1] at hx
            rw [HE.out.2] at hy
            cases hx
            cases hy
            exact HT.out
          · exact hq.out i (by omega) x' y' hx hy
      all_goals
        have HN : Hid (basesFor l.bases ids = false) := basesFor_no HE.out.1 HE.out.2 ht
        clear ht
        go_wp2_with fail
        go_quiet (fail)
        go_wp2_with fail
        go_ret
        exact ⟨ret_bool (by rw [HV2.out, HN.out]), by rw [World.drewN_drewN]; exact h2.trans ((Below.drewN _ _).mono h2.size)⟩
    · have HN : Hid (basesFor l.bases ids = true) := basesFor_yes (by rw [← HB.len, ← hI.1]) (fun i x y hx hy => hq.out i (by have := (List.getElem?_eq_some_iff.1 hx).1; have := HB.len; omega) x y hx hy)
      go_wp2_with fail
      go_ret
      exact ⟨ret_bool (by rw [HV2.out, HN.out]), h2.trans ((Below.drewN _ _).mono h2.size)⟩
end Go.Proofs.Ytnfegihemhidgaa

/- Messages: what is ok. -/
namespace Go.Proofs.Ytnfegihemhidgaa
open Go.RowKit

def noneL (l : LLog) : Bool := (l.who == 0) && (l.seq == 0) && l.bases.isEmpty && l.list.isEmpty
def nothing : LLog := ⟨0, 0, [], []⟩
theorem listEq_nil {α : Type} (f : α → α → Bool) (l : List α) : listEq f l [] = l.isEmpty := by cases l <;> rfl
theorem logEq_nothing (l : LLog) : logEq l nothing = noneL l := by simp [logEq, noneL, nothing, listEq_nil]
def logPart (b : Bool) (who seq : Int) (l : LLog) : Bool := if b = true then logOk l && ((l.who == who) && (l.seq == seq)) else noneL l
def codePart (b : Bool) (c : Int) : Bool := if b = true then decide (0 ≤ c) && decide (c ≤ 2) else c == 0
def treePart (b : Bool) (os : List LObj) : Bool := if b = true then specOk os else os.isEmpty
def mpartsB (lb cb tb : Bool) (who seq code : Int) (l : LLog) (os : List LObj) : Bool := logPart lb who seq l && codePart cb code && treePart tb os
def kindB (k : Int) : Bool := decide (1 ≤ k) && decide (k ≤ 4)
def msgOk (k who seq code : Int) (l : LLog) (os : List LObj) : Bool := kindB k && (whoB who seq && mpartsB (k == 3) (k == 4) (k == 2 || k == 4) who seq code l os)

theorem ownerOf_any (k who seq q s : Int) (ba : Option Addr) (bn bc : Nat) (oa : Option Addr) (on oc : Nat) (code : Int) (ta : Option Addr) (tn tc : Nat) (w : World) :
    Calls Try.prog 20 #[.agg #[.int .i64 k, .int .i64 who, .int .i64 seq, .int .i64 q, .int .i64 s, .slice ba bn bc, .slice oa on oc, .int .i64 code, .slice ta tn tc]] w fun e w' => e = .returned (.agg #[.int .i64 who, .int .i64 seq]) ∧ Below w.heap.size w w' := by
  go_enter Try.func20, Try.ntmps20
  go_wp2
  exact bodyPost_ret (v := .agg #[.int .i64 who, .int .i64 seq]) (by simp [results, Try.results20, go_sem]) rfl ⟨rfl, by
    repeat (first | exact Below.refl _ _ | refine Below.setCell ?_ (by simp <;> omega) _ | refine Below.alloc ?_ (by simp <;> omega) _)⟩

theorem mw1 (w : World) : Calls Try.prog 19 #[.int .i64 1] w fun e w' => e = .returned (.string ⟨#[102, 101, 116, 99, 104]⟩) ∧ w' = w := by
  go_enter Try.func19, Try.ntmps19
  go_wp2
  go_ret
  exact ⟨rfl, rfl⟩
theorem mw2 (w : World) : Calls Try.prog 19 #[.int .i64 2] w fun e w' => e = .returned (.string ⟨#[116, 114, 101, 101]⟩) ∧ w' = w := by
  go_enter Try.func19, Try.ntmps19
  go_wp2
  go_ret
  exact ⟨rfl, rfl⟩
theorem mw3 (w : World) : Calls Try.prog 19 #[.int .i64 3] w fun e w' => e = .returned (.string ⟨#[108, 111, 103]⟩) ∧ w' = w := by
  go_enter Try.func19, Try.ntmps19
  go_wp2
  go_ret
  exact ⟨rfl, rfl⟩
theorem mw4 (w : World) : Calls Try.prog 19 #[.int .i64 4] w fun e w' => e = .returned (.string ⟨#[118, 101, 114, 100, 105, 99, 116]⟩) ∧ w' = w := by
  go_enter Try.func19, Try.ntmps19
  go_wp2
  go_ret
  exact ⟨rfl, rfl⟩
theorem mw0 {k : Int} (h1 : (k == 1) = false) (h2 : (k == 2) = false) (h3 : (k == 3) = false) (h4 : (k == 4) = false) (w : World) : Calls Try.prog 19 #[.int .i64 k] w fun e w' => e = .returned (.string ⟨#[]⟩) ∧ w' = w := by
  go_enter Try.func19, Try.ntmps19
  go_wp2
  go_ret
  exact ⟨rfl, rfl⟩
theorem vw0 (w : World) : Calls Try.prog 69 #[.int .i64 0] w fun e w' => e = .returned (.string ⟨#[100, 111, 110, 101]⟩) ∧ w' = w := by
  go_enter Try.func69, Try.ntmps69
  go_wp2
  go_ret
  exact ⟨rfl, rfl⟩
theorem vw1 (w : World) : Calls Try.prog 69 #[.int .i64 1] w fun e w' => e = .returned (.string ⟨#[99, 108, 97, 115, 104]⟩) ∧ w' = w := by
  go_enter Try.func69, Try.ntmps69
  go_wp2
  go_ret
  exact ⟨rfl, rfl⟩
theorem vw2 (w : World) : Calls Try.prog 69 #[.int .i64 2] w fun e w' => e = .returned (.string ⟨#[111, 108, 100]⟩) ∧ w' = w := by
  go_enter Try.func69, Try.ntmps69
  go_wp2
  go_ret
  exact ⟨rfl, rfl⟩
theorem vwn {k : Int} (h1 : (k == 0) = false) (h2 : (k == 1) = false) (h3 : (k == 2) = false) (w : World) : Calls Try.prog 69 #[.int .i64 k] w fun e w' => e = .returned (.string ⟨#[]⟩) ∧ w' = w := by
  go_enter Try.func69, Try.ntmps69
  go_wp2
  go_ret
  exact ⟨rfl, rfl⟩

def PartsEnd (k : Int) (w : World) (e : Ending) (w' : World) : Prop := e = .returned (.agg #[.bool (k == 3), .bool (k == 4), .bool (k == 2 || k == 4)]) ∧ Below w.heap.size w w'
theorem parts_any (k : Int) (w : World) : Calls Try.prog 22 #[.int .i64 k] w fun e w' => PartsEnd k w e w' := by
  by_cases h4 : k = 4
  · subst h4
    go_enter Try.func22, Try.ntmps22
    go_wp2
    exact bodyPost_ret (v := .agg #[.bool false, .bool true, .bool true]) (by simp [results, Try.results22, go_sem]) rfl ⟨rfl, by
      repeat (first | exact Below.refl _ _ | refine Below.setCell ?_ (by simp <;> omega) _ | refine Below.alloc ?_ (by simp <;> omega) _)⟩
  by_cases h2 : k = 2
  · subst h2
    go_enter Try.func22, Try.ntmps22
    go_wp2
    exact bodyPost_ret (v := .agg #[.bool false, .bool false, .bool true]) (by simp [results, Try.results22, go_sem]) rfl ⟨rfl, by
      repeat (first | exact Below.refl _ _ | refine Below.setCell ?_ (by simp <;> omega) _ | refine Below.alloc ?_ (by simp <;> omega) _)⟩
  by_cases h3 : k = 3
  · subst h3
    go_enter Try.func22, Try.ntmps22
    go_wp2
    exact bodyPost_ret (v := .agg #[.bool true, .bool false, .bool false]) (by simp [results, Try.results22, go_sem]) rfl ⟨rfl, by
      repeat (first | exact Below.refl _ _ | refine Below.setCell ?_ (by simp <;> omega) _ | refine Below.alloc ?_ (by simp <;> omega) _)⟩
  · have t4 : (k == 4) = false := by simp [h4]
    have t2 : (k == 2) = false := by simp [h2]
    have t3 : (k == 3) = false := by simp [h3]
    go_enter Try.func22, Try.ntmps22
    go_wp2
    refine bodyPost_ret (v := .agg #[.bool false, .bool false, .bool false]) (by simp [results, Try.results22, go_sem]) rfl ⟨?_, by
      repeat (first | exact Below.refl _ _ | refine Below.setCell ?_ (by simp <;> omega) _ | refine Below.alloc ?_ (by simp <;> omega) _)⟩
    rw [t4, t2, t3]; rfl

theorem codeOk_any (lb cb tb : Bool) (c : Int) (w : World) : Calls Try.prog 44 #[.agg #[.bool lb, .bool cb, .bool tb], .int .i64 c] w fun e w' => e = .returned (.bool (codePart cb c)) ∧ Below w.heap.size w w' := by
  have hA : ∀ o1 : Obj, Below w.heap.size w (w.alloc o1) := fun o1 => (Below.refl _ _).alloc (Nat.le_refl _) _
  cases cb
  · go_enter Try.func44, Try.ntmps44
    go_wp2_with fail
    go_ret
    exact ⟨rfl, hA _⟩
  · by_cases h0 : c = 0
    · subst h0
      go_enter Try.func44, Try.ntmps44
      go_wp2_with (go_at_call 69; refine (vw0 _).mono ?_; rintro e w' ⟨rfl, rfl⟩)
      go_ret
      exact ⟨rfl, hA _⟩
    by_cases h1 : c = 1
    · subst h1
      go_enter Try.func44, Try.ntmps44
      go_wp2_with (go_at_call 69; refine (vw1 _).mono ?_; rintro e w' ⟨rfl, rfl⟩)
      go_ret
      exact ⟨rfl, hA _⟩
    by_cases h2 : c = 2
    · subst h2
      go_enter Try.func44, Try.ntmps44
      go_wp2_with (go_at_call 69; refine (vw2 _).mono ?_; rintro e w' ⟨rfl, rfl⟩)
      go_ret
      exact ⟨rfl, hA _⟩
    · have HN : Hid (codePart true c = false) := by show _ = _; simp [codePart]; omega
      have HW := vwn (k := c) (by simp [h0]) (by simp [h1]) (by simp [h2])
      clear h0 h1 h2
      go_enter Try.func44, Try.ntmps44
      go_wp2_with (go_at_call 69; refine (HW _).mono ?_; rintro e w' ⟨rfl, rfl⟩)
      go_ret
      exact ⟨ret_bool (by rw [HN.out]), hA _⟩

theorem treeOk_any (lb cb tb : Bool) (a : Option Addr) (n c : Nat) (os : List LObj) (L U : Nat) (w : World) (hU : U ≤ w.heap.size) (H : ObjsAt w L U a n os) :
    Calls Try.prog 45 #[.agg #[.bool lb, .bool cb, .bool tb], .agg #[.slice a n c]] w fun e w' => e = .returned (.bool (treePart tb os)) ∧ Below w.heap.size w w' := by
  have hA : ∀ o1 o2 : Obj, Below w.heap.size w ((w.alloc o1).alloc o2) := fun o1 o2 => ((Below.refl _ _).alloc (Nat.le_refl _) _).alloc (by simp) _
  have HLN : Hid (n = os.length) := H.len
  have hbd := H.bd
  unfold maxLen at hbd
  cases tb
  · by_cases h0 : n = 0
    · subst h0
      have HV : Hid (treePart false os = true) := by show _ = _; simp [treePart]; exact List.length_eq_zero_iff.1 HLN.out.symm
      go_enter Try.func45, Try.ntmps45
      go_wp2_with fail
      go_ret
      exact ⟨ret_bool (by rw [HV.out]), hA _ _⟩
    · have HV : Hid (treePart false os = false) := by show _ = _; simp [treePart]; exact fun h => h0 (by rw [HLN.out, h]; rfl)
      have t0 : ((n : Int) == 0) = false := by simp; omega
      clear h0
      go_enter Try.func45, Try.ntmps45
      go_wp2_with fail
      go_ret
      exact ⟨ret_bool (by rw [HV.out]), hA _ _⟩
  · go_enter Try.func45, Try.ntmps45
    go_wp2_with fail
    refine (implTreeOk _ _ _ os L U _ (by simp <;> omega) (H.below (hA _ _) hU)).mono ?_
    rintro x w1 ⟨rfl, hb1⟩
    go_wp2_with fail
    go_ret
    exact ⟨rfl, (hA _ _).trans (hb1.mono (by simp <;> omega))⟩

theorem LogAt.nothing (w : World) (L U : Nat) : LogAt w L U 0 0 none 0 none 0 nothing := ⟨rfl, rfl, ⟨rfl, by simp, fun h => absurd rfl h⟩, ⟨rfl, by simp, fun h => absurd rfl h⟩⟩

theorem specNone_any (q s : Int) (ba : Option Addr) (bn bc : Nat) (oa : Option Addr) (on oc : Nat) (l : LLog) (L U : Nat) (w : World) (H : LogAt w L U q s ba bn oa on l) :
    Calls Try.prog 14 #[.agg #[.int .i64 q, .int .i64 s, .slice ba bn bc, .slice oa on oc]] w fun e w' => e = .returned (.bool (noneL l)) ∧ Below w.heap.size w w' := by
  have hA : ∀ o1 : Obj, Below w.heap.size w (w.alloc o1) := fun o1 => (Below.refl _ _).alloc (Nat.le_refl _) _
  have HV : Hid (noneL l = ((q == 0) && (s == 0) && (bn == 0) && (on == 0))) := by
    show _ = _
    unfold noneL
    rw [H.q, H.s]
    have e1 : l.bases.isEmpty = (bn == 0) := by rw [H.b.len]; cases l.bases <;> rfl
    have e2 : l.list.isEmpty = (on == 0) := by rw [H.o.len]; cases l.list <;> rfl
    rw [e1, e2]
  have hbd := H.b.bd
  have hbd' := H.o.bd
  unfold maxLen at hbd hbd'
  clear H
  rcases t1 : (q == 0) with _ | _
  · go_enter Try.func14, Try.ntmps14
    go_wp2_with fail
    go_ret
    exact ⟨ret_bool (by rw [HV.out, t1]; rfl), hA _⟩
  rcases t2 : (s == 0) with _ | _
  · go_enter Try.func14, Try.ntmps14
    go_wp2_with fail
    go_ret
    exact ⟨ret_bool (by rw [HV.out, t1, t2]; rfl), hA _⟩
  by_cases h3 : bn = 0
  case neg =>
    have t3 : ((bn : Int) == 0) = false := by simp; omega
    have t3' : Hid ((bn == 0) = false) := by show _ = _; simp [h3]
    clear h3
    go_enter Try.func14, Try.ntmps14
    go_wp2_with fail
    go_ret
    exact ⟨ret_bool (by rw [HV.out, t1, t2, t3'.out]; rfl), hA _⟩
  subst h3
  by_cases h4 : on = 0
  case neg =>
    have t4 : ((on : Int) == 0) = false := by simp; omega
    have t4' : Hid ((on == 0) = false) := by show _ = _; simp [h4]
    clear h4
    go_enter Try.func14, Try.ntmps14
    go_wp2_with fail
    go_ret
    exact ⟨ret_bool (by rw [HV.out, t1, t2, t4'.out]; rfl), hA _⟩
  subst h4
  go_enter Try.func14, Try.ntmps14
  go_wp2_with fail
  go_ret
  exact ⟨ret_bool (by rw [HV.out, t1, t2]; rfl), hA _⟩
end Go.Proofs.Ytnfegihemhidgaa
