/-
  At every two codes the call of laws.FnLogIds returns true: of the list that is drawn by the first the program tells the numbers that the specification tells, each once, ascending, and they are those of its two parts, parted by the length of the second; the codes read behind the call as they did. No condition.
-/
import Derived.Test.YtkllejaamnojpaaLongAll
import Derived.Test.YtkllejaamnojpaaLogIJ
import Derived.Test.YtkllejaamnojpaaClosed
import Derived.ProofKit
import Derived.OpenShut
import Derived.ShutString
import Derived.ChangeOld
namespace Go.Proofs.Ytkllejaamnojpaa
open Go.RowKit

theorem drawLogIds (a : Option Addr) (n c : Nat) (zs : List Int) (w : World) (hn : n ≤ 1048576) (hc : n ≤ c) (H : BytesAt w w.heap.size a n zs) :
    Calls Try.prog 35 #[.slice a n c] w fun e w' => DrawnL w e w' := by
  go_enter Try.func35, Try.ntmps35
  go_wp2_with fail
  refine (drawTexts a n c zs w hn hc H).mono ?_
  rintro e W1 ⟨⟨v, ops, rfl, h⟩, hb⟩
  go_wp2_with fail
  go_ret
  exact ⟨⟨v, ops, rfl, h⟩, hb⟩
/-- Numbers that are looked at only. -/
def NumsAt (w : World) (U : Nat) (a : Option Addr) (n : Nat) (l : List Nat) : Prop := n = l.length ∧ ∀ i, i < n → ∃ g k, a = some ⟨g, 0, none⟩ ∧ g < U ∧ l[i]? = some k ∧ w.cell? ⟨g, i, none⟩ = some (.int .i64 (k : Nat))
theorem OwnInts.nums {w : World} {B : Nat} {v : Value} {l : List Nat} (h : OwnInts w B v l) : ∃ a c, v = .slice a l.length c ∧ NumsAt w w.heap.size a l.length l := by
  obtain ⟨a, c, rfl, hc⟩ := h.form
  exact ⟨a, c, rfl, rfl, fun i hi => by
    obtain ⟨g, k, h1, h2, h3, h4, h5⟩ := hc i hi
    exact ⟨g, k, h1, h3, h4, h5⟩⟩
theorem NumsAt.below {w w' : World} {U B : Nat} {a : Option Addr} {n : Nat} {l : List Nat} (h : NumsAt w U a n l) (hb : Below B w w') (hU : U ≤ B) : NumsAt w' U a n l := ⟨h.1, fun i hi => by
  obtain ⟨g, k, h1, h3, h4, h5⟩ := h.2 i hi
  exact ⟨g, k, h1, h3, h4, by rw [hb.cell (by simp; omega)]; exact h5⟩⟩
theorem NumsAt.any {w w' : World} {U : Nat} {a : Option Addr} {n : Nat} {l : List Nat} (h : NumsAt w U a n l) (hb : ∀ p, w'.cell? p = w.cell? p) : NumsAt w' U a n l := ⟨h.1, fun i hi => by
  obtain ⟨g, k, h1, h3, h4, h5⟩ := h.2 i hi
  exact ⟨g, k, h1, h3, h4, by rw [hb]; exact h5⟩⟩
theorem NumsAt.drewN {w : World} {U : Nat} {a : Option Addr} {n : Nat} {l : List Nat} (h : NumsAt w U a n l) (m : Nat) : NumsAt (w.drewN m) U a n l := h.any (w' := w.drewN m) fun _ => rfl

set_option maxHeartbeats 400000 in
theorem wiIn_any (a : Option Addr) (n c U : Nat) (l : List Nat) (x : Nat) (w : World) (hbd : n ≤ 1000000) (H : NumsAt w U a n l) :
    Calls Try.prog 38 #[.slice a n c, .int .i64 (x : Int)] w fun e w' => e = .returned (.bool (decide (x ∈ l))) ∧ w' = w := by
  have hlen : Hid (n = l.length) := H.1
  go_enter Try.func38, Try.ntmps38
  go_wp2_with fail
  go_loopg [5] n (fun g i wr => ∃ j : Nat, j ≤ n ∧ Hid (g = n - j) ∧ i = .int .i64 j ∧ Hid (∀ i, i < j → ∀ k, l[i]? = some k → k ≠ x) ∧ w = wr)
  case atStart => exact ⟨0, Nat.zero_le _, rfl, rfl, fun i hi => by omega, rfl⟩
  case round =>
    obtain ⟨j, hj, hk, rfl, hq, rfl⟩ := hrel
    by_cases hlt : j < n
    · obtain ⟨g, k, rfl, _, hlk, hc0⟩ := H.2 j hlt
      have hlt' : (j : Int) < (n : Int) := by omega
      have HLK : Hid (l[j]? = some k) := hlk
      clear hlk
      by_cases hkx : k = x
      · have t1 : ((k : Int) == (x : Int)) = true := by simp [hkx]
        have HM : Hid (decide (x ∈ l) = true) := by show _ = _; simpa [← hkx] using List.mem_of_getElem? HLK.out
        clear hkx
        go_wp2_with fail
        go_ret
        exact ⟨ret_bool HM.out.symm, rfl⟩
      · have t1 : ((k : Int) == (x : Int)) = false := by simp; omega
        have HK : Hid (k ≠ x) := hkx
        clear hkx
        go_wp2_with fail
        go_roundg (n - (j + 1))
        case measure => have := hk.out; omega
        case rel =>
          refine ⟨j + 1, by omega, rfl, by go_num, fun i hi k' hk' => ?_, rfl⟩
          by_cases e : i = j
          · subst e; rw [HLK.out] at hk'; cases hk'; exact HK.out
          · exact hq.out i (by omega) k' hk'
    · have HM : Hid (decide (x ∈ l) = false) := by
        show _ = _
        rw [decide_eq_false_iff_not]
        intro hx
        obtain ⟨i, hi, e⟩ := List.getElem_of_mem hx
        exact hq.out i (by have := hlen.out; omega) x (by rw [List.getElem?_eq_getElem hi, e]) rfl
      go_wp2_with fail
      go_ret
      exact ⟨ret_bool HM.out.symm, rfl⟩
theorem wiIn_is (b : Bool) (a : Option Addr) (n c U : Nat) (l : List Nat) (x : Nat) (w : World) (hb : decide (x ∈ l) = b) (hbd : n ≤ 1000000) (H : NumsAt w U a n l) :
    Calls Try.prog 38 #[.slice a n c, .int .i64 (x : Int)] w fun e w' => e = .returned (.bool b) ∧ w' = w := by rw [← hb]; exact wiIn_any a n c U l x w hbd H

theorem mem_logIds {ops : List LOp} (h : ops.length ≤ 60) (y : Nat) : y ∈ logIds ops ↔ ∃ o ∈ ops, y ∈ opIds o := by
  unfold logIds logIdsL
  rw [List.take_of_length_le h, mem_logIdsL]
  simp
theorem asc_logIds (ops : List LOp) : AscI (logIds ops) := asc_logIdsL _ [] (by simp [AscI])
theorem asc_next {l : List Nat} (h : AscI l) {i x y : Nat} (hx : l[i]? = some x) (hy : l[i + 1]? = some y) : x < y := by
  obtain ⟨hi, rfl⟩ := List.getElem?_eq_some_iff.1 hx
  obtain ⟨hj, rfl⟩ := List.getElem?_eq_some_iff.1 hy
  exact List.pairwise_iff_getElem.1 h i (i + 1) hi hj (by omega)
theorem OpsAt.take_ {w : World} {L U : Nat} {a : Option Addr} {n : Nat} {ops : List LOp} (h : OpsAt w L U a n ops) {k : Nat} (hk : k ≤ n) : OpsAt w L U a k (ops.take k) :=
  ⟨by have := h.len; simp; omega, by have := h.bd; omega, fun hn => by
    obtain ⟨b, off, ha, hL, hbU, hc⟩ := h.at_ (by omega)
    refine ⟨b, off, ha, hL, hbU, fun i hi => ?_⟩
    obtain ⟨o, ho, hs, h0⟩ := hc i (by omega)
    exact ⟨o, by rw [List.getElem?_take_of_lt hi]; exact ho, hs, h0⟩⟩
theorem OwnOps.capM {w : World} {B : Nat} {a : Option Addr} {n c : Nat} {l : List LOp} (h : OwnOps w B (.slice a n c) l) : c ≤ maxLen := by
  rcases h.2 with ⟨e, h0⟩ | ⟨g, cap, cur, e, _, _, _, h2, _⟩
  · cases e; exact Nat.zero_le _
  · cases e; exact h2

set_option maxHeartbeats 1000000 in
set_option maxRecDepth 20000 in
theorem walkLogIdsL (a : Option Addr) (n c : Nat) (zs : List Int) (a' : Option Addr) (m c' : Nat) (w : World) (hc : n ≤ c) (hcb : n ≤ maxLen) (H : BytesAt w w.heap.size a n zs) (hmb : m ≤ maxLen) :
    Calls Try.prog 8 #[.slice a n c, .slice a' m c'] w fun e w' => e = .returned (.bool true) ∧ Below w.heap.size w w' := by
  unfold maxLen at hcb hmb
  by_cases hbig : 1048576 < n
  · go_enter Try.func8, Try.ntmps8
    go_wp2_with fail
    go_ret
    exact ⟨rfl, Below.refl _ _⟩
  by_cases hbig2 : 1048576 < m
  · go_enter Try.func8, Try.ntmps8
    go_wp2_with fail
    go_ret
    exact ⟨rfl, Below.refl _ _⟩
  go_enter Try.func8, Try.ntmps8
  go_wp2_with fail
  refine (drawLogIds a n c zs w (by omega) hc H).mono ?_
  rintro e W1 ⟨⟨v, ops, rfl, ho, hl, hsm, hdn⟩, hb1⟩
  clear hdn
  have HZ : Hid (∀ o ∈ ops, OpSz o) := fun o h => (hsm o h).sz
  obtain ⟨va, vc, rfl, hO⟩ := ho.at_ HZ.out
  have hcap : ops.length ≤ vc := ho.cap
  have hcapM : vc ≤ maxLen := ho.capM
  have hva : Hid ((va = none ∧ vc = 0 ∧ ops.length = 0) ∨ ∃ g, va = some ⟨g, 0, none⟩) := by
    show _ ∨ _
    rcases ho.2 with ⟨e, h0⟩ | ⟨g, cap, cur, e, _⟩
    · simp at e; exact .inl ⟨e.1, e.2.2, h0⟩
    · simp at e; exact .inr ⟨g, e.1⟩
  obtain ⟨ids, hids⟩ : ∃ ids, ids = logIds ops := ⟨_, rfl⟩
  have hle : ids.length ≤ 32 := by rw [hids]; exact logIds_le _
  have HI : Hid (ids = logIds ops) := hids
  clear ho hsm hids
  go_wp2_with fail
  refine (implLogIds _ _ _ ops _ _ _ (Nat.le_refl _) hcap hcapM hO).mono ?_
  rintro e W2 ⟨⟨v2, rfl, hv2⟩, hb2⟩
  rw [← HI.out] at hv2
  obtain ⟨a6, c6, rfl, hN6⟩ := hv2.out.nums
  have hO2 := hO.below hb2 (Nat.le_refl _)
  have hB2 : Below w.heap.size w W2 := hb1.trans (hb2.mono hb1.size)
  have hz12 := hb2.size
  clear hv2 hb2 hb1 hO
  go_wp2_with fail
  refine (specLogIds _ _ _ ops _ _ _ hz12 hO2).mono ?_
  rintro e W3 ⟨⟨v3, rfl, hv3⟩, hb3⟩
  rw [← HI.out] at hv3
  obtain ⟨a7, c7, rfl, hN7⟩ := hv3.out.nums
  have hO3 := hO2.below hb3 hz12
  have hN63 := hN6.below hb3 (Nat.le_refl _)
  have hB3 : Below w.heap.size w W3 := hB2.trans (hb3.mono hB2.size)
  have hz23 := hb3.size
  clear hv3 hb3 hB2 hO2 hN6
  have hne : ((ids.length : Int) != (ids.length : Int)) = false := by simp
  have HO3 : Hid (OpsAt W3 w.heap.size W1.heap.size va ops.length ops) := hO3
  have H63 : Hid (NumsAt W3 W2.heap.size a6 ids.length ids) := hN63
  have H73 : Hid (NumsAt W3 W3.heap.size a7 ids.length ids) := hN7
  clear hO3 hN63 hN7 HZ
  obtain ⟨K, hK⟩ : ∃ K, K = m % (ops.length + 1) := ⟨_, rfl⟩
  have hKle : K ≤ ops.length := by rw [hK]; have := Nat.mod_lt m (show 0 < ops.length + 1 by omega); omega
  have hrem : (m : Int).tmod ((ops.length : Int) + 1) = (K : Int) := by rw [hK]; rfl
  have HKK : Hid (K = m % (ops.length + 1)) := hK
  clear hK
  go_wp2_with fail
  refine (implLogIds _ _ _ (ops.take K) _ _ _ (by omega) (by omega) hcapM (HO3.out.take_ hKle)).mono ?_
  rintro e W4 ⟨⟨v4, rfl, hv4⟩, hb4⟩
  obtain ⟨a9, c9, rfl, hN9⟩ := hv4.out.nums
  have HO4 : Hid (OpsAt W4 w.heap.size W1.heap.size va ops.length ops) := HO3.out.below hb4 (by omega)
  have H64 : Hid (NumsAt W4 W2.heap.size a6 ids.length ids) := H63.out.below hb4 hz23
  have H74 : Hid (NumsAt W4 W3.heap.size a7 ids.length ids) := H73.out.below hb4 (Nat.le_refl _)
  have HN9 : Hid (NumsAt W4 W4.heap.size a9 (logIds (ops.take K)).length (logIds (ops.take K))) := hN9
  have hB4 : Below w.heap.size w W4 := hB3.trans (hb4.mono hB3.size)
  have hz34 := hb4.size
  clear hv4 hb4 HO3 H63 H73 hN9 hB3
  go_upto_region 10 with fail
  go_cut [10] (fun x wx => ∃ a10 c10, x = .slice a10 (logIds (ops.drop K)).length c10 ∧ NumsAt wx wx.heap.size a10 (logIds (ops.drop K)).length (logIds (ops.drop K)) ∧ Below W4.heap.size W4 wx)
  case first =>
    rcases hva.out with ⟨rfl, rfl, h0⟩ | ⟨g, rfl⟩
    · obtain rfl : ops = [] := List.eq_nil_of_length_eq_zero h0
      obtain rfl : K = 0 := by simpa using hKle
      clear hrem h0
      go_wp2_with fail
      refine (implLogIds _ _ _ [] 0 0 _ (Nat.zero_le _) (Nat.le_refl _) (Nat.zero_le _) ⟨rfl, Nat.zero_le _, fun h => absurd rfl h⟩).mono ?_
      rintro e W5 ⟨⟨v5, rfl, hv5⟩, hb5⟩
      obtain ⟨a10, c10, rfl, hN10⟩ := hv5.out.nums
      go_wp2_with fail
      go_meet
      exact ⟨a10, c10, rfl, hN10, hb5⟩
    · by_cases hKc : K = vc
      · have hdr : ops.drop K = [] := List.drop_of_length_le (by omega)
        have HDR : Hid (ops.drop K = []) := hdr
        have hKn : ops.length - K = 0 := by omega
        clear hdr
        subst hKc
        go_wp2_with fail
        refine (implLogIds (some ⟨g, 0, none⟩) 0 0 [] 0 0 _ (Nat.zero_le _) (Nat.le_refl _) (Nat.zero_le _) ⟨rfl, Nat.zero_le _, fun h => absurd rfl h⟩).mono ?_
        rintro e W5 ⟨⟨v5, rfl, hv5⟩, hb5⟩
        rw [← HDR.out] at hv5
        obtain ⟨a10, c10, rfl, hN10⟩ := hv5.out.nums
        go_wp2_with fail
        go_meet
        exact ⟨a10, c10, rfl, hN10, hb5⟩
      · have hO10 : OpsAt W4 w.heap.size W1.heap.size (some ⟨g, K * 7, none⟩) (ops.length - K) (ops.drop K) := by simpa using HO4.out.drop_ hKle
        go_wp2_with fail
        refine (implLogIds _ _ _ (ops.drop K) _ _ _ (by omega) (by omega) (by omega) hO10).mono ?_
        rintro e W5 ⟨⟨v5, rfl, hv5⟩, hb5⟩
        obtain ⟨a10, c10, rfl, hN10⟩ := hv5.out.nums
        go_wp2_with fail
        go_meet
        exact ⟨a10, c10, rfl, hN10, hb5⟩
  obtain ⟨a10, c10, rfl, hN10, hb5⟩ := hcut
  have hdl : (ops.drop K).length ≤ 60 := by simp; omega
  have htl : (ops.take K).length ≤ 60 := by simp; omega
  have HP1 : Hid (∀ x ∈ ids, x ∈ logIds (ops.take K) ∨ x ∈ logIds (ops.drop K)) := fun x hx => by
    rw [HI.out, mem_logIds hl] at hx
    obtain ⟨o, h1, h2⟩ := hx
    rw [← List.take_append_drop K ops, List.mem_append] at h1
    rcases h1 with h1 | h1
    · exact .inl ((mem_logIds htl x).2 ⟨o, h1, h2⟩)
    · exact .inr ((mem_logIds hdl x).2 ⟨o, h1, h2⟩)
  have HP2 : Hid (∀ x ∈ logIds (ops.take K), x ∈ ids) := fun x hx => by
    rw [HI.out, mem_logIds hl]
    obtain ⟨o, h1, h2⟩ := (mem_logIds htl x).1 hx
    exact ⟨o, List.mem_of_mem_take h1, h2⟩
  have HP3 : Hid (∀ x ∈ logIds (ops.drop K), x ∈ ids) := fun x hx => by
    rw [HI.out, mem_logIds hl]
    obtain ⟨o, h1, h2⟩ := (mem_logIds hdl x).1 hx
    exact ⟨o, List.mem_of_mem_drop h1, h2⟩
  have HASC : Hid (AscI ids) := by show AscI _; rw [HI.out]; exact asc_logIds ops
  have hla := logIds_le (ops.take K)
  have hlb := logIds_le (ops.drop K)
  have HA : Hid (NumsAt wc W4.heap.size a9 (logIds (ops.take K)).length (logIds (ops.take K))) := HN9.out.below hb5 (Nat.le_refl _)
  have H6 : Hid (NumsAt wc W2.heap.size a6 ids.length ids) := H64.out.below hb5 (by omega)
  have H7 : Hid (NumsAt wc W3.heap.size a7 ids.length ids) := H74.out.below hb5 hz34
  have HB : Hid (NumsAt wc wc.heap.size a10 (logIds (ops.drop K)).length (logIds (ops.drop K))) := hN10
  have hB5 : Below w.heap.size w wc := hB4.trans (hb5.mono hB4.size)
  clear HO4 H64 H74 HN9 hN10 hb5 hB4 hva hrem HKK hdl htl
  generalize logIds (ops.take K) = la at *
  generalize logIds (ops.drop K) = lb at *
  clear HI
  go_wp2_with fail
  go_loopg [11] ids.length (fun g i wr => ∃ j : Nat, j ≤ ids.length ∧ Hid (g = ids.length - j) ∧ i = .int .i64 j ∧ ∃ q, wr = wc.drewN q)
  case atStart => exact ⟨0, Nat.zero_le _, rfl, rfl, 0, rfl⟩
  case round =>
    obtain ⟨j, hj, hk, rfl, q, rfl⟩ := hrel
    by_cases hlt : j < ids.length
    · obtain ⟨g6, x, rfl, _, hx6, c6x⟩ := H6.out.2 j hlt
      obtain ⟨g7, y, rfl, _, hy7, c7x⟩ := H7.out.2 j hlt
      obtain rfl : x = y := by rw [hx6] at hy7; simpa using hy7
      have hlt' : (j : Int) < (ids.length : Int) := by omega
      have hxx : ((x : Int) != (x : Int)) = false := by simp
      have hmem : x ∈ ids := List.mem_of_getElem? hx6
      have HIN := HP1.out x hmem
      have hprev : 0 < j → ∃ z : Nat, wc.cell? ⟨g6, j - 1, none⟩ = some (.int .i64 (z : Int)) ∧ z < x := fun h0 => by
        obtain ⟨g', z, e1, _, hz, c6z⟩ := H6.out.2 (j - 1) (by omega)
        cases e1
        exact ⟨z, c6z, asc_next HASC.out hz (by rw [show j - 1 + 1 = j by omega]; exact hx6)⟩
      clear hx6 hy7 hmem
      by_cases h0 : 0 < j
      · obtain ⟨z, c6z, hzx⟩ := hprev h0
        have h0' : (0 : Int) < (j : Int) := by omega
        obtain ⟨i, hi⟩ : ∃ i, i = j - 1 := ⟨_, rfl⟩
        have hw : IntKind.i64.wrap ((j : Int) - 1) = (i : Int) := by simp only [IntKind.wrap_i64]; omega
        have hj1 : (i : Int) < (ids.length : Int) := by omega
        rw [← hi] at c6z
        clear hi
        have hle2 : ¬ (x : Int) ≤ (z : Int) := by omega
        have hle3 : decide ((x : Int) ≤ (z : Int)) = false := decide_eq_false hle2
        have hle4 : decide (x ≤ z) = false := decide_eq_false (by omega)
        clear hprev
        by_cases hA : x ∈ la
        · have hA' : decide (x ∈ la) = true := by simpa using hA
          have QA : ∀ m, Calls Try.prog 38 #[.slice a9 la.length c9, .int .i64 (x : Int)] (wc.drewN (q + m)) fun e w' => e = .returned (.bool true) ∧ w' = wc.drewN (q + m) := fun m => wiIn_is true _ _ _ _ la x _ hA' (by omega) (HA.out.drewN (q + m))
          go_wp2_with fail
          go_quiet (first | (go_at_call_of 38 (Value.slice a9 la.length c9); exact (QA _).mono fun _ _ h => ⟨h.1, _, h.2⟩))
          go_wp2_with fail
          go_roundg (ids.length - (j + 1))
          case measure => have := hk.out; omega
          case rel => exact ⟨j + 1, by omega, rfl, by go_num, _, rfl⟩
        · have hA' : decide (x ∈ la) = false := by simpa using hA
          have hBx : decide (x ∈ lb) = true := by rcases HIN with h | h; exact absurd h hA; simpa using h
          have QA : ∀ m, Calls Try.prog 38 #[.slice a9 la.length c9, .int .i64 (x : Int)] (wc.drewN (q + m)) fun e w' => e = .returned (.bool false) ∧ w' = wc.drewN (q + m) := fun m => wiIn_is false _ _ _ _ la x _ hA' (by omega) (HA.out.drewN (q + m))
          have QB : ∀ m, Calls Try.prog 38 #[.slice a10 lb.length c10, .int .i64 (x : Int)] (wc.drewN (q + m)) fun e w' => e = .returned (.bool true) ∧ w' = wc.drewN (q + m) := fun m => wiIn_is true _ _ _ _ lb x _ hBx (by omega) (HB.out.drewN (q + m))
          go_wp2_with fail
          go_quiet (first | (go_at_call_of 38 (Value.slice a9 la.length c9); exact (QA _).mono fun _ _ h => ⟨h.1, _, h.2⟩) | (go_at_call_of 38 (Value.slice a10 lb.length c10); exact (QB _).mono fun _ _ h => ⟨h.1, _, h.2⟩))
          go_wp2_with fail
          go_roundg (ids.length - (j + 1))
          case measure => have := hk.out; omega
          case rel => exact ⟨j + 1, by omega, rfl, by go_num, _, rfl⟩
      · have h00 : decide (0 < j) = false := decide_eq_false h0
        have h01 : decide ((0 : Int) < (j : Int)) = false := decide_eq_false (by omega)
        have h02 : ¬ (0 : Int) < (j : Int) := by omega
        clear hprev
        by_cases hA : x ∈ la
        · have hA' : decide (x ∈ la) = true := by simpa using hA
          have QA : ∀ m, Calls Try.prog 38 #[.slice a9 la.length c9, .int .i64 (x : Int)] (wc.drewN (q + m)) fun e w' => e = .returned (.bool true) ∧ w' = wc.drewN (q + m) := fun m => wiIn_is true _ _ _ _ la x _ hA' (by omega) (HA.out.drewN (q + m))
          go_wp2_with fail
          go_quiet (first | (go_at_call_of 38 (Value.slice a9 la.length c9); exact (QA _).mono fun _ _ h => ⟨h.1, _, h.2⟩))
          go_wp2_with fail
          go_roundg (ids.length - (j + 1))
          case measure => have := hk.out; omega
          case rel => exact ⟨j + 1, by omega, rfl, by go_num, _, rfl⟩
        · have hA' : decide (x ∈ la) = false := by simpa using hA
          have hBx : decide (x ∈ lb) = true := by rcases HIN with h | h; exact absurd h hA; simpa using h
          have QA : ∀ m, Calls Try.prog 38 #[.slice a9 la.length c9, .int .i64 (x : Int)] (wc.drewN (q + m)) fun e w' => e = .returned (.bool false) ∧ w' = wc.drewN (q + m) := fun m => wiIn_is false _ _ _ _ la x _ hA' (by omega) (HA.out.drewN (q + m))
          have QB : ∀ m, Calls Try.prog 38 #[.slice a10 lb.length c10, .int .i64 (x : Int)] (wc.drewN (q + m)) fun e w' => e = .returned (.bool true) ∧ w' = wc.drewN (q + m) := fun m => wiIn_is true _ _ _ _ lb x _ hBx (by omega) (HB.out.drewN (q + m))
          go_wp2_with fail
          go_quiet (first | (go_at_call_of 38 (Value.slice a9 la.length c9); exact (QA _).mono fun _ _ h => ⟨h.1, _, h.2⟩) | (go_at_call_of 38 (Value.slice a10 lb.length c10); exact (QB _).mono fun _ _ h => ⟨h.1, _, h.2⟩))
          go_wp2_with fail
          go_roundg (ids.length - (j + 1))
          case measure => have := hk.out; omega
          case rel => exact ⟨j + 1, by omega, rfl, by go_num, _, rfl⟩
    · have hlt' : ¬ (j : Int) < (ids.length : Int) := by omega
      go_wp2_with fail
      go_loopg [12] la.length (fun g i wr => ∃ j : Nat, j ≤ la.length ∧ Hid (g = la.length - j) ∧ i = .int .i64 j ∧ ∃ q, wr = wc.drewN q)
      case atStart => exact ⟨0, Nat.zero_le _, rfl, rfl, q, rfl⟩
      case round =>
        clear hlt hlt' hk hj
        obtain ⟨j, hj, hk, rfl, q, rfl⟩ := hrel
        by_cases hlt : j < la.length
        · obtain ⟨g9, x, rfl, _, hx9, c9x⟩ := HA.out.2 j hlt
          have hlt' : (j : Int) < (la.length : Int) := by omega
          have hI : decide (x ∈ ids) = true := by simpa using HP2.out x (List.mem_of_getElem? hx9)
          clear hx9
          go_wp2_with (go_at_call 38; refine (wiIn_is true _ _ _ _ ids x _ hI (by omega) (H6.out.drewN q)).mono ?_; rintro e w9 ⟨rfl, rfl⟩)
          go_roundg (la.length - (j + 1))
          case measure => have := hk.out; omega
          case rel => exact ⟨j + 1, by omega, rfl, by go_num, _, rfl⟩
        · have hlt' : ¬ (j : Int) < (la.length : Int) := by omega
          go_wp2_with fail
          go_loopg [13] lb.length (fun g i wr => ∃ j : Nat, j ≤ lb.length ∧ Hid (g = lb.length - j) ∧ i = .int .i64 j ∧ ∃ q, wr = wc.drewN q)
          case atStart => exact ⟨0, Nat.zero_le _, rfl, rfl, q, rfl⟩
          case round =>
            clear hlt hlt' hk hj
            obtain ⟨j, hj, hk, rfl, q, rfl⟩ := hrel
            by_cases hlt : j < lb.length
            · obtain ⟨g9, x, rfl, _, hx9, c9x⟩ := HB.out.2 j hlt
              have hlt' : (j : Int) < (lb.length : Int) := by omega
              have hI : decide (x ∈ ids) = true := by simpa using HP3.out x (List.mem_of_getElem? hx9)
              clear hx9
              go_wp2_with (go_at_call 38; refine (wiIn_is true _ _ _ _ ids x _ hI (by omega) (H6.out.drewN q)).mono ?_; rintro e w9 ⟨rfl, rfl⟩)
              go_roundg (lb.length - (j + 1))
              case measure => have := hk.out; omega
              case rel => exact ⟨j + 1, by omega, rfl, by go_num, _, rfl⟩
            · have hlt' : ¬ (j : Int) < (lb.length : Int) := by omega
              go_wp2_with fail
              go_ret
              exact ⟨rfl, hB5.trans ((Below.drewN _ _).mono hB5.size)⟩

namespace fnLogIds
open Go.ChangeShapes Go.WideShapes Go.ChangeAt Go.RowKit
open Go.ChangeMaps (open_string shut_string)
set_option linter.unusedVariables false

theorem own : ownKnob Try.prog.godebug = none := by kernel_rfl

set_option maxRecDepth 100000 in
theorem lifted (os : Os) (started : os.Started) (H : Type) (enc : TypeId × Value → H) :
    ReturnsInHanded {} Try.checked os 8 .any (Rows.fnLogIdsSpec.pre6 enc Try.prog Try.f8 Rows.fnLogIdsRow.domain false) (Rows.fnLogIdsSpec.post enc Try.prog Try.f8 false true false false) := by
  refine returnsInHanded_of_change (C := Try.checked) own started (by kernel_rfl) Try.func8
    (ChangeSpec.witness6 (enc := enc) (C := Try.checked) false ⟨#[], #[.slice none 0 0, .slice none 0 0], []⟩ 8 (by kernel_rfl) (by kernel_rfl) (by kernel_rfl) (by kernel_rfl)) ?_
  intro W base args ds gs before hval0 hW hcnd _
  have hval : ∀ (j : Nat) t v, Try.f8.params[j]? = some t → args[j]? = some v → Value.okWide Try.prog W .any base t v := hval0
  have hW' := hW
  obtain ⟨p, q, hA0, hV, rfl, hfz, hnd⟩ := hW
  have hA : DataW.TrodAll enc Try.prog W 0 (fun _ => true) true Try.f8.params.toList args.toList ds p := hA0
  rw [Try.params8] at hA hval
  obtain ⟨v0, vs0, d0, ds0, p0, q0, hargs, rfl, rfl, h0, r0⟩ := trodAll_cons hA
  obtain ⟨v1, vs1, d1, ds1, p1, q1, hargs1, rfl, rfl, h1, r1⟩ := trodAll_cons r0
  obtain ⟨rfl, rfl, rfl⟩ := trodAll_nil r1
  obtain rfl : args = #[v0, v1] := by cases args; simp_all
  obtain ⟨rfl, rfl⟩ := trodVars_none hV
  have k0 := h0
  have lt0 : ∀ x ∈ p0, x.block < W.heap.size := by obtain ⟨m, hm⟩ := k0; exact DataW.trod_lt m _ _ _ hm
  have k1 := h1
  have lt1 : ∀ x ∈ p1, x.block < W.heap.size := by obtain ⟨m, hm⟩ := k1; exact DataW.trod_lt m _ _ _ hm
  obtain ⟨a0, n0, c0, z0, rfl, hnc0, hnm0, w0⟩ := open_bytes (hval 0 22 v0 rfl rfl) h0
  obtain ⟨a1, n1, c1, z1, rfl, hnc1, hnm1, w1⟩ := open_bytes (hval 1 22 v1 rfl rfl) h1
  clear hA0 hval0
  refine (walkLogIdsL a0 n0 c0 z0 a1 n1 c1 W hnc0 hnm0 w0 hnm1).mono fun e W' ⟨he, bel⟩ => ?_
  subst he
  exact ⟨_, rfl, _, _, _, [], _, [], hW', trodAll_mk1 (shut_bool Try.underlying4 _), (trodAll_cons_mk (Below.trod fLaid (by kernel_rfl) (of_decide_eq_true (by kernel_rfl)) k0 bel lt0) (trodAll_cons_mk (Below.trod fLaid (by kernel_rfl) (of_decide_eq_true (by kernel_rfl)) k1 bel lt1) trodAll_mk0)), rfl, bel.frame _, fun h => by cases h⟩

set_option maxHeartbeats 4000000 in
theorem closed : joinedFacts Try.prog 8 Try.f8 Rows.fnLogIdsSpec Rows.fnLogIdsRow = true := by
  refine closedOf rfl rfl rfl ?_ ?_ ?_ ?_ ?_ ?_ ?_ ?_ ?_ ?_ ?_ ?_ ?_ ?_ ?_ ?_ ?_ ?_ ?_ rfl rfl ?_ ?_ ?_
  all_goals (as_aux_lemma => kernel_rfl)

theorem over : Rows.fnLogIdsRow.holds Try.pinned (OpenSpec.ofChange Rows.fnLogIdsSpec) :=
  OpenClaim.holds_of_wide 8 Try.f8 rfl rfl rfl rfl rfl rfl rfl ⟨rfl, rfl, rfl, rfl, rfl⟩ rfl rfl rfl rfl rfl (by kernel_rfl) Try.func8 closed
    (of_decide_eq_true (by kernel_rfl)) (by unfold Func.isWrapper; first | (rw [if_pos (by decide +kernel)]; kernel_rfl) | (rw [if_neg (by decide +kernel)]; exact ⟨rfl, rfl⟩))
    (fun os started H enc _ => lifted os started H enc)
end fnLogIds

theorem fnLogIds_holds : Rows.FnLogIdsSaid := fnLogIds.over
#print axioms fnLogIds_holds
end Go.Proofs.Ytkllejaamnojpaa
