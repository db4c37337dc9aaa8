/- At every code the call of laws.FnLogTurned returns true. -/
import Derived.Test.YtnolbfijcnldjaaGreatDoorV17
import Derived.Test.YtnolbfijcnldjaaGreatDoorV14
import Derived.Test.YtnolbfijcnldjaaGreatDoorV13
import Derived.Test.YtnolbfijcnldjaaGreatDoorV23
import Derived.Test.YtnolbfijcnldjaaGreatDoorV24
import Derived.Deep.RegionWith
import Derived.RowKitTokens
namespace Go.Proofs.YtnolbfijcnldjaaGreatDoor
open Go.RowKit

/-- A tree and a log, as they were drawn, in their boxes. -/
structure TLB (w W : World) (T b c1 : Nat) (os : List LObj) (x y : Int) (a1 : Option Addr) (n1 k1 : Nat) (a1' : Option Addr) (n1' k1' : Nat) (l : LLog) : Prop where
  below : Below w.heap.size w W
  t : W.cell? ⟨T, 0, none⟩ = some (.slice (some ⟨b, 0, none⟩) 32 c1)
  at_ : ObjsAt W 0 T (some ⟨b, 0, none⟩) 32 os
  lg : LogBox W (T + 1) x y a1 n1 k1 a1' n1' k1'
  la : LogAt W 0 T x y a1 n1 a1' n1' l
  lt : T + 1 < W.heap.size
theorem TLB.next {w W W' : World} {T b c1 : Nat} {os : List LObj} {x y : Int} {a1 : Option Addr} {n1 k1 : Nat} {a1' : Option Addr} {n1' k1' : Nat} {l : LLog} (h : TLB w W T b c1 os x y a1 n1 k1 a1' n1' k1' l) (hb : Below W.heap.size W W') : TLB w W' T b c1 os x y a1 n1 k1 a1' n1' k1' l := by
  have hlt := h.lt
  exact ⟨h.below.trans (hb.mono h.below.size), by rw [hb.cell (by simp; omega)]; exact h.t, h.at_.below hb (by omega), h.lg.of (hb.block _ hlt), h.la.below hb (by omega), by have := hb.size; omega⟩

set_option maxHeartbeats 16000000 in
set_option maxRecDepth 20000 in
theorem walkLogTurned (sa : Nat → Addr) (U0 : Nat) (a : Option Addr) (n c : Nat) (zs : List Int) (w : World) (hU0 : U0 ≤ w.heap.size) (HS : Sents w U0 sa) (hc : n ≤ c) (hcb : n ≤ maxLen) (H : BytesAt w w.heap.size a n zs) :
    Calls Tryz.prog 14 #[.slice a n c] w fun e w' => e = .returned (.bool true) ∧ Below w.heap.size w w' := by
  unfold maxLen at hcb
  by_cases hn : 1048576 < n
  · have hnI : (1048576 : Int) < (n : Int) := by omega
    go_enter Tryz.func14, Tryz.ntmps14
    go_wp2_with fail
    go_ret
    exact ⟨rfl, Below.refl _ _⟩
  have hnI : ¬ (1048576 : Int) < (n : Int) := by omega
  go_enter Tryz.func14, Tryz.ntmps14
  go_wp2_with fail
  refine (drawLogFits a n c zs w (by omega) hc H).mono ?_
  rintro e w1 ⟨⟨b, c1, os, x, y, a1, n1, k1, a1', n1', k1', l, rfl, hO, hS1, hL, -, hnk, hkm⟩, hb1⟩
  clear hnI hn H
  have hb2 : Below w1.heap.size w1 ((w1.alloc (.cells #[.slice (some ⟨b, 0, none⟩) 32 c1] 25)).alloc (.cells #[.int .i64 x, .int .i64 y, .slice a1 n1 k1, .slice a1' n1' k1'] 58)) := ((Below.refl _ _).alloc (Nat.le_refl _) _).alloc (by simp) _
  have HT2 : Hid (TLB w ((w1.alloc (.cells #[.slice (some ⟨b, 0, none⟩) 32 c1] 25)).alloc (.cells #[.int .i64 x, .int .i64 y, .slice a1 n1 k1, .slice a1' n1' k1'] 58)) w1.heap.size b c1 os x y a1 n1 k1 a1' n1' k1' l) :=
    ⟨hb1.trans (hb2.mono hb1.size), by simp [go_sem], (hO.wide (Nat.zero_le _) (Nat.le_refl _)).below hb2 (Nat.le_refl _), ⟨by simp [go_sem], by simp [go_sem], by simp [go_sem], by simp [go_sem]⟩, (hL.wide (Nat.zero_le _) (Nat.le_refl _)).below hb2 (Nat.le_refl _), by simp⟩
  have t2 := HT2.out.t
  have l0 := HT2.out.lg.c0
  have l1 := HT2.out.lg.c1
  have l2 := HT2.out.lg.c2
  have l3 := HT2.out.lg.c3
  have hIO := fun W (h : TLB w W w1.heap.size b c1 os x y a1 n1 k1 a1' n1' k1' l) => implLogOk x y a1 n1 k1 a1' n1' k1' l 0 w1.heap.size W (by have := h.lt; omega) hnk hkm h.la
  have hSO := fun W (h : TLB w W w1.heap.size b c1 os x y a1 n1 k1 a1' n1' k1' l) => specLogOk x y a1 n1 k1 a1' n1' k1' l 0 w1.heap.size W (by have := h.lt; omega) h.la
  have hTO := fun W (h : TLB w W w1.heap.size b c1 os x y a1 n1 k1 a1' n1' k1' l) => specTreeOk (some ⟨b, 0, none⟩) 32 c1 os 0 w1.heap.size W hS1 (by have := h.lt; omega) h.at_
  have hIA := fun W (h : TLB w W w1.heap.size b c1 os x y a1 n1 k1 a1' n1' k1' l) => implActAll sa U0 (some ⟨b, 0, none⟩) a1' 32 c1 n1' k1' os l.list 0 w1.heap.size 0 w1.heap.size W (Nat.le_trans hU0 h.below.size) (HS.below h.below hU0) hS1 (by have := h.lt; omega) h.at_ (by have := h.lt; omega) h.la.o
  have hSA := fun W (h : TLB w W w1.heap.size b c1 os x y a1 n1 k1 a1' n1' k1' l) => specActAll (some ⟨b, 0, none⟩) a1' 32 c1 n1' k1' os l.list 0 w1.heap.size 0 w1.heap.size W hS1 (by have := h.lt; omega) h.at_ (by have := h.lt; omega) h.la.o
  have hLI := fun W (h : TLB w W w1.heap.size b c1 os x y a1 n1 k1 a1' n1' k1' l) => implLogIds a1' n1' k1' l.list 0 w1.heap.size W (by have := h.lt; omega) hnk hkm h.la.o
  have hF1 := fun W (h : TLB w W w1.heap.size b c1 os x y a1 n1 k1 a1' n1' k1' l) => implLogFits (some ⟨b, 0, none⟩) 32 c1 os 0 w1.heap.size x y a1 n1 k1 a1' n1' k1' l 0 w1.heap.size W (by have := h.lt; omega) (by have := h.lt; omega) hnk hkm h.at_ h.la
  have hF2 := fun ta tn tc rl TU W (h : TLB w W w1.heap.size b c1 os x y a1 n1 k1 a1' n1' k1' l) hTU HT => implLogFits ta tn tc rl 0 TU x y a1 n1 k1 a1' n1' k1' l 0 w1.heap.size W hTU (by have := h.lt; omega) hnk hkm HT h.la
  have HLEN : Hid (n1' = l.list.length) := hL.o.len
  have HOL : Hid (os.length = 32) := hO.len.symm
  have HNB : Hid (n1' ≤ maxLen) := hL.o.bd
  clear hO hL hb1 hb2 hc hcb
  go_wp2_with fail
  generalize ((w1.alloc (.cells #[.slice (some ⟨b, 0, none⟩) 32 c1] 25)).alloc (.cells #[.int .i64 x, .int .i64 y, .slice a1 n1 k1, .slice a1' n1' k1'] 58)) = W2 at *
  generalize w1.heap.size = T at *
  clear t2 l0 l1 l2 l3
  refine (hTO W2 HT2.out).mono ?_
  rintro e w3 ⟨rfl, hb3⟩
  have HT3 : Hid (TLB w w3 T b c1 os x y a1 n1 k1 a1' n1' k1' l) := HT2.out.next hb3
  clear HT2 hb3 hTO
  rcases hts : specOk os with _ | _
  · go_upto_region 5 with fail
    have hT5 := HT3.out.next ((Below.refl w3.heap.size w3).drew)
    refine wp_region_held_drew (S := (fun W => LogBox W (T + 1) x y a1 n1 k1 a1' n1' k1')) (by kernel_rfl) ?_ (fun hHeld => ?_)
    · exact hT5.lg
    refine listH (l2 := #[false, false, false, false, false, false]) (by kernel_rfl) ?_
    refine takeH (i := 0) (oi := _) (v := (.agg #[.int .i64 x, .int .i64 y, .slice a1 n1 k1, .slice a1' n1' k1'])) 35 #[true, false, false, false, false, false] rfl (by kernel_rfl) (by kernel_rfl) (by kernel_rfl) rfl (by kernel_rfl) (fun _ _ _ h => h) (Or.inl ⟨by rfl, ?yk501⟩) (by assumption) ?rk501
    case yk501 => (intro w' hSw; have c0 := hSw.c0; have c1 := hSw.c1; have c2 := hSw.c2; have c3 := hSw.c3; go_simp; try with_reducible rfl)
    simp only [Act.put, List.setIfInBounds_toArray, List.set_cons_succ, List.set_cons_zero]
    refine takeH (i := 2) (oi := _) (v := (.agg #[.int .i64 x, .int .i64 y, .slice a1 n1 k1, .slice a1' n1' k1'])) 37 #[true, false, true, false, false, false] rfl (by kernel_rfl) (by kernel_rfl) (by kernel_rfl) rfl (by kernel_rfl) (fun _ _ _ h => h) (Or.inl ⟨by rfl, ?yk502⟩) (by assumption) ?rk502
    case yk502 => (intro w' hSw; have c0 := hSw.c0; have c1 := hSw.c1; have c2 := hSw.c2; have c3 := hSw.c3; go_simp; try with_reducible rfl)
    simp only [Act.put, List.setIfInBounds_toArray, List.set_cons_succ, List.set_cons_zero]
    refine wpAnyH_ready (rs := [1]) (by kernel_rfl) (by simp) ?_
    refine AllReadyH.cons (o := _) rfl (fun K hK => ?_) AllReadyH.nil
    go_simp
    refine (hIO _ hT5).mono ?_
    rintro e V3 ⟨rfl, hb3⟩
    have hT5 := hT5.next hb3
    clear hb3
    go_wp2_with fail
    refine hK.out _ _ hT5.lg (fun hHeld => ?_)
    clear hK K
    try simp only [Act.put]
    refine listH (l2 := #[true, true, true, false, false, false]) (by kernel_rfl) ?_
    refine wpAnyH_ready (rs := [3]) (by kernel_rfl) (by simp) ?_
    refine AllReadyH.cons (o := _) rfl (fun K hK => ?_) AllReadyH.nil
    go_simp
    refine (hSO _ hT5).mono ?_
    rintro e V3 ⟨rfl, hb3⟩
    have hT5 := hT5.next hb3
    clear hb3
    go_wp2_with fail
    refine hK.out _ _ hT5.lg (fun hHeld => ?_)
    clear hK K
    try simp only [Act.put]
    refine listH (l2 := #[true, true, true, true, false, false]) (by kernel_rfl) ?_
    refine takeH (i := 4) (oi := _) (v := (.bool true)) 39 #[true, true, true, true, true, false] rfl (by kernel_rfl) (by kernel_rfl) (by kernel_rfl) rfl (by kernel_rfl) (fun _ _ _ h => h) (Or.inl ⟨by rfl, ?yk503⟩) (by assumption) ?rk503
    case yk503 => (intro w' hSw; go_simp; try simp)
    simp only [Act.put, List.setIfInBounds_toArray, List.set_cons_succ, List.set_cons_zero]
    refine wpAnyH_ready (rs := [5]) (by kernel_rfl) (by simp) ?_
    refine AllReadyH.cons (o := _) rfl (fun K hK => ?_) AllReadyH.nil
    go_simp
    refine hK.out _ _ hHeld (fun hHeld => ?_)
    clear hK K
    try simp only [Act.put]
    refine wpAnyH_done (by kernel_rfl) ?_ _
    go_wp2_with fail
    go_ret
    exact ⟨rfl, hT5.below⟩
  have HOK : Hid (specOk os = true) := hts
  have l0 := HT3.out.lg.c0
  have l1 := HT3.out.lg.c1
  have l2 := HT3.out.lg.c2
  have l3 := HT3.out.lg.c3
  clear hts
  go_wp2_with fail
  clear l0 l1 l2 l3
  refine (hSO w3 HT3.out).mono ?_
  rintro e w4 ⟨rfl, hb4⟩
  have HT4 : Hid (TLB w w4 T b c1 os x y a1 n1 k1 a1' n1' k1' l) := HT3.out.next hb4
  clear HT3 hb4
  rcases hls : logOk l with _ | _
  · rw [hls] at hIO hSO
    go_upto_region 5 with fail
    have hT5 := HT4.out.next ((Below.refl w4.heap.size w4).drew)
    refine wp_region_held_drew (S := (fun W => LogBox W (T + 1) x y a1 n1 k1 a1' n1' k1')) (by kernel_rfl) ?_ (fun hHeld => ?_)
    · exact hT5.lg
    refine listH (l2 := #[false, false, false, false, false, false]) (by kernel_rfl) ?_
    refine takeH (i := 0) (oi := _) (v := (.agg #[.int .i64 x, .int .i64 y, .slice a1 n1 k1, .slice a1' n1' k1'])) 35 #[true, false, false, false, false, false] rfl (by kernel_rfl) (by kernel_rfl) (by kernel_rfl) rfl (by kernel_rfl) (fun _ _ _ h => h) (Or.inl ⟨by rfl, ?yk504⟩) (by assumption) ?rk504
    case yk504 => (intro w' hSw; have c0 := hSw.c0; have c1 := hSw.c1; have c2 := hSw.c2; have c3 := hSw.c3; go_simp; try with_reducible rfl)
    simp only [Act.put, List.setIfInBounds_toArray, List.set_cons_succ, List.set_cons_zero]
    refine takeH (i := 2) (oi := _) (v := (.agg #[.int .i64 x, .int .i64 y, .slice a1 n1 k1, .slice a1' n1' k1'])) 37 #[true, false, true, false, false, false] rfl (by kernel_rfl) (by kernel_rfl) (by kernel_rfl) rfl (by kernel_rfl) (fun _ _ _ h => h) (Or.inl ⟨by rfl, ?yk505⟩) (by assumption) ?rk505
    case yk505 => (intro w' hSw; have c0 := hSw.c0; have c1 := hSw.c1; have c2 := hSw.c2; have c3 := hSw.c3; go_simp; try with_reducible rfl)
    simp only [Act.put, List.setIfInBounds_toArray, List.set_cons_succ, List.set_cons_zero]
    refine wpAnyH_ready (rs := [1]) (by kernel_rfl) (by simp) ?_
    refine AllReadyH.cons (o := _) rfl (fun K hK => ?_) AllReadyH.nil
    go_simp
    refine (hIO _ hT5).mono ?_
    rintro e V3 ⟨rfl, hb3⟩
    have hT5 := hT5.next hb3
    clear hb3
    go_wp2_with fail
    refine hK.out _ _ hT5.lg (fun hHeld => ?_)
    clear hK K
    try simp only [Act.put]
    refine listH (l2 := #[true, true, true, false, false, false]) (by kernel_rfl) ?_
    refine wpAnyH_ready (rs := [3]) (by kernel_rfl) (by simp) ?_
    refine AllReadyH.cons (o := _) rfl (fun K hK => ?_) AllReadyH.nil
    go_simp
    refine (hSO _ hT5).mono ?_
    rintro e V3 ⟨rfl, hb3⟩
    have hT5 := hT5.next hb3
    clear hb3
    go_wp2_with fail
    refine hK.out _ _ hT5.lg (fun hHeld => ?_)
    clear hK K
    try simp only [Act.put]
    refine listH (l2 := #[true, true, true, true, false, false]) (by kernel_rfl) ?_
    refine takeH (i := 4) (oi := _) (v := (.bool true)) 39 #[true, true, true, true, true, false] rfl (by kernel_rfl) (by kernel_rfl) (by kernel_rfl) rfl (by kernel_rfl) (fun _ _ _ h => h) (Or.inl ⟨by rfl, ?yk506⟩) (by assumption) ?rk506
    case yk506 => (intro w' hSw; go_simp; try simp)
    simp only [Act.put, List.setIfInBounds_toArray, List.set_cons_succ, List.set_cons_zero]
    refine wpAnyH_ready (rs := [5]) (by kernel_rfl) (by simp) ?_
    refine AllReadyH.cons (o := _) rfl (fun K hK => ?_) AllReadyH.nil
    go_simp
    refine hK.out _ _ hHeld (fun hHeld => ?_)
    clear hK K
    try simp only [Act.put]
    refine wpAnyH_done (by kernel_rfl) ?_ _
    go_wp2_with fail
    go_ret
    exact ⟨rfl, hT5.below⟩
  have HLOK : Hid (logOk l = true) := hls
  obtain ⟨r1, rc, rp, hr⟩ : ∃ r1 rc rp, (r1, rc, rp) = allR os l.list := ⟨_, _, _, rfl⟩
  have HR : Hid ((r1, rc, rp) = allR os l.list) := hr
  rw [← hr] at hIA hSA
  have tb := HT4.out.t
  have l3 := HT4.out.lg.c3
  clear hls hIO hSO hr
  go_wp2_with fail
  clear tb l3
  refine (hIA w4 HT4.out).mono ?_
  rintro e w5 hE
  obtain ⟨x5, c5, rfl, ho5, hb5⟩ := hE.objs
  dsimp only at *
  have hal : Below w5.heap.size w5 (w5.alloc (.cells #[.slice x5 r1.length c5] 25)) := (Below.refl _ _).alloc (Nat.le_refl _) _
  have HT6 : Hid (TLB w (w5.alloc (.cells #[.slice x5 r1.length c5] 25)) T b c1 os x y a1 n1 k1 a1' n1' k1' l) := (HT4.out.next hb5).next hal
  have HX6 : Hid (XT (w5.alloc (.cells #[.slice x5 r1.length c5] 25)) w5.heap.size x5 c5 r1) := ⟨by simp [go_sem], (ho5.wide (Nat.zero_le _) (Nat.le_refl _)).below hal (Nat.le_refl _), by simp⟩
  have tb := HT6.out.t
  have l3 := HT6.out.lg.c3
  clear hE ho5 hb5 hal HT4 hIA
  go_wp2_with fail
  generalize w5.alloc (.cells #[.slice x5 r1.length c5] 25) = W6 at *
  generalize w5.heap.size = X at *
  clear tb l3
  refine (hSA W6 HT6.out).mono ?_
  rintro e w7 hE
  obtain ⟨x7, c7, rfl, -, hb7⟩ := hE.objs
  dsimp only at *
  have hal : Below w7.heap.size w7 (w7.alloc (.cells #[.slice x7 r1.length c7] 25)) := (Below.refl _ _).alloc (Nat.le_refl _) _
  have HT8 : Hid (TLB w (w7.alloc (.cells #[.slice x7 r1.length c7] 25)) T b c1 os x y a1 n1 k1 a1' n1' k1' l) := (HT6.out.next hb7).next hal
  have HX8 : Hid (XT (w7.alloc (.cells #[.slice x7 r1.length c7] 25)) X x5 c5 r1) := (HX6.out.next hb7).next hal
  have l3 := HT8.out.lg.c3
  have tn : (rc != rc) = false := by simp
  clear hE hb7 hal HT6 HX6 hSA
  by_cases h0 : rc = 0
  case neg =>
    have t0 : (rc != 0) = true := by simpa using h0
    clear h0
    go_wp2_with fail
    go_ret
    exact ⟨ret_bool (by simp), HT8.out.below⟩
  subst h0
  have HTR : Hid (TurnedR os l r1) := turnedR_any HOK.out HLOK.out HR.out
  have HRL : Hid (r1.length = 32) := HTR.out.len
  go_wp2_with fail
  generalize w7.alloc (.cells #[.slice x7 r1.length c7] 25) = W8 at *
  clear l3 tn HR
  refine (hLI W8 HT8.out).mono ?_
  rintro e W12 ⟨⟨v, rfl, hO⟩, hb12⟩
  obtain ⟨ia, ic, rfl, hI⟩ := hO.out.at_
  have HI12 : Hid (IntsAt W12 0 W12.heap.size ia (logIds l.list).length (logIds l.list)) := ⟨hI.1, fun i hi => by obtain ⟨g, k, h1, h2, h3⟩ := hI.2 i hi; exact ⟨g, k, h1, Nat.zero_le _, h3⟩⟩
  have HT12 : Hid (TLB w W12 T b c1 os x y a1 n1 k1 a1' n1' k1' l) := HT8.out.next hb12
  have HX12 : Hid (XT W12 X x5 c5 r1) := HX8.out.next hb12
  have HMB0 := logIds_le l.list
  clear HT8 HX8 hb12 hO hI hLI
  obtain ⟨ids, hl⟩ : ∃ ids, ids = logIds l.list := ⟨_, rfl⟩
  have HLI : Hid (ids = logIds l.list) := hl
  rw [← hl] at HI12 HMB0 ⊢
  clear hl
  obtain ⟨m, hm⟩ : ∃ m, m = ids.length := ⟨_, rfl⟩
  have HM : Hid (m = ids.length) := hm
  rw [← hm] at HI12 HMB0 ⊢
  have HMB : Hid (m ≤ 32) := HMB0
  clear hm HMB0
  have HIB : Hid (∀ Wx, Below W12.heap.size W12 Wx → IntsAt Wx 0 W12.heap.size ia m ids) := fun Wx h => HI12.out.below h (Nat.le_refl _)
  clear HI12
  go_wp2_with fail
  go_loopg [12] 32 (fun g iv wr => ∃ i : Nat, i ≤ 32 ∧ Hid (g = 32 - i) ∧ iv = .int .i64 i ∧ Hid (Below W12.heap.size W12 wr) ∧ Hid (TLB w wr T b c1 os x y a1 n1 k1 a1' n1' k1' l) ∧ Hid (XT wr X x5 c5 r1))
  case atStart => exact ⟨0, Nat.zero_le _, rfl, rfl, Below.refl _ _, HT12, HX12⟩
  case round =>
    obtain ⟨i, hi, hg, rfl, HBr, HAr, HXr⟩ := hrel
    clear HT12 HX12
    by_cases hlt : i < 32
    · have hltI : (i : Int) < 32 := by omega
      go_wp2_with fail
      go_loopg [13, 14] m (fun g nv kv wr => ∃ (q : Nat) (nm : Bool), q ≤ m ∧ Hid (g = m - q) ∧ nv = .bool nm ∧ kv = .int .i64 q ∧ Hid (nm = false → ∀ p, p < q → ids[p]? ≠ some i) ∧ Hid (Below W12.heap.size W12 wr) ∧ Hid (TLB w wr T b c1 os x y a1 n1 k1 a1' n1' k1' l) ∧ Hid (XT wr X x5 c5 r1))
      case atStart => exact ⟨0, false, Nat.zero_le _, rfl, rfl, rfl, fun _ p h => by omega, HBr, HAr, HXr⟩
      case round =>
        obtain ⟨q, nm, hq, hgq, rfl, rfl, HN, HBq, HAq, HXq⟩ := hrel
        clear HBr HAr HXr
        by_cases hlq : q < m
        · have hlqI : (q : Int) < (m : Int) := by omega
          have HLQ : Hid (q < m) := hlq
          cases nm
          · have HN2 := Hid.mk' (HN.out rfl)
            clear HN
            obtain ⟨gq, xq, hia, -, hgu, hx, hcx⟩ := (HIB.out _ HBq.out).2 q hlq
            have HXL : Hid (ids[q]? = some xq) := hx
            subst hia
            clear hx
            by_cases hxi : xq = i
            · have HXI : Hid (xq = i) := hxi
              have hxI : (xq : Int) = (i : Int) := by omega
              clear hxi
              go_wp2_with fail
              go_roundg (m - (q + 1))
              case measure => have := hgq.out; have := HLQ.out; omega
              case rel => exact ⟨q + 1, true, by have := HLQ.out; omega, rfl, by simp, wrap_nat (by have := HLQ.out; have := HMB.out; omega), (fun h => by cases h), HBq, HAq, HXq⟩
            · have HXI : Hid (xq ≠ i) := hxi
              have hxI : ((xq : Int) == (i : Int)) = false := beq_eq_false_iff_ne.2 (by omega)
              clear hxi
              go_wp2_with fail
              go_roundg (m - (q + 1))
              case measure => have := hgq.out; have := HLQ.out; omega
              case rel =>
                refine ⟨q + 1, false, by have := HLQ.out; omega, rfl, by simp, wrap_nat (by have := HLQ.out; have := HMB.out; omega), fun _ p h1 h2 => ?_, HBq, HAq, HXq⟩
                by_cases e : p = q
                · subst e; rw [HXL.out] at h2; cases h2; exact absurd rfl HXI.out
                · exact HN2.out p (by omega) h2
          · clear HN
            go_wp2_with fail
            go_roundg (m - (q + 1))
            case measure => have := hgq.out; have := HLQ.out; omega
            case rel => exact ⟨q + 1, true, by have := HLQ.out; omega, rfl, rfl, wrap_nat (by have := HLQ.out; have := HMB.out; omega), (fun h => by cases h), HBq, HAq, HXq⟩
        · have hlqI : ¬ (q : Int) < (m : Int) := by omega
          cases nm
          · have HNI : Hid (i ∉ logIds l.list) := by
              intro h
              rw [← HLI.out] at h
              obtain ⟨p, hp, h2⟩ := List.getElem_of_mem h
              exact HN.out rfl p (by have := HM.out; omega) (by rw [List.getElem?_eq_getElem hp, h2])
            clear HN hgq hq hlq
            obtain ⟨b0, off0, xo, ka, kc, hb0, hx, x0, x1, x2, x3, -⟩ := HAq.out.at_.one hlt
            obtain ⟨rfl, rfl⟩ : b = b0 ∧ 0 = off0 := by have h := Option.some.inj hb0; injection h with h1 h2; exact ⟨h1, h2⟩
            obtain ⟨b1, off1, yo, kb, kd, rfl, hy, y0, y1, y2, y3, -⟩ := HXq.out.at_.one (i := i) (by have := HRL.out; omega)
            have tb := HAq.out.t
            have xb := HXq.out.box
            rw [HRL.out] at xb
            simp only [Nat.zero_add] at x0 x1 x2 x3
            obtain rfl : yo = xo := HTR.out.same i xo yo hx hy HNI.out
            have t3 : (yo.ver != yo.ver) = false := by simp
            have t4 : (yo.kind != yo.kind) = false := by simp
            have t5 : (yo.text.toList != yo.text.toList) = false := by simp
            have t6 : ((yo.kids.length : Int) != (yo.kids.length : Int)) = false := by simp
            clear hb0 hx hy
            go_wp2_with fail
            go_quiet (fail)
            have hbq : Below wr.heap.size wr (wr.drewN nq) := Below.drewN _ _
            go_wp2_with fail
            go_roundg (32 - (i + 1))
            case measure => have := hg.out; omega
            case rel => exact ⟨i + 1, by omega, rfl, by go_num, Hid.mk' (HBq.out.trans (hbq.mono HBq.out.size)), Hid.mk' (HAq.out.next hbq), Hid.mk' (HXq.out.next hbq)⟩
          · clear HN hgq hq hlq
            go_wp2_with fail
            go_quiet (fail)
            have hbq : Below wr.heap.size wr (wr.drewN nq) := Below.drewN _ _
            go_wp2_with fail
            go_roundg (32 - (i + 1))
            case measure => have := hg.out; omega
            case rel => exact ⟨i + 1, by omega, rfl, by go_num, Hid.mk' (HBq.out.trans (hbq.mono HBq.out.size)), Hid.mk' (HAq.out.next hbq), Hid.mk' (HXq.out.next hbq)⟩
    · have hltI : ¬ (i : Int) < 32 := by omega
      have tb := HAr.out.t
      have l0 := HAr.out.lg.c0
      have l1 := HAr.out.lg.c1
      have l2 := HAr.out.lg.c2
      have l3 := HAr.out.lg.c3
      obtain ⟨fa, hfa⟩ : ∃ fa, fa = (logFits os l).1 := ⟨_, rfl⟩
      obtain ⟨fb, hfb⟩ : ∃ fb, fb = (logFits r1 l).1 := ⟨_, rfl⟩
      have HFF : Hid (n1' ≠ 0 → fa = true → fb = false) := fun h1 h2 => by
        rw [hfb]
        exact HTR.out.fits (fun h3 => h1 (by rw [HLEN.out, h3]; rfl)) (by rw [← hfa]; exact h2)
      rw [← hfa] at hF1
      have hF2' := hF2 x5 r1.length c5 r1 X
      rw [← hfb] at hF2'
      clear hfa hfb hF2
      go_wp2_with fail
      clear tb l0 l1 l2 l3
      refine (hF1 wr HAr.out).mono ?_
      rintro e w13 ⟨rfl, hb13⟩
      have HA13 : Hid (TLB w w13 T b c1 os x y a1 n1 k1 a1' n1' k1' l) := HAr.out.next hb13
      have HX13 : Hid (XT w13 X x5 c5 r1) := HXr.out.next hb13
      have xb := HX13.out.box
      have l0 := HA13.out.lg.c0
      have l1 := HA13.out.lg.c1
      have l2 := HA13.out.lg.c2
      have l3 := HA13.out.lg.c3
      clear HAr HXr hb13 hF1
      go_wp2_with fail
      clear xb l0 l1 l2 l3
      refine (hF2' w13 HA13.out (Nat.le_of_lt HX13.out.lt) HX13.out.at_).mono ?_
      rintro e w14 ⟨rfl, hb14⟩
      have HA14 : Hid (TLB w w14 T b c1 os x y a1 n1 k1 a1' n1' k1' l) := HA13.out.next hb14
      have l3 := HA14.out.lg.c3
      clear HA13 HX13 hb14 hF2'
      by_cases hn0 : n1' = 0
      · have tz : ((n1' : Int) == 0) = true := by simp [hn0]
        clear hn0
        go_wp2_with fail
        go_ret
        exact ⟨rfl, HA14.out.below⟩
      · have tz : ((n1' : Int) == 0) = false := beq_eq_false_iff_ne.2 (by omega)
        have HF := Hid.mk' (HFF.out hn0)
        clear hn0 HFF
        cases fa
        · go_wp2_with fail
          go_ret
          exact ⟨rfl, HA14.out.below⟩
        · obtain rfl : fb = false := HF.out rfl
          go_wp2_with fail
          go_ret
          exact ⟨rfl, HA14.out.below⟩
end Go.Proofs.YtnolbfijcnldjaaGreatDoor
