/- At every two codes the call of laws.FnActOrder returns true. -/
import Derived.Test.YtnolbfijcnldjaaGreatDoorU25
import Derived.Test.YtnolbfijcnldjaaGreatDoorU34
import Derived.Deep.RegionWith
import Derived.RowKitTokens
namespace Go.Proofs.YtnolbfijcnldjaaGreatDoor
open Go.RowKit

set_option maxHeartbeats 16000000 in
set_option maxRecDepth 20000 in
theorem walkActOrder (sa : Nat → Addr) (U0 : Nat) (a : Option Addr) (n c : Nat) (zs : List Int) (a' : Option Addr) (n' c' : Nat) (zs' : List Int) (w : World) (hU0 : U0 ≤ w.heap.size) (HS : Sents w U0 sa) (hc : n ≤ c) (hcb : n ≤ maxLen) (H : BytesAt w w.heap.size a n zs) (hc' : n' ≤ c') (hcb' : n' ≤ maxLen) (H' : BytesAt w w.heap.size a' n' zs') :
    Calls Tryz.prog 6 #[.slice a n c, .slice a' n' c'] w fun e w' => e = .returned (.bool true) ∧ Below w.heap.size w w' := by
  unfold maxLen at hcb hcb'
  by_cases hn : 1048576 < n
  · have hnI : (1048576 : Int) < (n : Int) := by omega
    go_enter Tryz.func6, Tryz.ntmps6
    go_wp2_with fail
    go_ret
    exact ⟨rfl, Below.refl _ _⟩
  have hnI : ¬ (1048576 : Int) < (n : Int) := by omega
  by_cases hn' : 1048576 < n'
  · have hnI' : (1048576 : Int) < (n' : Int) := by omega
    go_enter Tryz.func6, Tryz.ntmps6
    go_wp2_with fail
    go_ret
    exact ⟨rfl, Below.refl _ _⟩
  have hnI' : ¬ (1048576 : Int) < (n' : Int) := by omega
  go_enter Tryz.func6, Tryz.ntmps6
  go_wp2_with fail
  refine (drawAct a n c zs w (by omega) hc H).mono ?_
  rintro e w1 ⟨⟨b, k, c1, os, o, rfl, hD⟩, hb1⟩
  clear hnI hn H
  have hb2 : Below w1.heap.size w1 ((w1.alloc (.cells #[.slice (some ⟨b, 0, none⟩) k c1] 25)).alloc (.cells #[.int .i64 o.kind, .int .i64 o.dir, .string o.name, .int .i64 o.dir2, .string o.name2, .int .i64 o.id, .string o.text] 27)) := ((Below.refl _ _).alloc (Nat.le_refl _) _).alloc (by simp) _
  have HA : Hid (AC w ((w1.alloc (.cells #[.slice (some ⟨b, 0, none⟩) k c1] 25)).alloc (.cells #[.int .i64 o.kind, .int .i64 o.dir, .string o.name, .int .i64 o.dir2, .string o.name2, .int .i64 o.id, .string o.text] 27)) w1.heap.size b k c1 os o) :=
    ⟨hb1.trans (hb2.mono hb1.size), by simp [go_sem], by simp [go_sem], by simp [go_sem], by simp [go_sem], by simp [go_sem], by simp [go_sem], by simp [go_sem], by simp [go_sem], hD.at_.below hb2 (Nat.le_refl _), hb1.size, by simp⟩
  have hS1 : Sizes os 1048576 := hD.bn.sizes
  have hSZ : OpSz o := opb_sz hD.op
  have HKL : Hid (k = os.length) := hD.at_.len
  have HBY : Hid (BytesAt ((w1.alloc (.cells #[.slice (some ⟨b, 0, none⟩) k c1] 25)).alloc (.cells #[.int .i64 o.kind, .int .i64 o.dir, .string o.name, .int .i64 o.dir2, .string o.name2, .int .i64 o.id, .string o.text] 27)) w.heap.size a' n' zs') := H'.below HA.out.below (Nat.le_refl _)
  clear hD hb1 hb2 H'
  simp only [LOp.val]
  go_wp2_with fail
  generalize ((w1.alloc (.cells #[.slice (some ⟨b, 0, none⟩) k c1] 25)).alloc (.cells #[.int .i64 o.kind, .int .i64 o.dir, .string o.name, .int .i64 o.dir2, .string o.name2, .int .i64 o.id, .string o.text] 27)) = W2 at *
  generalize w1.heap.size = T at *
  refine (drawAct a' n' c' zs' W2 (by omega) hc' (HBY.out.wide HA.out.below.size)).mono ?_
  rintro e w3 ⟨⟨b', k', c1', os', p, rfl, hD⟩, hb3⟩
  have hSZ' : OpSz p := opb_sz hD.op
  have hb4 : Below w3.heap.size w3 ((w3.alloc (.cells #[.slice (some ⟨b', 0, none⟩) k' c1'] 25)).alloc (.cells #[.int .i64 p.kind, .int .i64 p.dir, .string p.name, .int .i64 p.dir2, .string p.name2, .int .i64 p.id, .string p.text] 27)) := ((Below.refl _ _).alloc (Nat.le_refl _) _).alloc (by simp) _
  have HA4 : Hid (AC w ((w3.alloc (.cells #[.slice (some ⟨b', 0, none⟩) k' c1'] 25)).alloc (.cells #[.int .i64 p.kind, .int .i64 p.dir, .string p.name, .int .i64 p.dir2, .string p.name2, .int .i64 p.id, .string p.text] 27)) T b k c1 os o) := (HA.out.next hb3).next hb4
  have HP4 : Hid (PB ((w3.alloc (.cells #[.slice (some ⟨b', 0, none⟩) k' c1'] 25)).alloc (.cells #[.int .i64 p.kind, .int .i64 p.dir, .string p.name, .int .i64 p.dir2, .string p.name2, .int .i64 p.id, .string p.text] 27)) (w3.heap.size + 1) p) := ⟨by simp [go_sem], by simp [go_sem], by simp [go_sem], by simp [go_sem], by simp [go_sem], by simp [go_sem], by simp [go_sem], by simp⟩
  have hI1 := fun L V w hU HS hV H => implActDo sa U0 L V b c1 k o os w hU HS hS1 hSZ hV H
  have hI2 := fun L V w hU HS hV H => implActDo sa U0 L V b c1 k p os w hU HS hS1 hSZ' hV H
  have hSP := fun L V w hV H => specActDo L V b c1 k o os w hS1 hSZ hV H
  have hT1 := fun b c n r w hU HS hS hV H => implActDo sa U0 0 w.heap.size b c n p r w hU HS hS hSZ' hV H
  have hT2 := fun b c n r w hU HS hS hV H => implActDo sa U0 0 w.heap.size b c n o r w hU HS hS hSZ hV H
  obtain ⟨r1, r2, hr⟩ : ∃ r1 r2, (r1, r2) = actR os o := ⟨_, _, rfl⟩
  obtain ⟨s1, s2, hs⟩ : ∃ s1 s2, (s1, s2) = actR os p := ⟨_, _, rfl⟩
  rw [← hr] at hI1 hSP
  rw [← hs] at hI2
  have HR : Hid ((r1, r2) = actR os o) := hr
  have HZ : Hid ((s1, s2) = actR os p) := hs
  have hD1 := fun w => implOpIds o w hSZ
  have hD2 := fun w => implOpIds p w hSZ'
  have e0 := HA4.out.t
  have z0 := HA4.out.k0
  have z1 := HA4.out.k1
  have z2 := HA4.out.k2
  have z3 := HA4.out.k3
  have z4 := HA4.out.k4
  have z5 := HA4.out.k5
  have z6 := HA4.out.k6
  clear hD hb3 hb4 HA HBY hr hs hc hc' hn' hnI' hcb hcb' hS1
  simp only [LOp.val] at hI1 hI2 hSP hT1 hT2 hD1 hD2 ⊢
  go_wp2_with fail
  generalize ((w3.alloc (.cells #[.slice (some ⟨b', 0, none⟩) k' c1'] 25)).alloc (.cells #[.int .i64 p.kind, .int .i64 p.dir, .string p.name, .int .i64 p.dir2, .string p.name2, .int .i64 p.id, .string p.text] 27)) = W4 at *
  generalize w3.heap.size = P at *
  clear e0 z0 z1 z2 z3 z4 z5 z6
  refine (hI1 w.heap.size T W4 (Nat.le_trans hU0 HA4.out.below.size) (HS.below HA4.out.below hU0) (by have := HA4.out.lt; omega) HA4.out.at_).mono ?_
  rintro e w5 hE
  obtain ⟨x5, c5, rfl, hx5, ho5, hb5⟩ := hE.objsX
  dsimp only at *
  have HX5 : Hid (r1 ≠ [] → ∃ b, x5 = some ⟨b, 0, none⟩) := hx5
  have hal : Below w5.heap.size w5 (w5.alloc (.cells #[.slice x5 r1.length c5] 25)) := (Below.refl _ _).alloc (Nat.le_refl _) _
  have HA6 : Hid (AC w (w5.alloc (.cells #[.slice x5 r1.length c5] 25)) T b k c1 os o) := (HA4.out.next hb5).next hal
  have HP6 : Hid (PB (w5.alloc (.cells #[.slice x5 r1.length c5] 25)) (P + 1) p) := (HP4.out.next hb5).next hal
  have HX6 : Hid (XT (w5.alloc (.cells #[.slice x5 r1.length c5] 25)) w5.heap.size x5 c5 r1) := ⟨by simp [go_sem], (ho5.wide (Nat.zero_le _) (Nat.le_refl _)).below hal (Nat.le_refl _), by simp⟩
  have e0 := HA6.out.t
  have z0 := HA6.out.k0
  have z1 := HA6.out.k1
  have z2 := HA6.out.k2
  have z3 := HA6.out.k3
  have z4 := HA6.out.k4
  have z5 := HA6.out.k5
  have z6 := HA6.out.k6
  clear hE ho5 hb5 hal hx5 HA4 HP4 hI1
  go_wp2_with fail
  generalize w5.alloc (.cells #[.slice x5 r1.length c5] 25) = W6 at *
  generalize w5.heap.size = X at *
  clear e0 z0 z1 z2 z3 z4 z5 z6
  refine (hSP w.heap.size T W6 (by have := HA6.out.lt; omega) HA6.out.at_).mono ?_
  rintro e w7 hE
  obtain ⟨x7, c7, rfl, -, hb7⟩ := hE.objs
  dsimp only at *
  have hal : Below w7.heap.size w7 (w7.alloc (.cells #[.slice x7 r1.length c7] 25)) := (Below.refl _ _).alloc (Nat.le_refl _) _
  have HA8 : Hid (AC w (w7.alloc (.cells #[.slice x7 r1.length c7] 25)) T b k c1 os o) := (HA6.out.next hb7).next hal
  have HP8 : Hid (PB (w7.alloc (.cells #[.slice x7 r1.length c7] 25)) (P + 1) p) := (HP6.out.next hb7).next hal
  have HX8 : Hid (XT (w7.alloc (.cells #[.slice x7 r1.length c7] 25)) X x5 c5 r1) := (HX6.out.next hb7).next hal
  have e0 := HA8.out.t
  have z0 := HP8.out.k0
  have z1 := HP8.out.k1
  have z2 := HP8.out.k2
  have z3 := HP8.out.k3
  have z4 := HP8.out.k4
  have z5 := HP8.out.k5
  have z6 := HP8.out.k6
  clear hE hb7 hal HA6 HP6 HX6 hSP
  go_wp2_with fail
  generalize w7.alloc (.cells #[.slice x7 r1.length c7] 25) = W8 at *
  clear e0 z0 z1 z2 z3 z4 z5 z6
  refine (hI2 w.heap.size T W8 (Nat.le_trans hU0 HA8.out.below.size) (HS.below HA8.out.below hU0) (by have := HA8.out.lt; omega) HA8.out.at_).mono ?_
  rintro e w9 hE
  obtain ⟨x9, c9, rfl, hx9, ho9, hb9⟩ := hE.objsX
  dsimp only at *
  have HX9 : Hid (s1 ≠ [] → ∃ b, x9 = some ⟨b, 0, none⟩) := hx9
  have hal : Below w9.heap.size w9 (w9.alloc (.cells #[.slice x9 s1.length c9] 25)) := (Below.refl _ _).alloc (Nat.le_refl _) _
  have HA10 : Hid (AC w (w9.alloc (.cells #[.slice x9 s1.length c9] 25)) T b k c1 os o) := (HA8.out.next hb9).next hal
  have HP10 : Hid (PB (w9.alloc (.cells #[.slice x9 s1.length c9] 25)) (P + 1) p) := (HP8.out.next hb9).next hal
  have HX10 : Hid (XT (w9.alloc (.cells #[.slice x9 s1.length c9] 25)) X x5 c5 r1) := (HX8.out.next hb9).next hal
  have HY10 : Hid (XT (w9.alloc (.cells #[.slice x9 s1.length c9] 25)) w9.heap.size x9 c9 s1) := ⟨by simp [go_sem], (ho9.wide (Nat.zero_le _) (Nat.le_refl _)).below hal (Nat.le_refl _), by simp⟩
  have z0 := HA10.out.k0
  have y0 := HP10.out.k0
  have tq : (r2 == r2) = true := by simp
  have tn : (r2 != r2) = false := by simp
  clear hE ho9 hb9 hal hx9 HA8 HP8 HX8 hI2
  by_cases h1 : r2 = 0
  case neg =>
    have t1 : (r2 != 0) = true := by simpa using h1
    clear h1
    go_wp2_with fail
    go_ret
    exact ⟨ret_bool (by simp), HA10.out.below⟩
  by_cases h2 : s2 = 0
  case neg =>
    have t2 : (s2 != 0) = true := by simpa using h2
    subst h1
    clear h2
    go_wp2_with fail
    go_ret
    exact ⟨ret_bool (by simp), HA10.out.below⟩
  subst h1 h2
  by_cases h3 : o.kind = 4
  · have t3 : (o.kind == 4) = true := by simpa using h3
    clear h3
    go_wp2_with fail
    go_ret
    exact ⟨ret_bool (by simp), HA10.out.below⟩
  have t3 : (o.kind == 4) = false := by simpa using h3
  by_cases h4 : p.kind = 4
  · have t4 : (p.kind == 4) = true := by simpa using h4
    clear h3 h4
    go_wp2_with fail
    go_ret
    exact ⟨ret_bool (by simp), HA10.out.below⟩
  have t4 : (p.kind == 4) = false := by simpa using h4
  have H3 : Hid (o.kind ≠ 4) := h3
  have H4 : Hid (p.kind ≠ 4) := h4
  have HF : Hid ((actR os o).2 = 0 ∧ (actR os p).2 = 0) := ⟨by rw [← HR.out], by rw [← HZ.out]⟩
  have HOK : Hid (specOk os = true) := (actR_fine HF.out.1).1
  have HL1 : Hid (r1.length = 32) := by have := actR_32 HOK.out o; rw [← HR.out] at this; exact this
  have HL2 : Hid (s1.length = 32) := by have := actR_32 HOK.out p; rw [← HZ.out] at this; exact this
  have HK1 : Hid (specOk r1 = true) := by have := actR_ok HOK.out o; rw [← HR.out] at this; exact this
  have HK2 : Hid (specOk s1 = true) := by have := actR_ok HOK.out p; rw [← HZ.out] at this; exact this
  obtain ⟨b5, rfl⟩ := HX5.out (list_ne HL1.out)
  obtain ⟨b9, rfl⟩ := HX9.out (list_ne HL2.out)
  clear h3 h4 HX5 HX9
  have z0 := HA10.out.k0
  have z1 := HA10.out.k1
  have z2 := HA10.out.k2
  have z3 := HA10.out.k3
  have z4 := HA10.out.k4
  have z5 := HA10.out.k5
  have z6 := HA10.out.k6
  go_wp2_with fail
  clear z0 z1 z2 z3 z4 z5 z6 y0 t3 t4 tq tn
  refine (hD1 _).mono ?_
  rintro e w11 ⟨⟨v, rfl, hO⟩, hb11⟩
  obtain ⟨ia, ic, rfl, hI⟩ := hO.out.at_
  have HI11 : Hid (IntsAt w11 0 w11.heap.size ia (opIds o).length (opIds o)) := ⟨hI.1, fun i hi => by obtain ⟨g, k, h1, h2, h3⟩ := hI.2 i hi; exact ⟨g, k, h1, Nat.zero_le _, h3⟩⟩
  have HA11 := Hid.mk' (HA10.out.next hb11)
  have HP11 := Hid.mk' (HP10.out.next hb11)
  have HX11 := Hid.mk' (HX10.out.next hb11)
  have HY11 := Hid.mk' (HY10.out.next hb11)
  have z0 := HP11.out.k0
  have z1 := HP11.out.k1
  have z2 := HP11.out.k2
  have z3 := HP11.out.k3
  have z4 := HP11.out.k4
  have z5 := HP11.out.k5
  have z6 := HP11.out.k6
  clear HA10 HP10 HX10 HY10 hI hO hb11 hD1
  obtain ⟨l, hl⟩ : ∃ l, l = opIds o := ⟨_, rfl⟩
  have HLI : Hid (l = opIds o) := hl
  rw [← hl] at HI11 ⊢
  clear hl
  obtain ⟨m, hm⟩ : ∃ m, m = l.length := ⟨_, rfl⟩
  have HM : Hid (m = l.length) := hm
  rw [← hm] at HI11 ⊢
  clear hm
  go_wp2_with fail
  clear z0 z1 z2 z3 z4 z5 z6
  refine (hD2 _).mono ?_
  rintro e w12 ⟨⟨v, rfl, hO⟩, hb12⟩
  obtain ⟨ja, jc, rfl, hI⟩ := hO.out.at_
  have HJ : Hid (∀ Wx, Below w12.heap.size w12 Wx → IntsAt Wx 0 w12.heap.size ja (opIds p).length (opIds p)) := fun Wx hb => by
    have h : IntsAt w12 0 w12.heap.size ja (opIds p).length (opIds p) := ⟨hI.1, fun i hi => by obtain ⟨g, k, h1, h2, h3⟩ := hI.2 i hi; exact ⟨g, k, h1, Nat.zero_le _, h3⟩⟩
    exact h.below hb (Nat.le_refl _)
  have HI : Hid (∀ Wx, Below w12.heap.size w12 Wx → IntsAt Wx 0 w12.heap.size ia m l) := fun Wx hb => by
    have h : IntsAt w12 0 w11.heap.size ia m l := HI11.out.below hb12 (Nat.le_refl _)
    have h2 : IntsAt w12 0 w12.heap.size ia m l := ⟨h.1, fun i hi => by obtain ⟨g, k, h1, h2, h3, h4⟩ := h.2 i hi; exact ⟨g, k, h1, Nat.zero_le _, by have := hb12.size; omega, h4⟩⟩
    exact h2.below hb (Nat.le_refl _)
  have HA12 := Hid.mk' (HA11.out.next hb12)
  have HP12 := Hid.mk' (HP11.out.next hb12)
  have HX12 := Hid.mk' (HX11.out.next hb12)
  have HY12 := Hid.mk' (HY11.out.next hb12)
  clear HA11 HP11 HX11 HY11 hI hO hb12 HI11 hD2
  obtain ⟨l', hl⟩ : ∃ l', l' = opIds p := ⟨_, rfl⟩
  have HLJ : Hid (l' = opIds p) := hl
  rw [← hl] at HJ ⊢
  clear hl
  obtain ⟨m', hm⟩ : ∃ m', m' = l'.length := ⟨_, rfl⟩
  have HM' : Hid (m' = l'.length) := hm
  rw [← hm] at HJ ⊢
  clear hm
  have HMB : Hid (m ≤ 3 ∧ m' ≤ 3) := ⟨by rw [HM.out, HLI.out]; exact opIds_le o, by rw [HM'.out, HLJ.out]; exact opIds_le p⟩
  go_wp2_with fail
  go_loopg [17] m (fun g iv wr => ∃ i : Nat, i ≤ m ∧ Hid (g = m - i) ∧ iv = .int .i64 i ∧ Hid (∀ i', i' < i → ∀ u, l[i']? = some u → u ∉ l') ∧ Hid (Below w12.heap.size w12 wr))
  case atStart => exact ⟨0, Nat.zero_le _, rfl, rfl, fun i' h => by omega, Below.refl _ _⟩
  case round =>
    obtain ⟨i, hi, hg, rfl, HDJ, HBr⟩ := hrel
    by_cases hlt : i < m
    · have hltI : (i : Int) < (m : Int) := by omega
      have HLT : Hid (i < m) := hlt
      obtain ⟨u, HU⟩ : ∃ u, Hid (l[i]? = some u) := ⟨l[i]'(by rw [← HM.out]; exact hlt), List.getElem?_eq_getElem _⟩
      go_wp2_with fail
      go_loopg [18] m' (fun g kv wr => ∃ q : Nat, q ≤ m' ∧ Hid (g = m' - q) ∧ kv = .int .i64 q ∧ Hid (∀ q', q' < q → ∀ v, l'[q']? = some v → v ≠ u) ∧ Hid (Below w12.heap.size w12 wr))
      case atStart => exact ⟨0, Nat.zero_le _, rfl, rfl, fun q' h => by omega, HBr⟩
      case round =>
        obtain ⟨q, hq, hgq, rfl, HN, HBq⟩ := hrel
        clear HBr
        by_cases hlq : q < m'
        · have hlqI : (q : Int) < (m' : Int) := by omega
          have HLQ : Hid (q < m') := hlq
          obtain ⟨g1, u1, hia, -, -, hu1, hc1⟩ := (HI.out _ HBq.out).2 i hlt
          obtain ⟨g2, v2, hja, -, -, hv2, hc2⟩ := (HJ.out _ HBq.out).2 q hlq
          obtain rfl : u = u1 := Option.some.inj (HU.out.symm.trans hu1)
          have HV2 : Hid (l'[q]? = some v2) := hv2
          subst hia hja
          clear hu1 hv2
          by_cases he : v2 = u
          · subst he
            go_wp2_with fail
            go_quiet (fail)
            have hbq : Below wr.heap.size wr (wr.drewN nq) := Below.drewN _ _
            go_wp2_with fail
            go_ret
            exact ⟨rfl, (HA12.out.next (HBq.out.trans (hbq.mono HBq.out.size))).below⟩
          · have HNE : Hid (v2 ≠ u) := he
            have te : ((u : Int) == (v2 : Int)) = false := by simp; omega
            clear he
            go_wp2_with fail
            go_quiet (fail)
            have hbq : Below wr.heap.size wr (wr.drewN nq) := Below.drewN _ _
            go_wp2_with fail
            go_roundg (m' - (q + 1))
            case measure => have := hgq.out; have := HLQ.out; omega
            case rel =>
              refine ⟨q + 1, by have := HLQ.out; omega, rfl, wrap_nat (by have := HMB.out; have := HLQ.out; omega), fun q' hq' v hv => ?_, Hid.mk' (HBq.out.trans (hbq.mono HBq.out.size))⟩
              by_cases e : q' = q
              · subst e; rw [HV2.out] at hv; cases hv; exact HNE.out
              · exact HN.out q' (by omega) v hv
        · have hlqI : ¬ (q : Int) < (m' : Int) := by omega
          have HND : Hid (u ∉ l') := fun hm => by
            obtain ⟨z, hz, he⟩ := List.getElem_of_mem hm
            exact HN.out z (by have := HM'.out; omega) u (by rw [List.getElem?_eq_getElem hz, he]) rfl
          clear HN hgq hlq
          go_wp2_with fail
          go_roundg (m - (i + 1))
          case measure => have := hg.out; have := HLT.out; omega
          case rel =>
            refine ⟨i + 1, by have := HLT.out; omega, rfl, wrap_nat (by have := HMB.out; have := HLT.out; omega), fun i' hi' v hv => ?_, HBq⟩
            by_cases e : i' = i
            · subst e; rw [HU.out] at hv; cases hv; exact HND.out
            · exact HDJ.out i' (by omega) v hv
    · have hltI : ¬ (i : Int) < (m : Int) := by omega
      have HOP : Hid (OrderP os o p) := order_any HF.out.1 HF.out.2 H3.out H4.out (fun j hj hj' => by
        rw [← HLI.out] at hj
        rw [← HLJ.out] at hj'
        obtain ⟨z, hz, he⟩ := List.getElem_of_mem hj
        exact HDJ.out z (by have := HM.out; omega) j (by rw [List.getElem?_eq_getElem hz, he]) hj')
      have HA13 := Hid.mk' (HA12.out.next HBr.out)
      have HP13 := Hid.mk' (HP12.out.next HBr.out)
      have HX13 := Hid.mk' (HX12.out.next HBr.out)
      have HY13 := Hid.mk' (HY12.out.next HBr.out)
      clear HA12 HP12 HX12 HY12 HBr HDJ hg hlt HI HJ
      obtain ⟨u1, u2, hu⟩ : ∃ u1 u2, (u1, u2) = actR r1 p := ⟨_, _, rfl⟩
      obtain ⟨v1, v2, hv⟩ : ∃ v1 v2, (v1, v2) = actR s1 o := ⟨_, _, rfl⟩
      have er : r1 = (actR os o).1 := congrArg Prod.fst HR.out
      have es : s1 = (actR os p).1 := congrArg Prod.fst HZ.out
      obtain rfl : u2 = 0 := by have := HOP.out.c3; rw [← er, ← hu] at this; exact this
      obtain rfl : v2 = 0 := by have := HOP.out.c4; rw [← es, ← hv] at this; exact this
      obtain rfl : u1 = v1 := by have := HOP.out.same; rw [← er, ← es, ← hu, ← hv] at this; exact this
      have xb := HX13.out.box
      have hT1' := fun w hU HS hV H => hT1 b5 c5 r1.length r1 w hU HS (ok_sizes HK1.out) hV H
      have hT2' := fun w hU HS hV H => hT2 b9 c9 s1.length s1 w hU HS (ok_sizes HK2.out) hV H
      rw [← hu] at hT1'
      rw [← hv] at hT2'
      have z0 := HP13.out.k0
      have z1 := HP13.out.k1
      have z2 := HP13.out.k2
      have z3 := HP13.out.k3
      have z4 := HP13.out.k4
      have z5 := HP13.out.k5
      have z6 := HP13.out.k6
      clear er es hu hv hT1 hT2
      go_wp2_with fail
      clear xb z0 z1 z2 z3 z4 z5 z6
      refine (hT1' wr (Nat.le_trans hU0 HA13.out.below.size) (HS.below HA13.out.below hU0) (Nat.le_refl _) (HX13.out.at_.wide (Nat.le_refl _) (Nat.le_of_lt HX13.out.lt))).mono ?_
      rintro e w14 hE
      obtain ⟨x14, c14, rfl, ho14, hb14⟩ := hE.objs
      dsimp only at *
      have hal : Below w14.heap.size w14 (w14.alloc (.cells #[.slice x14 u1.length c14] 25)) := (Below.refl _ _).alloc (Nat.le_refl _) _
      have HA15 : Hid (AC w (w14.alloc (.cells #[.slice x14 u1.length c14] 25)) T b k c1 os o) := (HA13.out.next hb14).next hal
      have HY15 : Hid (XT (w14.alloc (.cells #[.slice x14 u1.length c14] 25)) w9.heap.size (some ⟨b9, 0, none⟩) c9 s1) := (HY13.out.next hb14).next hal
      have HU15 : Hid (XT (w14.alloc (.cells #[.slice x14 u1.length c14] 25)) w14.heap.size x14 c14 u1) := ⟨by simp [go_sem], (ho14.wide (Nat.zero_le _) (Nat.le_refl _)).below hal (Nat.le_refl _), by simp⟩
      have yb := HY15.out.box
      have z0 := HA15.out.k0
      have z1 := HA15.out.k1
      have z2 := HA15.out.k2
      have z3 := HA15.out.k3
      have z4 := HA15.out.k4
      have z5 := HA15.out.k5
      have z6 := HA15.out.k6
      clear hE ho14 hb14 hal HA13 HP13 HX13 HY13 hT1'
      go_wp2_with fail
      generalize w14.alloc (.cells #[.slice x14 u1.length c14] 25) = W15 at *
      generalize w14.heap.size = UB at *
      clear yb z0 z1 z2 z3 z4 z5 z6
      refine (hT2' W15 (Nat.le_trans hU0 HA15.out.below.size) (HS.below HA15.out.below hU0) (Nat.le_refl _) (HY15.out.at_.wide (Nat.le_refl _) (Nat.le_of_lt HY15.out.lt))).mono ?_
      rintro e w16 hE
      obtain ⟨x16, c16, rfl, ho16, hb16⟩ := hE.objs
      dsimp only at *
      have hal : Below w16.heap.size w16 (w16.alloc (.cells #[.slice x16 u1.length c16] 25)) := (Below.refl _ _).alloc (Nat.le_refl _) _
      have HA17 : Hid (AC w (w16.alloc (.cells #[.slice x16 u1.length c16] 25)) T b k c1 os o) := (HA15.out.next hb16).next hal
      have HU17 : Hid (XT (w16.alloc (.cells #[.slice x16 u1.length c16] 25)) UB x14 c14 u1) := (HU15.out.next hb16).next hal
      have HV17 : Hid (XT (w16.alloc (.cells #[.slice x16 u1.length c16] 25)) w16.heap.size x16 c16 u1) := ⟨by simp [go_sem], (ho16.wide (Nat.zero_le _) (Nat.le_refl _)).below hal (Nat.le_refl _), by simp⟩
      have ub := HU17.out.box
      have vb := HV17.out.box
      clear hE ho16 hb16 hal HA15 HY15 HU15 hT2'
      go_wp2_with fail
      generalize w16.alloc (.cells #[.slice x16 u1.length c16] 25) = W17 at *
      generalize w16.heap.size = VB at *
      clear ub vb
      refine (implSame x14 x16 u1.length u1.length c14 c16 u1 u1 0 UB 0 VB W17 (Nat.le_of_lt HU17.out.lt) (Nat.le_of_lt HV17.out.lt) HU17.out.at_ HV17.out.at_).mono ?_
      rintro e w18 ⟨rfl, hb18⟩
      rw [same_rfl]
      have HA18 := Hid.mk' (HA17.out.next hb18)
      go_wp2_with fail
      go_ret
      exact ⟨ret_bool (by simp), HA18.out.below⟩
end Go.Proofs.YtnolbfijcnldjaaGreatDoor
