/- At every code the call of laws.FnAct returns true. -/
import Derived.Test.YtnolbfijcnldjaaGreatDoorU25
import Derived.Test.YtnolbfijcnldjaaGreatDoorU28
import Derived.Test.YtnolbfijcnldjaaGreatDoorU31
import Derived.Test.YtnolbfijcnldjaaGreatDoorU21
import Derived.Deep.RegionWith
import Derived.RowKitTokens
namespace Go.Proofs.YtnolbfijcnldjaaGreatDoor
open Go.RowKit

set_option maxHeartbeats 16000000 in
set_option maxRecDepth 20000 in
theorem walkAct (sa : Nat → Addr) (U0 : Nat) (a : Option Addr) (n c : Nat) (zs : List Int) (w : World) (hU0 : U0 ≤ w.heap.size) (HS : Sents w U0 sa) (hc : n ≤ c) (hcb : n ≤ maxLen) (H : BytesAt w w.heap.size a n zs) :
    Calls Tryz.prog 3 #[.slice a n c] w fun e w' => e = .returned (.bool true) ∧ Below w.heap.size w w' := by
  unfold maxLen at hcb
  by_cases hn : 1048576 < n
  · have hnI : (1048576 : Int) < (n : Int) := by omega
    go_enter Tryz.func3, Tryz.ntmps3
    go_wp2_with fail
    go_ret
    exact ⟨rfl, Below.refl _ _⟩
  have hnI : ¬ (1048576 : Int) < (n : Int) := by omega
  go_enter Tryz.func3, Tryz.ntmps3
  go_wp2_with fail
  refine (drawAct a n c zs w (by omega) hc H).mono ?_
  rintro e w1 ⟨⟨b, k, c1, os, o, rfl, hD⟩, hb1⟩
  clear hnI hn H
  have hb2 : Below w1.heap.size w1 ((w1.alloc (.cells #[.slice (some ⟨b, 0, none⟩) k c1] 25)).alloc (.cells #[.int .i64 o.kind, .int .i64 o.dir, .string o.name, .int .i64 o.dir2, .string o.name2, .int .i64 o.id, .string o.text] 27)) := ((Below.refl _ _).alloc (Nat.le_refl _) _).alloc (by simp) _
  have HA : Hid (AC w ((w1.alloc (.cells #[.slice (some ⟨b, 0, none⟩) k c1] 25)).alloc (.cells #[.int .i64 o.kind, .int .i64 o.dir, .string o.name, .int .i64 o.dir2, .string o.name2, .int .i64 o.id, .string o.text] 27)) w1.heap.size b k c1 os o) :=
    ⟨hb1.trans (hb2.mono hb1.size), by simp [go_sem], by simp [go_sem], by simp [go_sem], by simp [go_sem], by simp [go_sem], by simp [go_sem], by simp [go_sem], by simp [go_sem], hD.at_.below hb2 (Nat.le_refl _), hb1.size, by simp⟩
  have hS1 : Sizes os 1048576 := hD.bn.sizes
  have hSZ : OpSz o := opb_sz hD.op
  have hk32 : k ≤ 32 := hD.le
  have HKL : Hid (k = os.length) := hD.at_.len
  have hIM := fun L V w hU HS hV H => implActDo sa U0 L V b c1 k o os w hU HS hS1 hSZ hV H
  have hSP := fun L V w hV H => specActDo L V b c1 k o os w hS1 hSZ hV H
  obtain ⟨rl, rk, hr⟩ : ∃ rl rk, (rl, rk) = actR os o := ⟨_, _, rfl⟩
  rw [← hr] at hIM hSP
  have HR : Hid ((rl, rk) = actR os o) := hr
  have hID := fun w => implOpIds o w hSZ
  have e0 := HA.out.t
  have z0 := HA.out.k0
  have z1 := HA.out.k1
  have z2 := HA.out.k2
  have z3 := HA.out.k3
  have z4 := HA.out.k4
  have z5 := HA.out.k5
  have z6 := HA.out.k6
  clear hD hb1 hb2 hr
  simp only [LOp.val] at hID ⊢
  go_wp2_with fail
  generalize hW2 : ((w1.alloc (.cells #[.slice (some ⟨b, 0, none⟩) k c1] 25)).alloc (.cells #[.int .i64 o.kind, .int .i64 o.dir, .string o.name, .int .i64 o.dir2, .string o.name2, .int .i64 o.id, .string o.text] 27)) = W2 at *
  generalize hTT : w1.heap.size = T at *
  clear hW2 hTT e0 z0 z1 z2 z3 z4 z5 z6
  refine (hIM w.heap.size T W2 (Nat.le_trans hU0 HA.out.below.size) (HS.below HA.out.below hU0) (by have := HA.out.lt; omega) HA.out.at_).mono ?_
  rintro e w3 hE
  obtain ⟨x5, c5, rfl, ho5, hb5⟩ := hE.objs
  dsimp only at *
  have HA4 : Hid (AC w (w3.alloc (.cells #[.slice x5 rl.length c5] 25)) T b k c1 os o) := (HA.out.next hb5).next ((Below.refl _ _).alloc (Nat.le_refl _) _)
  have e0 := HA4.out.t
  have z0 := HA4.out.k0
  have z1 := HA4.out.k1
  have z2 := HA4.out.k2
  have z3 := HA4.out.k3
  have z4 := HA4.out.k4
  have z5 := HA4.out.k5
  have z6 := HA4.out.k6
  have HX4 : Hid (XT (w3.alloc (.cells #[.slice x5 rl.length c5] 25)) w3.heap.size x5 c5 rl) := ⟨by simp [go_sem], (ho5.wide (Nat.zero_le _) (Nat.le_refl _)).below ((Below.refl _ _).alloc (Nat.le_refl _) _) (Nat.le_refl _), by simp⟩
  clear hE ho5 hb5 HA hIM
  go_wp2_with fail
  generalize w3.alloc (.cells #[.slice x5 rl.length c5] 25) = W4 at *
  generalize w3.heap.size = X at *
  clear e0 z0 z1 z2 z3 z4 z5 z6
  refine (hSP w.heap.size T W4 (by have := HA4.out.lt; omega) HA4.out.at_).mono ?_
  rintro e w5 hE
  obtain ⟨x7, c7, rfl, ho7, hb7⟩ := hE.objs
  dsimp only at *
  have HA6 : Hid (AC w (w5.alloc (.cells #[.slice x7 rl.length c7] 25)) T b k c1 os o) := (HA4.out.next hb7).next ((Below.refl _ _).alloc (Nat.le_refl _) _)
  have HX6 : Hid (XT (w5.alloc (.cells #[.slice x7 rl.length c7] 25)) X x5 c5 rl) := (HX4.out.next hb7).next ((Below.refl _ _).alloc (Nat.le_refl _) _)
  have HY6 : Hid (XT (w5.alloc (.cells #[.slice x7 rl.length c7] 25)) w5.heap.size x7 c7 rl) := ⟨by simp [go_sem], (ho7.wide (Nat.zero_le _) (Nat.le_refl _)).below ((Below.refl _ _).alloc (Nat.le_refl _) _) (Nat.le_refl _), by simp⟩
  have xb := HX6.out.box
  have yb := HY6.out.box
  clear hE ho7 hb7 HA4 HX4 hSP
  go_wp2_with fail
  generalize w5.alloc (.cells #[.slice x7 rl.length c7] 25) = W6 at *
  generalize w5.heap.size = Y at *
  clear xb yb
  refine (implSame x5 x7 rl.length rl.length c5 c7 rl rl 0 X 0 Y W6 (Nat.le_of_lt HX6.out.lt) (Nat.le_of_lt HY6.out.lt) HX6.out.at_ HY6.out.at_).mono ?_
  rintro e w7 ⟨rfl, hb7⟩
  rw [same_rfl]
  have HA7 : Hid (AC w w7 T b k c1 os o) := HA6.out.next hb7
  have HX7 : Hid (XT w7 X x5 c5 rl) := HX6.out.next hb7
  have e0 := HA7.out.t
  clear HA6 HX6 HY6 hb7
  go_wp2_with fail
  clear e0
  refine (specTreeOk (some ⟨b, 0, none⟩) k c1 os w.heap.size T w7 hS1 (by have := HA7.out.lt; omega) HA7.out.at_).mono ?_
  rintro e w8 ⟨rfl, hb8⟩
  have HA8 : Hid (AC w w8 T b k c1 os o) := HA7.out.next hb8
  have HX8 : Hid (XT w8 X x5 c5 rl) := HX7.out.next hb8
  clear HA7 HX7 hb8
  rcases hts : specOk os with _ | _
  · have hno : (rl, rk) = (([] : List LObj), (8 : Int)) := by rw [HR.out]; unfold actR; rw [if_neg (by rw [hts]; simp)]
    obtain ⟨rfl, rfl⟩ := Prod.mk.inj hno
    have xb := HX8.out.box
    simp only [List.length_nil] at xb
    clear hno
    go_wp2_with fail
    go_ret
    exact ⟨ret_bool (by simp), HA8.out.below⟩
  have HF : Hid (FitR os o rl rk) := fit_any hts HR.out
  have hkk : k = 32 := by rw [HKL.out]; exact ok_len hts
  subst hkk
  have HRL : Hid (rl.length = 32) := HF.out.len
  have HOK : Hid (specOk os = true) := hts
  clear hts hk32 HR
  have xb := HX8.out.box
  go_upto_region 10 with fail
  go_cut [66] (fun sv wx => sv = .bool false ∧ Hid (AC w wx T b 32 c1 os o) ∧ Hid (XT wx X x5 c5 rl))
  case first =>
    go_wp2_with fail
    refine (implTreeOk x5 rl.length c5 rl 0 X w8 (Nat.le_of_lt HX8.out.lt) HX8.out.at_).mono ?_
    rintro e w9 ⟨rfl, hb9⟩
    rw [HF.out.ok]
    have HA9 : Hid (AC w w9 T b 32 c1 os o) := HA8.out.next hb9
    have HX9 : Hid (XT w9 X x5 c5 rl) := HX8.out.next hb9
    clear xb HA8 HX8 hb9
    by_cases hrk : rk = 0
    · subst hrk
      go_wp2_with fail
      go_meet
      exact ⟨by simp, HA9, HX9⟩
    · have tk : (rk != 0) = true := by simpa using hrk
      have HSM : Hid (rl = os) := HF.out.same hrk
      have xb := HX9.out.box
      have e0 := HA9.out.t
      clear hrk
      go_wp2_with fail
      refine (implSame x5 (some ⟨b, 0, none⟩) rl.length 32 c5 c1 rl os 0 X w.heap.size T w9 (Nat.le_of_lt HX9.out.lt) (by have := HA9.out.lt; omega) HX9.out.at_ HA9.out.at_).mono ?_
      rintro e w10 ⟨rfl, hb10⟩
      rw [show listEq oSame rl os = true by rw [HSM.out]; exact same_rfl os]
      go_wp2_with fail
      go_meet
      exact ⟨by simp, Hid.mk' (HA9.out.next hb10), Hid.mk' (HX9.out.next hb10)⟩
  obtain ⟨rfl, HA11, HX11⟩ := hcut
  obtain ⟨W11, rfl⟩ : ∃ W11, W11 = wc := ⟨_, rfl⟩
  clear xb HA8 HX8
  have z0 := HA11.out.k0
  have z1 := HA11.out.k1
  have z2 := HA11.out.k2
  have z3 := HA11.out.k3
  have z4 := HA11.out.k4
  have z5 := HA11.out.k5
  have z6 := HA11.out.k6
  go_wp2_with fail
  clear z0 z1 z2 z3 z4 z5 z6
  refine (hID W11).mono ?_
  rintro e W12 ⟨⟨v, rfl, hO⟩, hb12⟩
  obtain ⟨ia, ic, rfl, hI⟩ := hO.out.at_
  have HI12 : Hid (IntsAt W12 0 W12.heap.size ia (opIds o).length (opIds o)) := ⟨hI.1, fun i hi => by obtain ⟨g, k, h1, h2, h3⟩ := hI.2 i hi; exact ⟨g, k, h1, Nat.zero_le _, h3⟩⟩
  have HA12 : Hid (AC w W12 T b 32 c1 os o) := HA11.out.next hb12
  have HX12 : Hid (XT W12 X x5 c5 rl) := HX11.out.next hb12
  clear HA11 HX11 hb12 hO hI hID
  obtain ⟨l, hl⟩ : ∃ l, l = opIds o := ⟨_, rfl⟩
  have HLI : Hid (l = opIds o) := hl
  rw [← hl] at HI12 ⊢
  clear hl
  obtain ⟨m, hm⟩ : ∃ m, m = l.length := ⟨_, rfl⟩
  have HM : Hid (m = l.length) := hm
  rw [← hm] at HI12 ⊢
  clear hm
  have HIB : Hid (∀ Wx, Below W12.heap.size W12 Wx → IntsAt Wx 0 W12.heap.size ia m l) := fun Wx h => HI12.out.below h (Nat.le_refl _)
  clear HI12
  go_wp2_with fail
  go_loopg [10, 11] 32 (fun g tv iv wr => ∃ (i tn : Nat), i ≤ 32 ∧ Hid (g = 32 - i) ∧ tv = .int .i64 tn ∧ iv = .int .i64 i ∧ Hid (tn = turnedN os rl i) ∧ Hid (Below W12.heap.size W12 wr) ∧ Hid (AC w wr T b 32 c1 os o) ∧ Hid (XT wr X x5 c5 rl))
  case atStart => exact ⟨0, 0, Nat.zero_le _, rfl, rfl, rfl, rfl, Below.refl _ _, HA12, HX12⟩
  case round =>
    obtain ⟨i, tn, hi, hg, rfl, rfl, HTN, HBr, HAr, HXr⟩ := hrel
    clear HA12 HX12
    by_cases hlt : i < 32
    · have hltI : (i : Int) < 32 := by omega
      go_wp2_with fail
      go_loopg [12, 13] m (fun g nv kv wr => ∃ (q : Nat) (nm : Bool), q ≤ m ∧ Hid (g = m - q) ∧ nv = .bool nm ∧ kv = .int .i64 q ∧ Hid (nm = false → ∀ p, p < q → l[p]? ≠ some i) ∧ Hid (Below W12.heap.size W12 wr) ∧ Hid (AC w wr T b 32 c1 os o) ∧ Hid (XT wr X x5 c5 rl))
      case atStart => exact ⟨0, false, Nat.zero_le _, rfl, rfl, rfl, fun _ p h => by omega, HBr, HAr, HXr⟩
      case round =>
        obtain ⟨q, nm, hq, hgq, rfl, rfl, HN, HBq, HAq, HXq⟩ := hrel
        clear HBr HAr HXr
        by_cases hlq : q < m
        · have hlqI : (q : Int) < (m : Int) := by omega
          have HLQ : Hid (q < m) := hlq
          have HMB : Hid (m ≤ 3) := by show _ ≤ _; rw [HM.out, HLI.out]; exact opIds_le o
          cases nm
          · have HN2 := Hid.mk' (HN.out rfl)
            clear HN
            obtain ⟨gq, x, hia, -, hgu, hx, hcx⟩ := (HIB.out _ HBq.out).2 q hlq
            have HXL : Hid (l[q]? = some x) := hx
            subst hia
            clear hx
            by_cases hxi : x = i
            · have HXI : Hid (x = i) := hxi
              have hxI : (x : Int) = (i : Int) := by omega
              clear hxi
              go_wp2_with fail
              go_roundg (m - (q + 1))
              case measure => have := hgq.out; have := HLQ.out; omega
              case rel => exact ⟨q + 1, true, by have := HLQ.out; omega, rfl, by simp, wrap_nat (by have := HLQ.out; have := HMB.out; omega), (fun h => by cases h), HBq, HAq, HXq⟩
            · have HXI : Hid (x ≠ i) := hxi
              have hxI : ((x : Int) == (i : Int)) = false := beq_eq_false_iff_ne.2 (by omega)
              clear hxi
              go_wp2_with fail
              go_roundg (m - (q + 1))
              case measure => have := hgq.out; have := HLQ.out; omega
              case rel =>
                refine ⟨q + 1, false, by have := HLQ.out; omega, rfl, by simp, wrap_nat (by have := HLQ.out; have := HMB.out; omega), fun _ p h1 h2 => ?_, HBq, HAq, HXq⟩
                by_cases e : p = q
                · subst e; rw [HXL.out] at h2; cases h2; exact absurd rfl HXI.out
                · exact HN2.out p (by omega) h2
          · clear HN
            go_wp2_with fail
            go_roundg (m - (q + 1))
            case measure => have := hgq.out; have := HLQ.out; omega
            case rel => exact ⟨q + 1, true, by have := HLQ.out; omega, rfl, rfl, wrap_nat (by have := HLQ.out; have := HMB.out; omega), (fun h => by cases h), HBq, HAq, HXq⟩
        · have hlqI : ¬ (q : Int) < (m : Int) := by omega
          have HNI : Hid (i ∈ opIds o → nm = true) := by
            intro h
            rw [← HLI.out] at h
            obtain ⟨p, hp, h2⟩ := List.getElem_of_mem h
            cases hnm : nm
            · exact absurd (by rw [List.getElem?_eq_getElem hp, h2]) (HN.out hnm p (by have := HM.out; omega))
            · rfl
          clear HN hgq hq hlq
          obtain ⟨b0, off0, x, ka, kc, hb0, hx, x0, x1, x2, x3, -⟩ := HAq.out.at_.one hlt
          obtain ⟨rfl, rfl⟩ : b = b0 ∧ 0 = off0 := by have h := Option.some.inj hb0; injection h with h1 h2; exact ⟨h1, h2⟩
          obtain ⟨b1, off1, y, kb, kd, rfl, hy, y0, y1, y2, y3, -⟩ := HXq.out.at_.one (i := i) (by have := HRL.out; omega)
          have tb := HAq.out.t
          have xb := HXq.out.box
          rw [HRL.out] at xb
          simp only [Nat.zero_add] at x0 x1 x2 x3
          have HTB : Hid (turnedN os rl (i + 1) = turnedN os rl i + if decide (x.ver < y.ver) = true then 1 else 0) := by
            show _ = _
            rw [turnedN_succ, turnB_at hx hy]
          have HXV : Hid (0 ≤ x.ver ∧ x.ver ≤ 1000000) := ok_ver HOK.out hx
          have HTI : Hid (tn ≤ 32) := by show _ ≤ _; rw [HTN.out]; exact Nat.le_trans (turnedN_le _ _ _) hi
          have hT := HF.out.turn i x y hx hy
          clear hb0 hx hy
          rcases hT with hyx | ⟨hv, hin⟩
          · subst hyx
            have HTZ : Hid (turnedN os rl (i + 1) = tn) := by show _ = _; rw [HTB.out, HTN.out]; simp
            have t1 : decide (wrap64 (y.ver + 1) < y.ver) = false := by rw [wrap_ver HXV.out.1 HXV.out.2]; simp; omega
            have t2 : decide (y.ver < y.ver) = false := by simp
            have t3 : (y.ver != y.ver) = false := by simp
            have t4 : (y.kind != y.kind) = false := by simp
            have t5 : (y.text.toList != y.text.toList) = false := by simp
            clear HTB x3 y3
            cases nm
            · go_wp2_with fail
              go_quiet (fail)
              have hbq : Below wr.heap.size wr (wr.drewN nq) := Below.drewN _ _
              have HBn := Hid.mk' (HBq.out.trans (hbq.mono HBq.out.size))
              have HAn := Hid.mk' (HAq.out.next hbq)
              have HXn := Hid.mk' (HXq.out.next hbq)
              have tbn := (hbq.cell (cell_lt tb)).trans tb
              have xbn := (hbq.cell (cell_lt xb)).trans xb
              have x1n := (hbq.cell (cell_lt x1)).trans x1
              have y1n := (hbq.cell (cell_lt y1)).trans y1
              clear HBq HAq HXq tb xb x0 x1 x2 y0 y1 y2
              go_wp2_with fail
              generalize wr.drewN nq = wq at *
              go_quiet (fail)
              have hbq2 : Below wq.heap.size wq (wq.drewN nq) := Below.drewN _ _
              go_wp2_with fail
              go_roundg (32 - (i + 1))
              case measure => have := hg.out; omega
              case rel => exact ⟨i + 1, tn, by omega, rfl, rfl, by go_num, Hid.mk' HTZ.out.symm, Hid.mk' (HBn.out.trans (hbq2.mono HBn.out.size)), Hid.mk' (HAn.out.next hbq2), Hid.mk' (HXn.out.next hbq2)⟩
            · go_wp2_with fail
              go_quiet (fail)
              have hbq : Below wr.heap.size wr (wr.drewN nq) := Below.drewN _ _
              have HBn := Hid.mk' (HBq.out.trans (hbq.mono HBq.out.size))
              have HAn := Hid.mk' (HAq.out.next hbq)
              have HXn := Hid.mk' (HXq.out.next hbq)
              have tbn := (hbq.cell (cell_lt tb)).trans tb
              have xbn := (hbq.cell (cell_lt xb)).trans xb
              have x1n := (hbq.cell (cell_lt x1)).trans x1
              have y1n := (hbq.cell (cell_lt y1)).trans y1
              clear HBq HAq HXq tb xb x0 x1 x2 y0 y1 y2
              go_wp2_with fail
              generalize wr.drewN nq = wq at *
              go_quiet (fail)
              have hbq2 : Below wq.heap.size wq (wq.drewN nq) := Below.drewN _ _
              go_wp2_with fail
              go_roundg (32 - (i + 1))
              case measure => have := hg.out; omega
              case rel => exact ⟨i + 1, tn, by omega, rfl, rfl, by go_num, Hid.mk' HTZ.out.symm, Hid.mk' (HBn.out.trans (hbq2.mono HBn.out.size)), Hid.mk' (HAn.out.next hbq2), Hid.mk' (HXn.out.next hbq2)⟩
          · obtain rfl : nm = true := HNI.out hin
            have HTZ : Hid (turnedN os rl (i + 1) = tn + 1) := by show _ = _; rw [HTB.out, HTN.out, if_pos (by simp; omega)]
            have t1 : decide (wrap64 (x.ver + 1) < y.ver) = false := by rw [wrap_ver HXV.out.1 HXV.out.2]; simp; omega
            have t2 : decide (y.ver < x.ver) = false := by simp; omega
            have t3 : decide (x.ver < y.ver) = true := by simp; omega
            clear HTB x3 y3 hv hin
            go_wp2_with fail
            go_quiet (fail)
            have hbq : Below wr.heap.size wr (wr.drewN nq) := Below.drewN _ _
            have HBn := Hid.mk' (HBq.out.trans (hbq.mono HBq.out.size))
            have HAn := Hid.mk' (HAq.out.next hbq)
            have HXn := Hid.mk' (HXq.out.next hbq)
            have tbn := (hbq.cell (cell_lt tb)).trans tb
            have xbn := (hbq.cell (cell_lt xb)).trans xb
            have x1n := (hbq.cell (cell_lt x1)).trans x1
            have y1n := (hbq.cell (cell_lt y1)).trans y1
            clear HBq HAq HXq tb xb x0 x1 x2 y0 y1 y2
            go_wp2_with fail
            generalize wr.drewN nq = wq at *
            go_quiet (fail)
            have hbq2 : Below wq.heap.size wq (wq.drewN nq) := Below.drewN _ _
            go_wp2_with fail
            go_roundg (32 - (i + 1))
            case measure => have := hg.out; omega
            case rel => exact ⟨i + 1, tn + 1, by omega, rfl, wrap_nat (by have := HTI.out; omega), by go_num, Hid.mk' HTZ.out.symm, Hid.mk' (HBn.out.trans (hbq2.mono HBn.out.size)), Hid.mk' (HAn.out.next hbq2), Hid.mk' (HXn.out.next hbq2)⟩
    · have hltI : ¬ (i : Int) < 32 := by omega
      obtain rfl : i = 32 := by omega
      by_cases hrk : rk = 0
      · have h1 := (HF.out.some_ hrk).1
        have h2 := (HF.out.some_ hrk).2
        rw [← HTN.out] at h1 h2
        rw [← HLI.out, ← HM.out] at h2
        have h1I : (1 : Int) ≤ (tn : Int) := by omega
        have h2I : (tn : Int) ≤ (m : Int) := by omega
        subst hrk
        go_wp2_with fail
        go_ret
        exact ⟨ret_bool (by simp), HAr.out.below⟩
      · have tk : (rk != 0) = true := by simpa using hrk
        clear hrk
        go_wp2_with fail
        go_ret
        exact ⟨ret_bool (by simp), HAr.out.below⟩
end Go.Proofs.YtnolbfijcnldjaaGreatDoor
