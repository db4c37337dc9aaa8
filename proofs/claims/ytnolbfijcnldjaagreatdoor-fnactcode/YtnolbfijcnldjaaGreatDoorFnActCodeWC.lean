/- At every code the call of laws.FnActCode returns true. -/
import Derived.Test.YtnolbfijcnldjaaGreatDoorU25
import Derived.Test.YtnolbfijcnldjaaGreatDoorU27
import Derived.Test.YtnolbfijcnldjaaGreatDoorU29
import Derived.Test.YtnolbfijcnldjaaGreatDoorU21
import Derived.Deep.RegionWith
import Derived.RowKitTokens
namespace Go.Proofs.YtnolbfijcnldjaaGreatDoor
open Go.RowKit

/-- Turned as often as can be. -/
def eqV (os : List LObj) (i : Nat) : Bool := match os[i]? with | some x => x.ver == 1000000 | none => false
/-- One object of the tree. -/
theorem AC.obj {w W : World} {T b k c1 : Nat} {os : List LObj} {o : LOp} (h : AC w W T b k c1 os o) {i : Nat} (hi : i < k) : ∃ x ka kc, os[i]? = some x ∧ W.cell? ⟨b, i * 4, none⟩ = some (.int .i64 x.kind) ∧ W.cell? ⟨b, i * 4 + 1, none⟩ = some (.int .i64 x.ver) ∧ W.cell? ⟨b, i * 4 + 3, none⟩ = some (.slice ka x.kids.length kc) := by
  obtain ⟨b', off, he, -, -, hc⟩ := h.at_.at_ (by omega)
  have he := Option.some.inj he
  injection he with e1 e2
  subst e1 e2
  obtain ⟨x, ka, kn, kc, h1, -, h2, h3, -, h4, h5⟩ := hc i hi
  simp only [Nat.zero_add] at h2 h3 h4
  exact ⟨x, ka, kc, h1, h2, h3, by rw [← h5.len]; exact h4⟩

set_option maxHeartbeats 16000000 in
set_option maxRecDepth 20000 in
theorem walkActCode (sa : Nat → Addr) (U0 : Nat) (a : Option Addr) (n c : Nat) (zs : List Int) (w : World) (hU0 : U0 ≤ w.heap.size) (HS : Sents w U0 sa) (hc : n ≤ c) (hcb : n ≤ maxLen) (H : BytesAt w w.heap.size a n zs) :
    Calls Tryz.prog 8 #[.slice a n c] w fun e w' => e = .returned (.bool true) ∧ Below w.heap.size w w' := by
  unfold maxLen at hcb
  by_cases hn : 1048576 < n
  · have hnI : (1048576 : Int) < (n : Int) := by omega
    go_enter Tryz.func8, Tryz.ntmps8
    go_wp2_with fail
    go_ret
    exact ⟨rfl, Below.refl _ _⟩
  have hnI : ¬ (1048576 : Int) < (n : Int) := by omega
  go_enter Tryz.func8, Tryz.ntmps8
  go_wp2_with fail
  refine (drawAct a n c zs w (by omega) hc H).mono ?_
  rintro e w1 ⟨⟨b, k, c1, os, o, rfl, hD⟩, hb1⟩
  clear hnI hn H
  have hb2 : Below w1.heap.size w1 ((w1.alloc (.cells #[.slice (some ⟨b, 0, none⟩) k c1] 25)).alloc (.cells #[.int .i64 o.kind, .int .i64 o.dir, .string o.name, .int .i64 o.dir2, .string o.name2, .int .i64 o.id, .string o.text] 27)) := ((Below.refl _ _).alloc (Nat.le_refl _) _).alloc (by simp) _
  have HA : Hid (AC w ((w1.alloc (.cells #[.slice (some ⟨b, 0, none⟩) k c1] 25)).alloc (.cells #[.int .i64 o.kind, .int .i64 o.dir, .string o.name, .int .i64 o.dir2, .string o.name2, .int .i64 o.id, .string o.text] 27)) w1.heap.size b k c1 os o) :=
    ⟨hb1.trans (hb2.mono hb1.size), by simp [go_sem], by simp [go_sem], by simp [go_sem], by simp [go_sem], by simp [go_sem], by simp [go_sem], by simp [go_sem], by simp [go_sem], hD.at_.below hb2 (Nat.le_refl _), hb1.size, by simp⟩
  have hS1 : Sizes os 1048576 := hD.bn.sizes
  have hSZ : OpSz o := opb_sz hD.op
  have hk32 : k ≤ 32 := hD.le
  have HKL : Hid (k = os.length) := hD.at_.len
  have hIM := fun L V w hU HS hV H => implActDo sa U0 L V b c1 k o os w hU HS hS1 hSZ hV H
  have hSP := fun L V w hV H => specActDo L V b c1 k o os w hS1 hSZ hV H
  obtain ⟨rl, rk, hr⟩ : ∃ rl rk, (rl, rk) = actR os o := ⟨_, _, rfl⟩
  rw [← hr] at hIM hSP
  have HR : Hid ((rl, rk) = actR os o) := hr
  have e0 := HA.out.t
  have z0 := HA.out.k0
  have z1 := HA.out.k1
  have z2 := HA.out.k2
  have z3 := HA.out.k3
  have z4 := HA.out.k4
  have z5 := HA.out.k5
  have z6 := HA.out.k6
  clear hD hb1 hb2 hr
  simp only [LOp.val]
  go_wp2_with fail
  generalize hW2 : ((w1.alloc (.cells #[.slice (some ⟨b, 0, none⟩) k c1] 25)).alloc (.cells #[.int .i64 o.kind, .int .i64 o.dir, .string o.name, .int .i64 o.dir2, .string o.name2, .int .i64 o.id, .string o.text] 27)) = W2 at *
  generalize hTT : w1.heap.size = T at *
  clear hW2 hTT e0 z0 z1 z2 z3 z4 z5 z6
  refine (hIM w.heap.size T W2 (Nat.le_trans hU0 HA.out.below.size) (HS.below HA.out.below hU0) (by have := HA.out.lt; omega) HA.out.at_).mono ?_
  rintro e w3 hE
  obtain ⟨x5, c5, rfl, ho5, hb5⟩ := hE.objs
  dsimp only at *
  have HA4 : Hid (AC w (w3.alloc (.cells #[.slice x5 rl.length c5] 25)) T b k c1 os o) := (HA.out.next hb5).next ((Below.refl _ _).alloc (Nat.le_refl _) _)
  have e0 := HA4.out.t
  have z0 := HA4.out.k0
  have z1 := HA4.out.k1
  have z2 := HA4.out.k2
  have z3 := HA4.out.k3
  have z4 := HA4.out.k4
  have z5 := HA4.out.k5
  have z6 := HA4.out.k6
  clear hE ho5 hb5 HA hIM
  go_wp2_with fail
  generalize w3.alloc (.cells #[.slice x5 rl.length c5] 25) = W4 at *
  clear e0 z0 z1 z2 z3 z4 z5 z6
  refine (hSP w.heap.size T W4 (by have := HA4.out.lt; omega) HA4.out.at_).mono ?_
  rintro e w5 hE
  obtain ⟨x7, c7, rfl, ho7, hb7⟩ := hE.objs
  dsimp only at *
  have HA6 : Hid (AC w (w5.alloc (.cells #[.slice x7 rl.length c7] 25)) T b k c1 os o) := (HA4.out.next hb7).next ((Below.refl _ _).alloc (Nat.le_refl _) _)
  have e0 := HA6.out.t
  clear hE ho7 hb7 HA4 hSP
  go_wp2_with fail
  generalize w5.alloc (.cells #[.slice x7 rl.length c7] 25) = W6 at *
  clear e0
  refine (specTreeOk (some ⟨b, 0, none⟩) k c1 os w.heap.size T W6 hS1 (by have := HA6.out.lt; omega) HA6.out.at_).mono ?_
  rintro e w7 ⟨rfl, hb7⟩
  have HA7 : Hid (AC w w7 T b k c1 os o) := HA6.out.next hb7
  clear HA6 hb7
  rcases hts : specOk os with _ | _
  · have h8 : (rl, rk) = ([], 8) := by rw [HR.out]; unfold actR; rw [if_neg (by rw [hts]; simp)]
    obtain ⟨rfl, rfl⟩ := Prod.mk.inj h8
    clear h8
    have HTS : Hid (specOk os = false) := hts
    clear hts
    have e0 := HA7.out.t
    go_wp2_with fail
    refine (specTreeOk (some ⟨b, 0, none⟩) k c1 os w.heap.size T w7 hS1 (by have := HA7.out.lt; omega) HA7.out.at_).mono ?_
    rintro e w8 ⟨rfl, hb8⟩
    rw [HTS.out]
    go_wp2_with fail
    go_ret
    exact ⟨rfl, (HA7.out.next hb8).below⟩
  have HTS : Hid (specOk os = true) := hts
  clear hts
  have hOP := fun w => opOk_any o w hSZ.name hSZ.name2 hSZ.text
  simp only [LOp.val] at hOP
  have z0 := HA7.out.k0
  have z1 := HA7.out.k1
  have z2 := HA7.out.k2
  have z3 := HA7.out.k3
  have z4 := HA7.out.k4
  have z5 := HA7.out.k5
  have z6 := HA7.out.k6
  go_wp2_with fail
  refine (hOP _).mono ?_
  rintro e w8 ⟨rfl, rfl⟩
  have HA8 : Hid (AC w (w7.alloc (.cells #[.int .i64 o.kind, .int .i64 o.dir, .string o.name, .int .i64 o.dir2, .string o.name2, .int .i64 o.id, .string o.text] 27)) T b k c1 os o) := HA7.out.next ((Below.refl _ _).alloc (Nat.le_refl _) _)
  generalize w7.alloc (.cells #[.int .i64 o.kind, .int .i64 o.dir, .string o.name, .int .i64 o.dir2, .string o.name2, .int .i64 o.id, .string o.text] 27) = W8 at *
  clear HA7 z0 z1 z2 z3 z4 z5 z6
  rcases hok : opOk o with _ | _
  · have h8 : (rl, rk) = (os, 8) := by rw [HR.out]; unfold actR; rw [if_pos HTS.out, if_neg (by rw [hok]; simp)]
    obtain ⟨rfl, rfl⟩ := Prod.mk.inj h8
    clear h8
    have HOK : Hid (opOk o = false) := hok
    clear hok
    have e0 := HA8.out.t
    go_wp2_with fail
    refine (specTreeOk (some ⟨b, 0, none⟩) k c1 rl w.heap.size T W8 hS1 (by have := HA8.out.lt; omega) HA8.out.at_).mono ?_
    rintro e w9 ⟨rfl, hb9⟩
    rw [HTS.out]
    have HA9 : Hid (AC w w9 T b k c1 rl o) := HA8.out.next hb9
    have z0 := HA9.out.k0
    have z1 := HA9.out.k1
    have z2 := HA9.out.k2
    have z3 := HA9.out.k3
    have z4 := HA9.out.k4
    have z5 := HA9.out.k5
    have z6 := HA9.out.k6
    go_wp2_with fail
    refine (hOP _).mono ?_
    rintro e w10 ⟨rfl, rfl⟩
    rw [HOK.out]
    go_wp2_with fail
    go_ret
    exact ⟨rfl, (HA9.out.next ((Below.refl _ _).alloc (Nat.le_refl _) _)).below⟩
  have HOK : Hid (opOk o = true) := hok
  have HRD : Hid ((rl, rk) = actDo os o) := by show _ = _; rw [HR.out]; unfold actR; rw [if_pos HTS.out, if_pos hok]
  obtain ⟨K, hK, hcp⟩ := code_any HTS.out hok
  rw [← HRD.out] at hK
  dsimp only at hK
  have hkk : k = 32 := by rw [HKL.out]; exact ok_len HTS.out
  obtain ⟨d1, d2⟩ := opOk_dir hok
  obtain ⟨f1, f2⟩ := opOk_dir2 hok
  obtain ⟨g1, g2⟩ := opOk_id hok
  subst hkk
  have HCP : Hid (CodeP os o K) := hcp
  have HK : Hid (rk = (K : Int)) := hK
  clear hok HR HRD hcp hk32 hK
  go_upto_region 8 with fail
  go_cut [9] (fun d wx => d = .bool (dirB os o) ∧ Hid (AC w wx T b 32 c1 os o))
  case first =>
    have zt := HA8.out.t
    have z0 := HA8.out.k0
    have z1 := HA8.out.k1
    by_cases h5 : o.kind = 5
    · have t5 : (o.kind == 5) = true := by simp [h5]
      have HD : Hid (dirB os o = true) := by show _ = _; unfold dirB; rw [t5]; rfl
      clear h5
      go_wp2_with fail
      go_meet
      exact ⟨by rw [HD.out], HA8⟩
    · have t5 : (o.kind == 5) = false := by simp [h5]
      obtain ⟨x, ka, kc, hx, hx0, -, -⟩ := HA8.out.obj (i := o.dir.toNat) (by omega)
      have HD : Hid (dirB os o = (x.kind == 2)) := by show _ = _; unfold dirB; rw [t5, kindOf_at hx]; rfl
      clear h5 hx
      go_wp2_with fail
      go_meet
      exact ⟨by rw [HD.out], HA8⟩
  obtain ⟨rfl, HA9⟩ := hcut
  obtain ⟨W9, rfl⟩ : ∃ W9, W9 = wc := ⟨_, rfl⟩
  clear HA8
  go_upto_region 9 with fail
  go_cut [10] (fun d wx => d = .bool (dir2B os o) ∧ Hid (AC w wx T b 32 c1 os o))
  case first =>
    have zt := HA9.out.t
    have z0 := HA9.out.k0
    have z3 := HA9.out.k3
    by_cases h4 : o.kind = 4
    · have t4 : (o.kind != 4) = false := by simp [h4]
      obtain ⟨x, ka, kc, hx, hx0, -, -⟩ := HA9.out.obj (i := o.dir2.toNat) (by omega)
      have HD : Hid (dir2B os o = (x.kind == 2)) := by show _ = _; unfold dir2B; rw [t4, kindOf_at hx]; rfl
      clear h4 hx
      go_wp2_with fail
      go_meet
      exact ⟨by rw [HD.out], HA9⟩
    · have t4 : (o.kind != 4) = true := by simp [h4]
      have HD : Hid (dir2B os o = true) := by show _ = _; unfold dir2B; rw [t4]; rfl
      clear h4
      go_wp2_with fail
      go_meet
      exact ⟨by rw [HD.out], HA9⟩
  obtain ⟨rfl, HA10⟩ := hcut
  obtain ⟨W10, rfl⟩ : ∃ W10, W10 = wc := ⟨_, rfl⟩
  clear HA9
  have q0 := HCP.out.c0
  have q1 := HCP.out.c1
  have hle := HCP.out.le
  generalize dirB os o = p at *
  generalize dir2B os o = q at *
  have hK := HK.out
  clear HK
  have hrk : rk = 0 ∨ rk = 1 ∨ rk = 2 ∨ rk = 3 ∨ rk = 4 ∨ rk = 5 ∨ rk = 6 ∨ rk = 7 ∨ rk = 8 := by omega
  have HQ : Hid ((K = 0 → p = true ∧ q = true) ∧ (K = 1 → p = false ∨ q = false)) := ⟨q0, q1⟩
  clear q0 q1
  rcases hrk with rfl | rfl | rfl | rfl | rfl | rfl | rfl | rfl | rfl
  · obtain ⟨rfl, rfl⟩ := HQ.out.1 (by omega)
    clear hK
    go_wp2_with fail
    go_ret
    exact ⟨rfl, HA10.out.below⟩
  · have hpq := HQ.out.2 (by omega)
    clear hK HQ
    rcases hpq with rfl | rfl
    · go_wp2_with fail
      go_ret
      exact ⟨rfl, HA10.out.below⟩
    · cases p
      · go_wp2_with fail
        go_ret
        exact ⟨rfl, HA10.out.below⟩
      · go_wp2_with fail
        go_ret
        exact ⟨rfl, HA10.out.below⟩
  · have c2 := HCP.out.c2 (by omega)
    clear hK HQ hle
    go_upto_region 14 with fail
    have S9 := HA10.out.next (Below.refl _ _).drew
    clear HA10
    refine wp_region_held_drew (S := (fun W => AC w W T b 32 c1 os o)) (by kernel_rfl) ?_ (fun hHeld => ?_)
    · exact S9
    refine listH (l2 := #[false, false, false, false, false, false, false, false, false, false]) (by kernel_rfl) ?_
    refine takeH (i := 0) (oi := _) (v := ?vp0) 100 #[true, false, false, false, false, false, false, false, false, false] rfl (by kernel_rfl) (by kernel_rfl) (by kernel_rfl) rfl (by kernel_rfl) (fun _ _ _ h => h) (Or.inl ⟨by rfl, ?yp0⟩) (by assumption) ?rp0
    case yp0 => (intro w' hSw; (try dsimp only at hSw); have xt := hSw.t; have x1 := hSw.k1; have x2 := hSw.k2; have x5 := hSw.k5; go_simp; try with_reducible rfl)
    simp only [Act.put, List.setIfInBounds_toArray, List.set_cons_succ, List.set_cons_zero]
    refine takeH (i := 1) (oi := _) (v := ?vp1) 101 #[true, true, false, false, false, false, false, false, false, false] rfl (by kernel_rfl) (by kernel_rfl) (by kernel_rfl) rfl (by kernel_rfl) (fun _ _ _ h => h) (Or.inl ⟨by rfl, ?yp1⟩) (by assumption) ?rp1
    case yp1 => (intro w' hSw; (try dsimp only at hSw); have xt := hSw.t; have x1 := hSw.k1; have x2 := hSw.k2; have x5 := hSw.k5; go_simp; try with_reducible rfl)
    simp only [Act.put, List.setIfInBounds_toArray, List.set_cons_succ, List.set_cons_zero]
    refine takeH (i := 2) (oi := _) (v := ?vp2) 102 #[true, true, true, false, false, false, false, false, false, false] rfl (by kernel_rfl) (by kernel_rfl) (by kernel_rfl) rfl (by kernel_rfl) (fun _ _ _ h => h) (Or.inl ⟨by rfl, ?yp2⟩) (by assumption) ?rp2
    case yp2 => (intro w' hSw; (try dsimp only at hSw); have xt := hSw.t; have x1 := hSw.k1; have x2 := hSw.k2; have x5 := hSw.k5; go_simp; try with_reducible rfl)
    simp only [Act.put, List.setIfInBounds_toArray, List.set_cons_succ, List.set_cons_zero]
    refine takeH (i := 3) (oi := _) (v := ?vp3) 103 #[true, true, true, true, false, false, false, false, false, false] rfl (by kernel_rfl) (by kernel_rfl) (by kernel_rfl) rfl (by kernel_rfl) (fun _ _ _ h => h) (Or.inl ⟨by rfl, ?yp3⟩) (by assumption) ?rp3
    case yp3 => (intro w' hSw; (try dsimp only at hSw); have xt := hSw.t; have x1 := hSw.k1; have x2 := hSw.k2; have x5 := hSw.k5; go_simp; try with_reducible rfl)
    simp only [Act.put, List.setIfInBounds_toArray, List.set_cons_succ, List.set_cons_zero]
    refine takeH (i := 4) (oi := _) (v := ?vp4) 104 #[true, true, true, true, true, false, false, false, false, false] rfl (by kernel_rfl) (by kernel_rfl) (by kernel_rfl) rfl (by kernel_rfl) (fun _ _ _ h => h) (Or.inl ⟨by rfl, ?yp4⟩) (by assumption) ?rp4
    case yp4 => (intro w' hSw; (try dsimp only at hSw); have xt := hSw.t; have x1 := hSw.k1; have x2 := hSw.k2; have x5 := hSw.k5; go_simp; try with_reducible rfl)
    simp only [Act.put, List.setIfInBounds_toArray, List.set_cons_succ, List.set_cons_zero]
    refine takeH (i := 6) (oi := _) (v := ?vp6) 106 #[true, true, true, true, true, false, true, false, false, false] rfl (by kernel_rfl) (by kernel_rfl) (by kernel_rfl) rfl (by kernel_rfl) (fun _ _ _ h => h) (Or.inl ⟨by rfl, ?yp6⟩) (by assumption) ?rp6
    case yp6 => (intro w' hSw; (try dsimp only at hSw); have xt := hSw.t; have x1 := hSw.k1; have x2 := hSw.k2; have x5 := hSw.k5; go_simp; try with_reducible rfl)
    simp only [Act.put, List.setIfInBounds_toArray, List.set_cons_succ, List.set_cons_zero]
    refine takeH (i := 7) (oi := _) (v := ?vp7) 107 #[true, true, true, true, true, false, true, true, false, false] rfl (by kernel_rfl) (by kernel_rfl) (by kernel_rfl) rfl (by kernel_rfl) (fun _ _ _ h => h) (Or.inl ⟨by rfl, ?yp7⟩) (by assumption) ?rp7
    case yp7 => (intro w' hSw; (try dsimp only at hSw); have xt := hSw.t; have x1 := hSw.k1; have x2 := hSw.k2; have x5 := hSw.k5; go_simp; try with_reducible rfl)
    simp only [Act.put, List.setIfInBounds_toArray, List.set_cons_succ, List.set_cons_zero]
    refine wpAnyH_ready (rs := [5]) (by kernel_rfl) (by simp) ?_
    refine AllReadyH.cons (o := _) rfl (fun K hK => ?_) AllReadyH.nil
    go_simp
    refine (implFind (some ⟨b, 0, none⟩) 32 c1 os w.heap.size T o.dir o.name _ hSZ.name hS1 (by have := S9.lt; omega) S9.at_).mono ?_
    rintro e W10 ⟨rfl, hb10⟩
    have S10 := S9.next hb10
    go_wp2_with fail
    refine hK.out _ _ S10 (fun hHeld => ?_)
    clear hK K
    try simp only [Act.put]
    refine listH (l2 := #[true, true, true, true, true, true, true, true, false, false]) (by kernel_rfl) ?_
    refine takeH (i := 8) (oi := _) (v := ?vp8) 108 #[true, true, true, true, true, true, true, true, true, false] rfl (by kernel_rfl) (by kernel_rfl) (by kernel_rfl) rfl (by kernel_rfl) (fun _ _ _ h => h) (Or.inl ⟨by rfl, ?yp8⟩) (by assumption) ?rp8
    case yp8 => (intro w' hSw; (try dsimp only at hSw); have xt := hSw.t; have x1 := hSw.k1; have x2 := hSw.k2; have x5 := hSw.k5; go_simp; try with_reducible rfl)
    simp only [Act.put, List.setIfInBounds_toArray, List.set_cons_succ, List.set_cons_zero]
    refine wpAnyH_ready (rs := [9]) (by kernel_rfl) (by simp) ?_
    refine AllReadyH.cons (o := _) rfl (fun K hK => ?_) AllReadyH.nil
    go_simp
    refine hK.out _ _ S10 (fun hHeld => ?_)
    clear hK K
    try simp only [Act.put]
    refine listH (l2 := #[true, true, true, true, true, true, true, true, true, true]) (by kernel_rfl) ?_
    refine wpAnyH_done (by kernel_rfl) ?_ _
    go_wp2_with fail
    go_ret
    exact ⟨ret_bool (by simp only [bne_iff_ne, ne_eq]; exact c2), S10.below⟩
  · have c3 := HCP.out.c3 (by omega)
    clear hK HQ hle
    have zt := HA10.out.t
    have z0 := HA10.out.k0
    have z1 := HA10.out.k1
    have z2 := HA10.out.k2
    have z3 := HA10.out.k3
    have z4 := HA10.out.k4
    rcases c3 with ⟨h4, c3⟩ | ⟨h4, c3⟩
    · have t4 : (o.kind == 4) = true := by simp [h4]
      have HC3 : Hid (0 ≤ treeFindV os o.dir2 o.name2) := c3
      clear c3 h4
      go_wp2_with fail
      refine (implFind (some ⟨b, 0, none⟩) 32 c1 os w.heap.size T o.dir2 o.name2 _ hSZ.name2 hS1 (by have := HA10.out.lt; omega) HA10.out.at_).mono ?_
      rintro e W11 ⟨rfl, hb11⟩
      have HF : Hid (AC w W11 T b 32 c1 os o) := HA10.out.next hb11
      have hge := HC3.out
      generalize treeFindV os o.dir2 o.name2 = fv at *
      go_wp2_with fail
      go_ret
      exact ⟨ret_bool (by simp <;> omega), HF.out.below⟩
    · have t4 : (o.kind == 4) = false := by simp [h4]
      have t4' : (o.kind != 4) = true := by simp [h4]
      have HC3 : Hid (0 ≤ treeFindV os o.dir o.name) := c3
      clear c3 h4
      go_wp2_with fail
      refine (implFind (some ⟨b, 0, none⟩) 32 c1 os w.heap.size T o.dir o.name _ hSZ.name hS1 (by have := HA10.out.lt; omega) HA10.out.at_).mono ?_
      rintro e W11 ⟨rfl, hb11⟩
      have HF : Hid (AC w W11 T b 32 c1 os o) := HA10.out.next hb11
      have hge := HC3.out
      generalize treeFindV os o.dir o.name = fv at *
      go_wp2_with fail
      go_ret
      exact ⟨ret_bool (by simp <;> omega), HF.out.below⟩
  · obtain ⟨x', hx', hlen⟩ := HCP.out.c4 (by omega)
    clear hK HQ hle
    obtain ⟨x, ka, kc, hx, -, -, hx3⟩ := HA10.out.obj (i := o.id.toNat) (by omega)
    obtain rfl : x = x' := by rw [hx] at hx'; exact Option.some.inj hx'
    have zt := HA10.out.t
    have z5 := HA10.out.k5
    have hl : (0 : Int) < (x.kids.length : Int) := by omega
    generalize x.kids.length = xl at *
    clear hx hx' hlen
    go_wp2_with fail
    go_ret
    exact ⟨ret_bool (by simp; omega), HA10.out.below⟩
  · have c5 := HCP.out.c5 (by omega)
    clear hK HQ hle
    have zt := HA10.out.t
    have z3 := HA10.out.k3
    have z5 := HA10.out.k5
    go_wp2_with fail
    refine (implUnder (some ⟨b, 0, none⟩) 32 c1 os w.heap.size T o.dir2 o.id _ (by have := HA10.out.lt; omega) HA10.out.at_).mono ?_
    rintro e W11 ⟨rfl, hb11⟩
    have HF := HA10.out.next hb11
    rw [c5]
    go_wp2_with fail
    go_ret
    exact ⟨rfl, HF.below⟩
  · have c6 := HCP.out.c6 (by omega)
    clear hK HQ hle
    obtain ⟨x, ka, kc, hx, hx0, -, -⟩ := HA10.out.obj (i := o.id.toNat) (by omega)
    rw [kindOf_at hx] at c6
    have zt := HA10.out.t
    have z5 := HA10.out.k5
    have tk : (x.kind != 1) = true := by simp [c6]
    clear hx c6
    go_wp2_with fail
    go_ret
    exact ⟨ret_bool (by simp_all), HA10.out.below⟩
  · have c7 := HCP.out.c7 (by omega)
    clear hK HQ hle
    have zt := HA10.out.t
    have z5 := HA10.out.k5
    go_wp2_with fail
    refine (implFresh (some ⟨b, 0, none⟩) 32 c1 os w.heap.size T o.id _ (by have := HA10.out.lt; omega) HA10.out.at_).mono ?_
    rintro e W11 ⟨rfl, hb11⟩
    have HF := HA10.out.next hb11
    rw [c7]
    go_wp2_with fail
    go_ret
    exact ⟨rfl, HF.below⟩
  · have HC8 : Hid (∃ i ∈ opIds o, ∃ x, os[i]? = some x ∧ x.ver = 1000000) := HCP.out.c8 (by omega)
    clear hK HQ hle
    have hID := fun w => implOpIds o w hSZ
    simp only [LOp.val] at hID
    have hne : opIds o ≠ [] := by obtain ⟨i, hi, -⟩ := HC8.out; intro h; rw [h] at hi; simp at hi
    have HBD : Hid (∀ i ∈ opIds o, i < 32) := opIds_bd o
    have hl3 := opIds_le o
    have z0 := HA10.out.k0
    have z1 := HA10.out.k1
    have z2 := HA10.out.k2
    have z3 := HA10.out.k3
    have z4 := HA10.out.k4
    have z5 := HA10.out.k5
    have z6 := HA10.out.k6
    go_wp2_with fail
    refine (hID _).mono ?_
    rintro e W11 ⟨⟨v, rfl, hO⟩, hb11⟩
    obtain ⟨gi, ci, rfl, hg1, hg2, hgc⟩ := hO.out.get hne
    have HA11 : Hid (AC w W11 T b 32 c1 os o) := HA10.out.next hb11
    have HG : Hid (∀ j, j < (opIds o).length → ∃ i, (opIds o)[j]? = some i ∧ W11.cell? ⟨gi, j, none⟩ = some (.int .i64 (i : Int))) := hgc
    clear HA10 hgc hO hb11 hID z0 z1 z2 z3 z4 z5 z6
    obtain ⟨l, hl⟩ : ∃ l, l = opIds o := ⟨_, rfl⟩
    rw [← hl] at HC8 hne HBD hl3 HG ⊢
    clear hl
    obtain ⟨m, hm⟩ : ∃ m, m = l.length := ⟨_, rfl⟩
    have HM : Hid (m = l.length) := hm
    rw [← hm] at hl3 HG ⊢
    clear hm
    go_wp2_with fail
    go_loopg [12, 13] m (fun g wv iv wr => ∃ (j : Nat) (p' : Bool), j ≤ m ∧ Hid (g = m - j) ∧ iv = .int .i64 j ∧ wv = .bool p' ∧ Hid (p' = (l.take j).any (eqV os)) ∧ Hid (Below W11.heap.size W11 wr))
    case atStart => exact ⟨0, false, Nat.zero_le _, rfl, rfl, rfl, rfl, Below.refl _ _⟩
    case round =>
      obtain ⟨j, p', hj, hg, rfl, rfl, HP, HB⟩ := hrel
      by_cases hlt : j < m
      · obtain ⟨i, hi, hci⟩ := HG.out j hlt
        have hi32 : i < 32 := HBD.out i (List.mem_of_getElem? hi)
        have hB2 : Below W11.heap.size W11 wr.drew := by
          have h1 : Below wr.heap.size wr wr.drew := (Below.refl wr.heap.size wr).drew
          exact HB.out.trans (h1.mono HB.out.size)
        have HAr : Hid (AC w wr.drew T b 32 c1 os o) := HA11.out.next hB2
        obtain ⟨x, ka, kc, hx, -, hx1, -⟩ := HAr.out.obj hi32
        have hcr : wr.drew.cell? ⟨gi, j, none⟩ = some (.int .i64 (i : Int)) := by
          have h2 : wr.drew.cell? ⟨gi, j, none⟩ = W11.cell? ⟨gi, j, none⟩ := hB2.cell (p := ⟨gi, j, none⟩) hg2
          rw [h2]; exact hci
        have ht := HAr.out.t
        have hS31 : wr.drew.cell? ⟨T, 0, none⟩ = some (.slice (some ⟨b, 0, none⟩) 32 c1) ∧ wr.drew.cell? ⟨gi, j, none⟩ = some (.int .i64 (i : Int)) ∧ wr.drew.cell? ⟨b, i * 4 + 1, none⟩ = some (.int .i64 x.ver) := ⟨ht, hcr, hx1⟩
        have HN : Hid ((l.take (j + 1)).any (eqV os) = (p' || (x.ver == 1000000))) := by
          have he : eqV os i = (x.ver == 1000000) := by unfold eqV; rw [hx]
          show _ = _
          rw [List.take_add_one, hi, List.any_append, ← HP.out, ← he]
          simp
        have HB2 : Hid (Below W11.heap.size W11 wr.drew) := hB2
        have hltI : (j : Int) < (m : Int) := by omega
        have hi32I : (i : Int) < 32 := by omega
        clear hi hci hx hx1 hcr HP HB HAr ht hB2
        cases p'
        · go_upto_region 31 with fail
          refine wp_region_held_drew (S := (fun W => W.cell? ⟨T, 0, none⟩ = some (.slice (some ⟨b, 0, none⟩) 32 c1) ∧ W.cell? ⟨gi, j, none⟩ = some (.int .i64 (i : Int)) ∧ W.cell? ⟨b, i * 4 + 1, none⟩ = some (.int .i64 x.ver))) (by kernel_rfl) ?_ (fun hHeld => ?_)
          · exact hS31
          refine listH (l2 := #[false, false, false, false, false, false, false, false, false, false, false, false, false, false]) (by kernel_rfl) ?_
          refine takeH (i := 0) (oi := _) (v := ?vv0) 183 #[true, false, false, false, false, false, false, false, false, false, false, false, false, false] rfl (by kernel_rfl) (by kernel_rfl) (by kernel_rfl) rfl (by kernel_rfl) (fun _ _ _ h => h) (Or.inl ⟨by rfl, ?yv0⟩) (by assumption) ?rv0
          case yv0 => (intro w' hSw; (try dsimp only at hSw); have y0 := hSw.1; have y1 := hSw.2.1; have y2 := hSw.2.2; go_simp; try with_reducible rfl)
          simp only [Act.put, List.setIfInBounds_toArray, List.set_cons_succ, List.set_cons_zero]
          refine takeH (i := 1) (oi := _) (v := ?vv1) 184 #[true, true, false, false, false, false, false, false, false, false, false, false, false, false] rfl (by kernel_rfl) (by kernel_rfl) (by kernel_rfl) rfl (by kernel_rfl) (fun _ _ _ h => h) (Or.inl ⟨by rfl, ?yv1⟩) (by assumption) ?rv1
          case yv1 => (intro w' hSw; (try dsimp only at hSw); have y0 := hSw.1; have y1 := hSw.2.1; have y2 := hSw.2.2; go_simp; try with_reducible rfl)
          simp only [Act.put, List.setIfInBounds_toArray, List.set_cons_succ, List.set_cons_zero]
          refine takeH (i := 2) (oi := _) (v := ?vv2) 185 #[true, true, true, false, false, false, false, false, false, false, false, false, false, false] rfl (by kernel_rfl) (by kernel_rfl) (by kernel_rfl) rfl (by kernel_rfl) (fun _ _ _ h => h) (Or.inl ⟨by rfl, ?yv2⟩) (by assumption) ?rv2
          case yv2 => (intro w' hSw; (try dsimp only at hSw); have y0 := hSw.1; have y1 := hSw.2.1; have y2 := hSw.2.2; go_simp; try with_reducible rfl)
          simp only [Act.put, List.setIfInBounds_toArray, List.set_cons_succ, List.set_cons_zero]
          refine takeH (i := 3) (oi := _) (v := ?vv3) 186 #[true, true, true, true, false, false, false, false, false, false, false, false, false, false] rfl (by kernel_rfl) (by kernel_rfl) (by kernel_rfl) rfl (by kernel_rfl) (fun _ _ _ h => h) (Or.inl ⟨by rfl, ?yv3⟩) (by assumption) ?rv3
          case yv3 => (intro w' hSw; (try dsimp only at hSw); have y0 := hSw.1; have y1 := hSw.2.1; have y2 := hSw.2.2; go_simp; try with_reducible rfl)
          simp only [Act.put, List.setIfInBounds_toArray, List.set_cons_succ, List.set_cons_zero]
          refine takeH (i := 4) (oi := _) (v := ?vv4) 187 #[true, true, true, true, true, false, false, false, false, false, false, false, false, false] rfl (by kernel_rfl) (by kernel_rfl) (by kernel_rfl) rfl (by kernel_rfl) (fun _ _ _ h => h) (Or.inl ⟨by rfl, ?yv4⟩) (by assumption) ?rv4
          case yv4 => (intro w' hSw; (try dsimp only at hSw); have y0 := hSw.1; have y1 := hSw.2.1; have y2 := hSw.2.2; go_simp; try with_reducible rfl)
          simp only [Act.put, List.setIfInBounds_toArray, List.set_cons_succ, List.set_cons_zero]
          refine takeH (i := 5) (oi := _) (v := ?vv5) 188 #[true, true, true, true, true, true, false, false, false, false, false, false, false, false] rfl (by kernel_rfl) (by kernel_rfl) (by kernel_rfl) rfl (by kernel_rfl) (fun _ _ _ h => h) (Or.inl ⟨by rfl, ?yv5⟩) (by assumption) ?rv5
          case yv5 => (intro w' hSw; (try dsimp only at hSw); have y0 := hSw.1; have y1 := hSw.2.1; have y2 := hSw.2.2; go_simp; try with_reducible rfl)
          simp only [Act.put, List.setIfInBounds_toArray, List.set_cons_succ, List.set_cons_zero]
          refine takeH (i := 6) (oi := _) (v := ?vv6) 189 #[true, true, true, true, true, true, true, false, false, false, false, false, false, false] rfl (by kernel_rfl) (by kernel_rfl) (by kernel_rfl) rfl (by kernel_rfl) (fun _ _ _ h => h) (Or.inl ⟨by rfl, ?yv6⟩) (by assumption) ?rv6
          case yv6 => (intro w' hSw; (try dsimp only at hSw); have y0 := hSw.1; have y1 := hSw.2.1; have y2 := hSw.2.2; go_simp; try with_reducible rfl)
          simp only [Act.put, List.setIfInBounds_toArray, List.set_cons_succ, List.set_cons_zero]
          refine takeH (i := 7) (oi := _) (v := ?vv7) 190 #[true, true, true, true, true, true, true, true, false, false, false, false, false, false] rfl (by kernel_rfl) (by kernel_rfl) (by kernel_rfl) rfl (by kernel_rfl) (fun _ _ _ h => h) (Or.inl ⟨by rfl, ?yv7⟩) (by assumption) ?rv7
          case yv7 => (intro w' hSw; (try dsimp only at hSw); have y0 := hSw.1; have y1 := hSw.2.1; have y2 := hSw.2.2; go_simp; try with_reducible rfl)
          simp only [Act.put, List.setIfInBounds_toArray, List.set_cons_succ, List.set_cons_zero]
          refine takeH (i := 8) (oi := _) (v := ?vv8) 191 #[true, true, true, true, true, true, true, true, true, false, false, false, false, false] rfl (by kernel_rfl) (by kernel_rfl) (by kernel_rfl) rfl (by kernel_rfl) (fun _ _ _ h => h) (Or.inl ⟨by rfl, ?yv8⟩) (by assumption) ?rv8
          case yv8 => (intro w' hSw; (try dsimp only at hSw); have y0 := hSw.1; have y1 := hSw.2.1; have y2 := hSw.2.2; go_simp; try with_reducible rfl)
          simp only [Act.put, List.setIfInBounds_toArray, List.set_cons_succ, List.set_cons_zero]
          refine takeH (i := 9) (oi := _) (v := ?vv9) 192 #[true, true, true, true, true, true, true, true, true, true, false, false, false, false] rfl (by kernel_rfl) (by kernel_rfl) (by kernel_rfl) rfl (by kernel_rfl) (fun _ _ _ h => h) (Or.inl ⟨by rfl, ?yv9⟩) (by assumption) ?rv9
          case yv9 => (intro w' hSw; (try dsimp only at hSw); have y0 := hSw.1; have y1 := hSw.2.1; have y2 := hSw.2.2; go_simp; try with_reducible rfl)
          simp only [Act.put, List.setIfInBounds_toArray, List.set_cons_succ, List.set_cons_zero]
          refine takeH (i := 10) (oi := _) (v := ?vv10) 193 #[true, true, true, true, true, true, true, true, true, true, true, false, false, false] rfl (by kernel_rfl) (by kernel_rfl) (by kernel_rfl) rfl (by kernel_rfl) (fun _ _ _ h => h) (Or.inl ⟨by rfl, ?yv10⟩) (by assumption) ?rv10
          case yv10 => (intro w' hSw; (try dsimp only at hSw); have y0 := hSw.1; have y1 := hSw.2.1; have y2 := hSw.2.2; go_simp; try with_reducible rfl)
          simp only [Act.put, List.setIfInBounds_toArray, List.set_cons_succ, List.set_cons_zero]
          refine takeH (i := 11) (oi := _) (v := ?vv11) 194 #[true, true, true, true, true, true, true, true, true, true, true, true, false, false] rfl (by kernel_rfl) (by kernel_rfl) (by kernel_rfl) rfl (by kernel_rfl) (fun _ _ _ h => h) (Or.inl ⟨by rfl, ?yv11⟩) (by assumption) ?rv11
          case yv11 => (intro w' hSw; (try dsimp only at hSw); have y0 := hSw.1; have y1 := hSw.2.1; have y2 := hSw.2.2; go_simp; try with_reducible rfl)
          simp only [Act.put, List.setIfInBounds_toArray, List.set_cons_succ, List.set_cons_zero]
          refine takeH (i := 12) (oi := _) (v := ?vv12) 195 #[true, true, true, true, true, true, true, true, true, true, true, true, true, false] rfl (by kernel_rfl) (by kernel_rfl) (by kernel_rfl) rfl (by kernel_rfl) (fun _ _ _ h => h) (Or.inl ⟨by rfl, ?yv12⟩) (by assumption) ?rv12
          case yv12 => (intro w' hSw; (try dsimp only at hSw); have y0 := hSw.1; have y1 := hSw.2.1; have y2 := hSw.2.2; go_simp; try with_reducible rfl)
          simp only [Act.put, List.setIfInBounds_toArray, List.set_cons_succ, List.set_cons_zero]
          refine wpAnyH_ready (rs := [13]) (by kernel_rfl) (by simp) ?_
          refine AllReadyH.cons (o := _) rfl (fun K hK => ?_) AllReadyH.nil
          go_simp
          refine hK.out _ _ hS31 (fun hHeld => ?_)
          clear hK K
          try simp only [Act.put]
          refine listH (l2 := #[true, true, true, true, true, true, true, true, true, true, true, true, true, true]) (by kernel_rfl) ?_
          refine wpAnyH_done (by kernel_rfl) ?_ _
          go_wp2_with fail
          go_roundg (m - (j + 1))
          case measure => have := hg.out; omega
          case rel => exact ⟨j + 1, (x.ver == 1000000), by omega, rfl, by go_num, by simp, by show _ = _; rw [HN.out]; rfl, HB2⟩
        · go_upto_region 31 with fail
          refine wp_region_held_drew (S := (fun W => W.cell? ⟨T, 0, none⟩ = some (.slice (some ⟨b, 0, none⟩) 32 c1) ∧ W.cell? ⟨gi, j, none⟩ = some (.int .i64 (i : Int)) ∧ W.cell? ⟨b, i * 4 + 1, none⟩ = some (.int .i64 x.ver))) (by kernel_rfl) ?_ (fun hHeld => ?_)
          · exact hS31
          refine listH (l2 := #[false, false, false, false, false, false, false, false, false, false, false, false, false, false]) (by kernel_rfl) ?_
          refine takeH (i := 0) (oi := _) (v := ?vw0) 183 #[true, false, false, false, false, false, false, false, false, false, false, false, false, false] rfl (by kernel_rfl) (by kernel_rfl) (by kernel_rfl) rfl (by kernel_rfl) (fun _ _ _ h => h) (Or.inl ⟨by rfl, ?yw0⟩) (by assumption) ?rw0
          case yw0 => (intro w' hSw; (try dsimp only at hSw); have y0 := hSw.1; have y1 := hSw.2.1; have y2 := hSw.2.2; go_simp; try with_reducible rfl)
          simp only [Act.put, List.setIfInBounds_toArray, List.set_cons_succ, List.set_cons_zero]
          refine takeH (i := 1) (oi := _) (v := ?vw1) 184 #[true, true, false, false, false, false, false, false, false, false, false, false, false, false] rfl (by kernel_rfl) (by kernel_rfl) (by kernel_rfl) rfl (by kernel_rfl) (fun _ _ _ h => h) (Or.inl ⟨by rfl, ?yw1⟩) (by assumption) ?rw1
          case yw1 => (intro w' hSw; (try dsimp only at hSw); have y0 := hSw.1; have y1 := hSw.2.1; have y2 := hSw.2.2; go_simp; try with_reducible rfl)
          simp only [Act.put, List.setIfInBounds_toArray, List.set_cons_succ, List.set_cons_zero]
          refine takeH (i := 2) (oi := _) (v := undef) 185 #[true, true, true, false, false, false, false, false, false, false, false, false, false, false] rfl (by kernel_rfl) (by kernel_rfl) (by kernel_rfl) rfl (by kernel_rfl) (fun _ _ _ h => h) (Or.inr ⟨by rfl, rfl⟩) (by assumption) ?rw2
          simp only [Act.put, List.setIfInBounds_toArray, List.set_cons_succ, List.set_cons_zero]
          refine takeH (i := 3) (oi := _) (v := undef) 186 #[true, true, true, true, false, false, false, false, false, false, false, false, false, false] rfl (by kernel_rfl) (by kernel_rfl) (by kernel_rfl) rfl (by kernel_rfl) (fun _ _ _ h => h) (Or.inr ⟨by rfl, rfl⟩) (by assumption) ?rw3
          simp only [Act.put, List.setIfInBounds_toArray, List.set_cons_succ, List.set_cons_zero]
          refine takeH (i := 4) (oi := _) (v := undef) 187 #[true, true, true, true, true, false, false, false, false, false, false, false, false, false] rfl (by kernel_rfl) (by kernel_rfl) (by kernel_rfl) rfl (by kernel_rfl) (fun _ _ _ h => h) (Or.inr ⟨by rfl, rfl⟩) (by assumption) ?rw4
          simp only [Act.put, List.setIfInBounds_toArray, List.set_cons_succ, List.set_cons_zero]
          refine takeH (i := 5) (oi := _) (v := undef) 188 #[true, true, true, true, true, true, false, false, false, false, false, false, false, false] rfl (by kernel_rfl) (by kernel_rfl) (by kernel_rfl) rfl (by kernel_rfl) (fun _ _ _ h => h) (Or.inr ⟨by rfl, rfl⟩) (by assumption) ?rw5
          simp only [Act.put, List.setIfInBounds_toArray, List.set_cons_succ, List.set_cons_zero]
          refine takeH (i := 6) (oi := _) (v := undef) 189 #[true, true, true, true, true, true, true, false, false, false, false, false, false, false] rfl (by kernel_rfl) (by kernel_rfl) (by kernel_rfl) rfl (by kernel_rfl) (fun _ _ _ h => h) (Or.inr ⟨by rfl, rfl⟩) (by assumption) ?rw6
          simp only [Act.put, List.setIfInBounds_toArray, List.set_cons_succ, List.set_cons_zero]
          refine takeH (i := 7) (oi := _) (v := undef) 190 #[true, true, true, true, true, true, true, true, false, false, false, false, false, false] rfl (by kernel_rfl) (by kernel_rfl) (by kernel_rfl) rfl (by kernel_rfl) (fun _ _ _ h => h) (Or.inr ⟨by rfl, rfl⟩) (by assumption) ?rw7
          simp only [Act.put, List.setIfInBounds_toArray, List.set_cons_succ, List.set_cons_zero]
          refine takeH (i := 8) (oi := _) (v := undef) 191 #[true, true, true, true, true, true, true, true, true, false, false, false, false, false] rfl (by kernel_rfl) (by kernel_rfl) (by kernel_rfl) rfl (by kernel_rfl) (fun _ _ _ h => h) (Or.inr ⟨by rfl, rfl⟩) (by assumption) ?rw8
          simp only [Act.put, List.setIfInBounds_toArray, List.set_cons_succ, List.set_cons_zero]
          refine takeH (i := 9) (oi := _) (v := undef) 192 #[true, true, true, true, true, true, true, true, true, true, false, false, false, false] rfl (by kernel_rfl) (by kernel_rfl) (by kernel_rfl) rfl (by kernel_rfl) (fun _ _ _ h => h) (Or.inr ⟨by rfl, rfl⟩) (by assumption) ?rw9
          simp only [Act.put, List.setIfInBounds_toArray, List.set_cons_succ, List.set_cons_zero]
          refine takeH (i := 10) (oi := _) (v := undef) 193 #[true, true, true, true, true, true, true, true, true, true, true, false, false, false] rfl (by kernel_rfl) (by kernel_rfl) (by kernel_rfl) rfl (by kernel_rfl) (fun _ _ _ h => h) (Or.inr ⟨by rfl, rfl⟩) (by assumption) ?rw10
          simp only [Act.put, List.setIfInBounds_toArray, List.set_cons_succ, List.set_cons_zero]
          refine takeH (i := 11) (oi := _) (v := undef) 194 #[true, true, true, true, true, true, true, true, true, true, true, true, false, false] rfl (by kernel_rfl) (by kernel_rfl) (by kernel_rfl) rfl (by kernel_rfl) (fun _ _ _ h => h) (Or.inr ⟨by rfl, rfl⟩) (by assumption) ?rw11
          simp only [Act.put, List.setIfInBounds_toArray, List.set_cons_succ, List.set_cons_zero]
          refine takeH (i := 12) (oi := _) (v := ?vw12) 195 #[true, true, true, true, true, true, true, true, true, true, true, true, true, false] rfl (by kernel_rfl) (by kernel_rfl) (by kernel_rfl) rfl (by kernel_rfl) (fun _ _ _ h => h) (Or.inl ⟨by rfl, ?yw12⟩) (by assumption) ?rw12
          case yw12 => (intro w' hSw; (try dsimp only at hSw); have y0 := hSw.1; have y1 := hSw.2.1; have y2 := hSw.2.2; go_simp; try with_reducible rfl)
          simp only [Act.put, List.setIfInBounds_toArray, List.set_cons_succ, List.set_cons_zero]
          refine wpAnyH_ready (rs := [13]) (by kernel_rfl) (by simp) ?_
          refine AllReadyH.cons (o := _) rfl (fun K hK => ?_) AllReadyH.nil
          go_simp
          refine hK.out _ _ hS31 (fun hHeld => ?_)
          clear hK K
          try simp only [Act.put]
          refine listH (l2 := #[true, true, true, true, true, true, true, true, true, true, true, true, true, true]) (by kernel_rfl) ?_
          refine wpAnyH_done (by kernel_rfl) ?_ _
          go_wp2_with fail
          go_roundg (m - (j + 1))
          case measure => have := hg.out; omega
          case rel => exact ⟨j + 1, true, by omega, rfl, by go_num, rfl, by show _ = _; rw [HN.out]; rfl, HB2⟩
      · have hp : p' = true := by
          rw [HP.out, List.take_of_length_le (by have := HM.out; omega)]
          obtain ⟨i, hi, x, hx, hv⟩ := HC8.out
          exact List.any_eq_true.2 ⟨i, hi, by simp [eqV, hx, hv]⟩
        subst hp
        have hltI : ¬ (j : Int) < (m : Int) := by omega
        go_wp2_with fail
        go_ret
        exact ⟨rfl, HA11.out.below.trans (HB.out.mono HA11.out.below.size)⟩
end Go.Proofs.YtnolbfijcnldjaaGreatDoor
