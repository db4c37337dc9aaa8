/- At every code the call of laws.FnActBack returns true. -/
import Derived.Test.YtnolbfijcnldjaaGreatDoorW21
import Derived.Test.YtnolbfijcnldjaaGreatDoorW23
import Derived.Deep.RegionWith
import Derived.RowKitTokens
namespace Go.Proofs.YtnolbfijcnldjaaGreatDoor
open Go.RowKit

/-- The boxes that the ends of the law read. -/
structure BK (W : World) (T b c1 X b5 c5 : Nat) (rl : List LObj) (U : Nat) (x9 : Option Addr) (c9 : Nat) (s1 : List LObj) (o : LOp) (I : Nat) (tx : ByteArray) : Prop where
  t : W.cell? ⟨T, 0, none⟩ = some (.slice (some ⟨b, 0, none⟩) 32 c1)
  k3 : W.cell? ⟨T + 1, 3, none⟩ = some (.int .i64 o.dir2)
  k4 : W.cell? ⟨T + 1, 4, none⟩ = some (.string o.name2)
  k5 : W.cell? ⟨T + 1, 5, none⟩ = some (.int .i64 (I : Int))
  k6 : W.cell? ⟨T + 1, 6, none⟩ = some (.string o.text)
  x : W.cell? ⟨X, 0, none⟩ = some (.slice (some ⟨b5, 0, none⟩) rl.length c5)
  u : W.cell? ⟨U, 0, none⟩ = some (.slice x9 s1.length c9)
  tx : W.cell? ⟨b5, I * 4 + 2, none⟩ = some (.string tx)
  l1 : T + 1 < W.heap.size
  l2 : X < W.heap.size
  l3 : U < W.heap.size
  l4 : b5 < W.heap.size
theorem BK.next {W W' : World} {T b c1 X b5 c5 : Nat} {rl : List LObj} {U : Nat} {x9 : Option Addr} {c9 : Nat} {s1 : List LObj} {o : LOp} {I : Nat} {tx : ByteArray} (h : BK W T b c1 X b5 c5 rl U x9 c9 s1 o I tx) (hb : Below W.heap.size W W') : BK W' T b c1 X b5 c5 rl U x9 c9 s1 o I tx := by
  have h1 := h.l1
  have h2 := h.l2
  have h3 := h.l3
  have h4 := h.l4
  have hz := hb.size
  exact ⟨by rw [hb.cell (by simp; omega)]; exact h.t, by rw [hb.cell (by simpa using h1)]; exact h.k3, by rw [hb.cell (by simpa using h1)]; exact h.k4, by rw [hb.cell (by simpa using h1)]; exact h.k5, by rw [hb.cell (by simpa using h1)]; exact h.k6, by rw [hb.cell (by simpa using h2)]; exact h.x, by rw [hb.cell (by simpa using h3)]; exact h.u, by rw [hb.cell (by simpa using h4)]; exact h.tx, by omega, by omega, by omega, by omega⟩
structure BMv (os : List LObj) (o : LOp) (rl s1 : List LObj) : Prop where
  like : listEq oLike s1 os = true
  find : treeFindV rl o.dir2 o.name2 = o.id
structure BTx (rl s1 : List LObj) (o : LOp) : Prop where
  like : listEq oLike s1 rl = true
  text : ∃ a, rl[o.id.toNat]? = some a ∧ a.text = o.text
theorem soft_of {os : List LObj} (h : Bn2 os) (o : LOp) : Soft os o := fun _ _ a ha => (h a (List.mem_of_getElem? ha)).1.2
theorem Bn2.bnS {os : List LObj} (h : Bn2 os) : Sizes os 1048576 := fun o ho => by have := (h o ho).2.2.2.1; omega

set_option maxHeartbeats 16000000 in
set_option maxRecDepth 20000 in
theorem walkActBack (sa : Nat → Addr) (U0 : Nat) (a : Option Addr) (n c : Nat) (zs : List Int) (w : World) (hU0 : U0 ≤ w.heap.size) (HS : Sents w U0 sa) (hc : n ≤ c) (hcb : n ≤ maxLen) (H : BytesAt w w.heap.size a n zs) :
    Calls Tryz.prog 4 #[.slice a n c] w fun e w' => e = .returned (.bool true) ∧ Below w.heap.size w w' := by
  unfold maxLen at hcb
  by_cases hn : 1048576 < n
  · have hnI : (1048576 : Int) < (n : Int) := by omega
    go_enter Tryz.func4, Tryz.ntmps4
    go_wp2_with fail
    go_ret
    exact ⟨rfl, Below.refl _ _⟩
  have hnI : ¬ (1048576 : Int) < (n : Int) := by omega
  go_enter Tryz.func4, Tryz.ntmps4
  go_wp2_with fail
  refine (drawAct2 a n c zs w (by omega) hc H).mono ?_
  rintro e w1 ⟨⟨b, k, c1, os, o, rfl, hD⟩, hb1⟩
  clear hnI hn H
  have hb2 : Below w1.heap.size w1 ((w1.alloc (.cells #[.slice (some ⟨b, 0, none⟩) k c1] 25)).alloc (.cells #[.int .i64 o.kind, .int .i64 o.dir, .string o.name, .int .i64 o.dir2, .string o.name2, .int .i64 o.id, .string o.text] 27)) := ((Below.refl _ _).alloc (Nat.le_refl _) _).alloc (by simp) _
  have HA : Hid (AC w ((w1.alloc (.cells #[.slice (some ⟨b, 0, none⟩) k c1] 25)).alloc (.cells #[.int .i64 o.kind, .int .i64 o.dir, .string o.name, .int .i64 o.dir2, .string o.name2, .int .i64 o.id, .string o.text] 27)) w1.heap.size b k c1 os o) :=
    ⟨hb1.trans (hb2.mono hb1.size), by simp [go_sem], by simp [go_sem], by simp [go_sem], by simp [go_sem], by simp [go_sem], by simp [go_sem], by simp [go_sem], by simp [go_sem], hD.at_.below hb2 (Nat.le_refl _), hb1.size, by simp⟩
  have hS1 : Sizes os 1048576 := hD.bn.bnS
  have HSF : Hid (Soft os o) := soft_of hD.bn o
  have hSZ : OpSz o := opb_sz hD.op
  have HKL : Hid (k = os.length) := hD.at_.len
  have hIM := fun L V w hU HS hV H => implActDo sa U0 L V b c1 k o os w hU HS hS1 hSZ hV H
  have hSP := fun L V w hV H => specActDo L V b c1 k o os w hS1 hSZ hV H
  obtain ⟨rl, rk, hr⟩ : ∃ rl rk, (rl, rk) = actR os o := ⟨_, _, rfl⟩
  rw [← hr] at hIM hSP
  have HR : Hid ((rl, rk) = actR os o) := hr
  have e0 := HA.out.t
  have z0 := HA.out.k0
  have z1 := HA.out.k1
  have z2 := HA.out.k2
  have z3 := HA.out.k3
  have z4 := HA.out.k4
  have z5 := HA.out.k5
  have z6 := HA.out.k6
  clear hD hb1 hb2 hr hc hcb
  simp only [LOp.val] at hIM hSP ⊢
  go_wp2_with fail
  generalize ((w1.alloc (.cells #[.slice (some ⟨b, 0, none⟩) k c1] 25)).alloc (.cells #[.int .i64 o.kind, .int .i64 o.dir, .string o.name, .int .i64 o.dir2, .string o.name2, .int .i64 o.id, .string o.text] 27)) = W2 at *
  generalize w1.heap.size = T at *
  clear e0 z0 z1 z2 z3 z4 z5 z6
  refine (hIM w.heap.size T W2 (Nat.le_trans hU0 HA.out.below.size) (HS.below HA.out.below hU0) (by have := HA.out.lt; omega) HA.out.at_).mono ?_
  rintro e w3 hE
  obtain ⟨x5, c5, rfl, hx5, ho5, hb5⟩ := hE.objsX
  dsimp only at *
  have HX5 : Hid (rl ≠ [] → ∃ b, x5 = some ⟨b, 0, none⟩) := hx5
  have HA4 : Hid (AC w (w3.alloc (.cells #[.slice x5 rl.length c5] 25)) T b k c1 os o) := (HA.out.next hb5).next ((Below.refl _ _).alloc (Nat.le_refl _) _)
  have e0 := HA4.out.t
  have z0 := HA4.out.k0
  have z1 := HA4.out.k1
  have z2 := HA4.out.k2
  have z3 := HA4.out.k3
  have z4 := HA4.out.k4
  have z5 := HA4.out.k5
  have z6 := HA4.out.k6
  have HX4 : Hid (XT (w3.alloc (.cells #[.slice x5 rl.length c5] 25)) w3.heap.size x5 c5 rl) := ⟨by simp [go_sem], (ho5.wide (Nat.zero_le _) (Nat.le_refl _)).below ((Below.refl _ _).alloc (Nat.le_refl _) _) (Nat.le_refl _), by simp⟩
  clear hE ho5 hb5 HA hIM hx5
  go_wp2_with fail
  generalize w3.alloc (.cells #[.slice x5 rl.length c5] 25) = W4 at *
  generalize w3.heap.size = X at *
  clear e0 z0 z1 z2 z3 z4 z5 z6
  refine (hSP w.heap.size T W4 (by have := HA4.out.lt; omega) HA4.out.at_).mono ?_
  rintro e w5 hE
  obtain ⟨x7, c7, rfl, -, hb7⟩ := hE.objs
  dsimp only at *
  have HA6 : Hid (AC w (w5.alloc (.cells #[.slice x7 rl.length c7] 25)) T b k c1 os o) := (HA4.out.next hb7).next ((Below.refl _ _).alloc (Nat.le_refl _) _)
  have HX6 : Hid (XT (w5.alloc (.cells #[.slice x7 rl.length c7] 25)) X x5 c5 rl) := (HX4.out.next hb7).next ((Below.refl _ _).alloc (Nat.le_refl _) _)
  have tn : (rk != rk) = false := by simp
  have z0 := HA6.out.k0
  have z1 := HA6.out.k1
  have z2 := HA6.out.k2
  have z3 := HA6.out.k3
  have z4 := HA6.out.k4
  have z5 := HA6.out.k5
  have z6 := HA6.out.k6
  clear hE hb7 HA4 HX4 hSP
  by_cases h0 : rk = 0
  case neg =>
    have t0 : (rk != 0) = true := by simpa using h0
    clear h0
    go_wp2_with fail
    go_ret
    exact ⟨ret_bool (by simp), HA6.out.below⟩
  subst h0
  have HF : Hid ((actR os o).2 = 0) := by show _ = _; rw [← HR.out]
  have er : rl = (actR os o).1 := congrArg Prod.fst HR.out
  obtain ⟨hs0, hk0, -⟩ := actR_fine HF.out
  have hkk : k = 32 := by rw [HKL.out]; exact ok_len hs0
  subst hkk
  have HRL : Hid (rl.length = 32) := by show _ = _; rw [er]; exact actR_32 hs0 o
  have hSR : Sizes rl 1048576 := by rw [er]; exact ok_sizes (actR_ok hs0 o)
  obtain ⟨b5, rfl⟩ := HX5.out (list_ne HRL.out)
  have HID : Hid (1 ≤ o.id ∧ o.id < 32) := opOk_id hk0
  have hkind := op_kinds hk0
  have HA8 := HA6
  have HX8 := HX6
  clear HA6 HX6 HX5 HR hs0 hk0 HKL
  by_cases hk1 : o.kind = 1
  · have t1 : (o.kind == 1) = true := by simpa using hk1
    have hk1 : o.kind = 1 ∨ o.kind = 2 := .inl hk1
    clear hkind
    have HB : Hid (BackNew os o rl ⟨3, o.dir, o.name, 0, ⟨#[]⟩, o.id, ⟨#[]⟩⟩) := by have h := back_new HSF.out hk1 HF.out; rw [← er] at h; exact h
    obtain ⟨s1, s2, hs⟩ : ∃ s1 s2, (s1, s2) = actR rl ⟨3, o.dir, o.name, 0, ⟨#[]⟩, o.id, ⟨#[]⟩⟩ := ⟨_, _, rfl⟩
    have es : s1 = (actR rl ⟨3, o.dir, o.name, 0, ⟨#[]⟩, o.id, ⟨#[]⟩⟩).1 := congrArg Prod.fst hs
    obtain rfl : s2 = 0 := by have := HB.out.fine; rw [← hs] at this; exact this
    have HLK : Hid (listEq oLike s1 os = true) := by have := HB.out.like; rw [← es] at this; exact this
    have HFN : Hid (freshV s1 o.id = false) := by have := HB.out.stale; rw [← es] at this; exact this
    have hG := fun W hU HS hV H => implActDo sa U0 0 W.heap.size b5 c5 rl.length ⟨3, o.dir, o.name, 0, ⟨#[]⟩, o.id, ⟨#[]⟩⟩ rl W hU HS hSR ⟨hSZ.1, by show (0 : Nat) ≤ _; omega, by show (0 : Nat) ≤ _; omega⟩ hV H
    rw [← hs] at hG
    try dsimp only at hG
    have xb := HX8.out.box
    clear hs es hk1 er
    go_wp2_with fail
    generalize w5.alloc (.cells #[.slice x7 rl.length c7] 25) = W8 at *
    clear xb z0 z1 z2 z3 z4 z5 z6
    refine (hG W8 (Nat.le_trans hU0 HA8.out.below.size) (HS.below HA8.out.below hU0) (Nat.le_refl _) (HX8.out.at_.wide (Nat.le_refl _) (Nat.le_of_lt HX8.out.lt))).mono ?_
    rintro e w9 hE
    obtain ⟨x9, c9, rfl, ho9, hb9⟩ := hE.objs
    dsimp only at *
    have hal : Below w9.heap.size w9 (w9.alloc (.cells #[.slice x9 s1.length c9] 25)) := (Below.refl _ _).alloc (Nat.le_refl _) _
    have HA10 : Hid (AC w (w9.alloc (.cells #[.slice x9 s1.length c9] 25)) T b 32 c1 os o) := (HA8.out.next hb9).next hal
    have HU10 : Hid (XT (w9.alloc (.cells #[.slice x9 s1.length c9] 25)) w9.heap.size x9 c9 s1) := ⟨by simp [go_sem], (ho9.wide (Nat.zero_le _) (Nat.le_refl _)).below hal (Nat.le_refl _), by simp⟩
    have tb := HA10.out.t
    have ub := HU10.out.box
    clear hE ho9 hb9 hal HA8 HX8 hG
    go_wp2_with fail
    generalize w9.alloc (.cells #[.slice x9 s1.length c9] 25) = W10 at *
    generalize w9.heap.size = U at *
    clear tb ub
    refine (implLike x9 (some ⟨b, 0, none⟩) s1.length 32 c9 c1 s1 os 0 U w.heap.size T W10 (Nat.le_of_lt HU10.out.lt) (by have := HA10.out.lt; omega) HU10.out.at_ HA10.out.at_).mono ?_
    rintro e w11 ⟨rfl, hb11⟩
    rw [HLK.out]
    have HA11 : Hid (AC w w11 T b 32 c1 os o) := HA10.out.next hb11
    have HU11 : Hid (XT w11 U x9 c9 s1) := HU10.out.next hb11
    have ub := HU11.out.box
    have z5 := HA11.out.k5
    clear HA10 HU10 hb11
    go_wp2_with fail
    clear ub z5
    refine (implFresh x9 s1.length c9 s1 0 U o.id w11 (Nat.le_of_lt HU11.out.lt) HU11.out.at_).mono ?_
    rintro e w12 ⟨rfl, hb12⟩
    rw [HFN.out]
    have HA12 : Hid (AC w w12 T b 32 c1 os o) := HA11.out.next hb12
    have tb := HA12.out.t
    have z5 := HA12.out.k5
    clear HA11 HU11 hb12
    go_wp2_with fail
    clear tb z5
    refine (implFresh (some ⟨b, 0, none⟩) 32 c1 os w.heap.size T o.id w12 (by have := HA12.out.lt; omega) HA12.out.at_).mono ?_
    rintro e w13 ⟨rfl, hb13⟩
    rw [HB.out.fresh]
    have HA13 : Hid (AC w w13 T b 32 c1 os o) := HA12.out.next hb13
    go_wp2_with fail
    go_ret
    exact ⟨ret_bool (by simp), HA13.out.below⟩
  have t1 : (o.kind == 1) = false := by simpa using hk1
  by_cases hk2 : o.kind = 2
  · have t2 : (o.kind == 2) = true := by simpa using hk2
    have hk1 : o.kind = 1 ∨ o.kind = 2 := .inr hk2
    clear hkind hk2
    have HB : Hid (BackNew os o rl ⟨3, o.dir, o.name, 0, ⟨#[]⟩, o.id, ⟨#[]⟩⟩) := by have h := back_new HSF.out hk1 HF.out; rw [← er] at h; exact h
    obtain ⟨s1, s2, hs⟩ : ∃ s1 s2, (s1, s2) = actR rl ⟨3, o.dir, o.name, 0, ⟨#[]⟩, o.id, ⟨#[]⟩⟩ := ⟨_, _, rfl⟩
    have es : s1 = (actR rl ⟨3, o.dir, o.name, 0, ⟨#[]⟩, o.id, ⟨#[]⟩⟩).1 := congrArg Prod.fst hs
    obtain rfl : s2 = 0 := by have := HB.out.fine; rw [← hs] at this; exact this
    have HLK : Hid (listEq oLike s1 os = true) := by have := HB.out.like; rw [← es] at this; exact this
    have HFN : Hid (freshV s1 o.id = false) := by have := HB.out.stale; rw [← es] at this; exact this
    have hG := fun W hU HS hV H => implActDo sa U0 0 W.heap.size b5 c5 rl.length ⟨3, o.dir, o.name, 0, ⟨#[]⟩, o.id, ⟨#[]⟩⟩ rl W hU HS hSR ⟨hSZ.1, by show (0 : Nat) ≤ _; omega, by show (0 : Nat) ≤ _; omega⟩ hV H
    rw [← hs] at hG
    try dsimp only at hG
    have xb := HX8.out.box
    clear hs es hk1 er
    go_wp2_with fail
    generalize w5.alloc (.cells #[.slice x7 rl.length c7] 25) = W8 at *
    clear xb z0 z1 z2 z3 z4 z5 z6
    refine (hG W8 (Nat.le_trans hU0 HA8.out.below.size) (HS.below HA8.out.below hU0) (Nat.le_refl _) (HX8.out.at_.wide (Nat.le_refl _) (Nat.le_of_lt HX8.out.lt))).mono ?_
    rintro e w9 hE
    obtain ⟨x9, c9, rfl, ho9, hb9⟩ := hE.objs
    dsimp only at *
    have hal : Below w9.heap.size w9 (w9.alloc (.cells #[.slice x9 s1.length c9] 25)) := (Below.refl _ _).alloc (Nat.le_refl _) _
    have HA10 : Hid (AC w (w9.alloc (.cells #[.slice x9 s1.length c9] 25)) T b 32 c1 os o) := (HA8.out.next hb9).next hal
    have HU10 : Hid (XT (w9.alloc (.cells #[.slice x9 s1.length c9] 25)) w9.heap.size x9 c9 s1) := ⟨by simp [go_sem], (ho9.wide (Nat.zero_le _) (Nat.le_refl _)).below hal (Nat.le_refl _), by simp⟩
    have tb := HA10.out.t
    have ub := HU10.out.box
    clear hE ho9 hb9 hal HA8 HX8 hG
    go_wp2_with fail
    generalize w9.alloc (.cells #[.slice x9 s1.length c9] 25) = W10 at *
    generalize w9.heap.size = U at *
    clear tb ub
    refine (implLike x9 (some ⟨b, 0, none⟩) s1.length 32 c9 c1 s1 os 0 U w.heap.size T W10 (Nat.le_of_lt HU10.out.lt) (by have := HA10.out.lt; omega) HU10.out.at_ HA10.out.at_).mono ?_
    rintro e w11 ⟨rfl, hb11⟩
    rw [HLK.out]
    have HA11 : Hid (AC w w11 T b 32 c1 os o) := HA10.out.next hb11
    have HU11 : Hid (XT w11 U x9 c9 s1) := HU10.out.next hb11
    have ub := HU11.out.box
    have z5 := HA11.out.k5
    clear HA10 HU10 hb11
    go_wp2_with fail
    clear ub z5
    refine (implFresh x9 s1.length c9 s1 0 U o.id w11 (Nat.le_of_lt HU11.out.lt) HU11.out.at_).mono ?_
    rintro e w12 ⟨rfl, hb12⟩
    rw [HFN.out]
    have HA12 : Hid (AC w w12 T b 32 c1 os o) := HA11.out.next hb12
    have tb := HA12.out.t
    have z5 := HA12.out.k5
    clear HA11 HU11 hb12
    go_wp2_with fail
    clear tb z5
    refine (implFresh (some ⟨b, 0, none⟩) 32 c1 os w.heap.size T o.id w12 (by have := HA12.out.lt; omega) HA12.out.at_).mono ?_
    rintro e w13 ⟨rfl, hb13⟩
    rw [HB.out.fresh]
    have HA13 : Hid (AC w w13 T b 32 c1 os o) := HA12.out.next hb13
    go_wp2_with fail
    go_ret
    exact ⟨ret_bool (by simp), HA13.out.below⟩
  have t2 : (o.kind == 2) = false := by simpa using hk2
  by_cases hk4 : o.kind = 4
  · have t4 : (o.kind == 4) = true := by simpa using hk4
    clear hkind hk1 hk2
    have HB0 : Hid (BackMove os o rl ⟨4, o.dir2, o.name2, o.dir, o.name, o.id, ⟨#[]⟩⟩) := by have h := back_move HSF.out hk4 HF.out; rw [← er] at h; exact h
    obtain ⟨s1, s2, hs⟩ : ∃ s1 s2, (s1, s2) = actR rl ⟨4, o.dir2, o.name2, o.dir, o.name, o.id, ⟨#[]⟩⟩ := ⟨_, _, rfl⟩
    have es : s1 = (actR rl ⟨4, o.dir2, o.name2, o.dir, o.name, o.id, ⟨#[]⟩⟩).1 := congrArg Prod.fst hs
    obtain rfl : s2 = 0 := by have := HB0.out.fine; rw [← hs] at this; exact this
    have hG := fun W hU HS hV H => implActDo sa U0 0 W.heap.size b5 c5 rl.length ⟨4, o.dir2, o.name2, o.dir, o.name, o.id, ⟨#[]⟩⟩ rl W hU HS hSR ⟨hSZ.2, hSZ.1, by show (0 : Nat) ≤ _; omega⟩ hV H
    rw [← hs] at hG
    try dsimp only at hG
    have xb := HX8.out.box
    have HB : Hid (BMv os o rl s1) := ⟨by have := HB0.out.like; rw [← es] at this; exact this, HB0.out.find⟩
    clear hs es hk4 HB0 er
    go_wp2_with fail
    generalize w5.alloc (.cells #[.slice x7 rl.length c7] 25) = W8 at *
    clear xb z0 z1 z2 z3 z4 z5 z6
    refine (hG W8 (Nat.le_trans hU0 HA8.out.below.size) (HS.below HA8.out.below hU0) (Nat.le_refl _) (HX8.out.at_.wide (Nat.le_refl _) (Nat.le_of_lt HX8.out.lt))).mono ?_
    rintro e w9 hE
    obtain ⟨x9, c9, rfl, ho9, hb9⟩ := hE.objs
    dsimp only at *
    have hal : Below w9.heap.size w9 (w9.alloc (.cells #[.slice x9 s1.length c9] 25)) := (Below.refl _ _).alloc (Nat.le_refl _) _
    have HA10 : Hid (AC w (w9.alloc (.cells #[.slice x9 s1.length c9] 25)) T b 32 c1 os o) := (HA8.out.next hb9).next hal
    have HX10 : Hid (XT (w9.alloc (.cells #[.slice x9 s1.length c9] 25)) X (some ⟨b5, 0, none⟩) c5 rl) := (HX8.out.next hb9).next hal
    have HU10 : Hid (XT (w9.alloc (.cells #[.slice x9 s1.length c9] 25)) w9.heap.size x9 c9 s1) := ⟨by simp [go_sem], (ho9.wide (Nat.zero_le _) (Nat.le_refl _)).below hal (Nat.le_refl _), by simp⟩
    obtain ⟨I, hidI⟩ : ∃ I : Nat, o.id = (I : Int) := ⟨o.id.toNat, by have := HID.out; omega⟩
    obtain ⟨pb, po, px, pa, pc, he, hpx, -, -, px2, -, -⟩ := HX10.out.at_.one (i := I) (by rw [HRL.out]; have := HID.out; omega)
    obtain ⟨rfl, rfl⟩ : b5 = pb ∧ 0 = po := by have h := Option.some.inj he; injection h with h1 h2; exact ⟨h1, h2⟩
    simp only [Nat.zero_add] at px2
    have HPX : Hid (rl[I]? = some px) := hpx
    have HBK0 : Hid (BK (w9.alloc (.cells #[.slice x9 s1.length c9] 25)) T b c1 X b5 c5 rl w9.heap.size x9 c9 s1 o I px.text) := ⟨HA10.out.t, HA10.out.k3, HA10.out.k4, by rw [HA10.out.k5, hidI], HA10.out.k6, HX10.out.box, HU10.out.box, px2, by have := HA10.out.lt; omega, HX10.out.lt, HU10.out.lt, cell_lt px2⟩
    have HIL : Hid (I < 32) := by have := HID.out; show _ < _; omega
    clear hE ho9 hb9 hal HA8 HX8 hG he hpx px2
    go_upto_region 15 with fail
    generalize w9.alloc (.cells #[.slice x9 s1.length c9] 25) = W10 at *
    generalize w9.heap.size = U at *
    have hbd : Below W10.heap.size W10 W10.drew := (Below.refl _ _).drew
    have hA := HA10.out.next hbd
    have hX := HX10.out.next hbd
    have hU := HU10.out.next hbd
    have hBK := HBK0.out.next hbd
    obtain ⟨tx, htx⟩ : ∃ tx, tx = px.text := ⟨_, rfl⟩
    rw [← htx] at hBK
    have HTX : Hid (tx = px.text) := htx
    clear htx HA10 HX10 HU10 HBK0 hbd
    have hI32 : (I : Int) < 32 := by have := HIL.out; omega
    refine wp_region_held_drew (S := (fun W => BK W T b c1 X b5 c5 rl U x9 c9 s1 o I tx)) (by kernel_rfl) ?_ (fun hHeld => ?_)
    · exact hBK
    refine listH (l2 := #[false, false, false, false, false, false, false, false, false, false, false, false, false, false, false, false, false, false, false]) (by kernel_rfl) ?_
    refine takeH (i := 0) (oi := _) (v := ?vk901) 102 #[true, false, false, false, false, false, false, false, false, false, false, false, false, false, false, false, false, false, false] rfl (by kernel_rfl) (by kernel_rfl) (by kernel_rfl) rfl (by kernel_rfl) (fun _ _ _ h => h) (Or.inl ⟨by rfl, ?yk901⟩) (by assumption) ?rk901
    case yk901 => (intro w' hSw; have q0 := hSw.t; have q3 := hSw.k3; have q4 := hSw.k4; have q5 := hSw.k5; have q6 := hSw.k6; have q7 := hSw.x; have q8 := hSw.u; have q9 := hSw.tx; go_simp; try with_reducible rfl)
    simp only [Act.put, List.setIfInBounds_toArray, List.set_cons_succ, List.set_cons_zero]
    refine takeH (i := 1) (oi := _) (v := ?vk902) 103 #[true, true, false, false, false, false, false, false, false, false, false, false, false, false, false, false, false, false, false] rfl (by kernel_rfl) (by kernel_rfl) (by kernel_rfl) rfl (by kernel_rfl) (fun _ _ _ h => h) (Or.inl ⟨by rfl, ?yk902⟩) (by assumption) ?rk902
    case yk902 => (intro w' hSw; have q0 := hSw.t; have q3 := hSw.k3; have q4 := hSw.k4; have q5 := hSw.k5; have q6 := hSw.k6; have q7 := hSw.x; have q8 := hSw.u; have q9 := hSw.tx; go_simp; try with_reducible rfl)
    simp only [Act.put, List.setIfInBounds_toArray, List.set_cons_succ, List.set_cons_zero]
    refine takeH (i := 2) (oi := _) (v := ?vk903) 104 #[true, true, true, false, false, false, false, false, false, false, false, false, false, false, false, false, false, false, false] rfl (by kernel_rfl) (by kernel_rfl) (by kernel_rfl) rfl (by kernel_rfl) (fun _ _ _ h => h) (Or.inl ⟨by rfl, ?yk903⟩) (by assumption) ?rk903
    case yk903 => (intro w' hSw; have q0 := hSw.t; have q3 := hSw.k3; have q4 := hSw.k4; have q5 := hSw.k5; have q6 := hSw.k6; have q7 := hSw.x; have q8 := hSw.u; have q9 := hSw.tx; go_simp; try with_reducible rfl)
    simp only [Act.put, List.setIfInBounds_toArray, List.set_cons_succ, List.set_cons_zero]
    refine takeH (i := 3) (oi := _) (v := ?vk904) 105 #[true, true, true, true, false, false, false, false, false, false, false, false, false, false, false, false, false, false, false] rfl (by kernel_rfl) (by kernel_rfl) (by kernel_rfl) rfl (by kernel_rfl) (fun _ _ _ h => h) (Or.inl ⟨by rfl, ?yk904⟩) (by assumption) ?rk904
    case yk904 => (intro w' hSw; have q0 := hSw.t; have q3 := hSw.k3; have q4 := hSw.k4; have q5 := hSw.k5; have q6 := hSw.k6; have q7 := hSw.x; have q8 := hSw.u; have q9 := hSw.tx; go_simp; try with_reducible rfl)
    simp only [Act.put, List.setIfInBounds_toArray, List.set_cons_succ, List.set_cons_zero]
    refine takeH (i := 4) (oi := _) (v := ?vk905) 106 #[true, true, true, true, true, false, false, false, false, false, false, false, false, false, false, false, false, false, false] rfl (by kernel_rfl) (by kernel_rfl) (by kernel_rfl) rfl (by kernel_rfl) (fun _ _ _ h => h) (Or.inl ⟨by rfl, ?yk905⟩) (by assumption) ?rk905
    case yk905 => (intro w' hSw; have q0 := hSw.t; have q3 := hSw.k3; have q4 := hSw.k4; have q5 := hSw.k5; have q6 := hSw.k6; have q7 := hSw.x; have q8 := hSw.u; have q9 := hSw.tx; go_simp; try with_reducible rfl)
    simp only [Act.put, List.setIfInBounds_toArray, List.set_cons_succ, List.set_cons_zero]
    refine wpAnyH_ready (rs := [5]) (by kernel_rfl) (by simp) ?_
    refine AllReadyH.cons (o := _) rfl (fun K hK => ?_) AllReadyH.nil
    go_simp
    refine (implLike x9 (some ⟨b, 0, none⟩) s1.length 32 c9 c1 s1 os 0 U w.heap.size T _ (Nat.le_of_lt hU.lt) (by have := hA.lt; omega) hU.at_ hA.at_).mono ?_
    rintro e V3 ⟨rfl, hb3⟩
    rw [HB.out.like]
    have hA := hA.next hb3
    have hX := hX.next hb3
    have hU := hU.next hb3
    have hBK := hBK.next hb3
    clear hb3
    go_wp2_with fail
    refine hK.out _ _ hBK (fun hHeld => ?_)
    clear hK K
    try simp only [Act.put]
    refine listH (l2 := #[true, true, true, true, true, true, false, false, false, false, false, false, false, false, false, false, false, false, false]) (by kernel_rfl) ?_
    refine takeH (i := 6) (oi := _) (v := ?vk906) 108 #[true, true, true, true, true, true, true, false, false, false, false, false, false, false, false, false, false, false, false] rfl (by kernel_rfl) (by kernel_rfl) (by kernel_rfl) rfl (by kernel_rfl) (fun _ _ _ h => h) (Or.inl ⟨by rfl, ?yk906⟩) (by assumption) ?rk906
    case yk906 => (intro w' hSw; have q0 := hSw.t; have q3 := hSw.k3; have q4 := hSw.k4; have q5 := hSw.k5; have q6 := hSw.k6; have q7 := hSw.x; have q8 := hSw.u; have q9 := hSw.tx; go_simp; try with_reducible rfl)
    simp only [Act.put, List.setIfInBounds_toArray, List.set_cons_succ, List.set_cons_zero]
    refine takeH (i := 7) (oi := _) (v := ?vk907) 109 #[true, true, true, true, true, true, true, true, false, false, false, false, false, false, false, false, false, false, false] rfl (by kernel_rfl) (by kernel_rfl) (by kernel_rfl) rfl (by kernel_rfl) (fun _ _ _ h => h) (Or.inl ⟨by rfl, ?yk907⟩) (by assumption) ?rk907
    case yk907 => (intro w' hSw; have q0 := hSw.t; have q3 := hSw.k3; have q4 := hSw.k4; have q5 := hSw.k5; have q6 := hSw.k6; have q7 := hSw.x; have q8 := hSw.u; have q9 := hSw.tx; go_simp; try with_reducible rfl)
    simp only [Act.put, List.setIfInBounds_toArray, List.set_cons_succ, List.set_cons_zero]
    refine takeH (i := 8) (oi := _) (v := ?vk908) 110 #[true, true, true, true, true, true, true, true, true, false, false, false, false, false, false, false, false, false, false] rfl (by kernel_rfl) (by kernel_rfl) (by kernel_rfl) rfl (by kernel_rfl) (fun _ _ _ h => h) (Or.inl ⟨by rfl, ?yk908⟩) (by assumption) ?rk908
    case yk908 => (intro w' hSw; have q0 := hSw.t; have q3 := hSw.k3; have q4 := hSw.k4; have q5 := hSw.k5; have q6 := hSw.k6; have q7 := hSw.x; have q8 := hSw.u; have q9 := hSw.tx; go_simp; try with_reducible rfl)
    simp only [Act.put, List.setIfInBounds_toArray, List.set_cons_succ, List.set_cons_zero]
    refine takeH (i := 9) (oi := _) (v := ?vk909) 111 #[true, true, true, true, true, true, true, true, true, true, false, false, false, false, false, false, false, false, false] rfl (by kernel_rfl) (by kernel_rfl) (by kernel_rfl) rfl (by kernel_rfl) (fun _ _ _ h => h) (Or.inl ⟨by rfl, ?yk909⟩) (by assumption) ?rk909
    case yk909 => (intro w' hSw; have q0 := hSw.t; have q3 := hSw.k3; have q4 := hSw.k4; have q5 := hSw.k5; have q6 := hSw.k6; have q7 := hSw.x; have q8 := hSw.u; have q9 := hSw.tx; go_simp; try with_reducible rfl)
    simp only [Act.put, List.setIfInBounds_toArray, List.set_cons_succ, List.set_cons_zero]
    refine takeH (i := 10) (oi := _) (v := ?vk910) 112 #[true, true, true, true, true, true, true, true, true, true, true, false, false, false, false, false, false, false, false] rfl (by kernel_rfl) (by kernel_rfl) (by kernel_rfl) rfl (by kernel_rfl) (fun _ _ _ h => h) (Or.inl ⟨by rfl, ?yk910⟩) (by assumption) ?rk910
    case yk910 => (intro w' hSw; have q0 := hSw.t; have q3 := hSw.k3; have q4 := hSw.k4; have q5 := hSw.k5; have q6 := hSw.k6; have q7 := hSw.x; have q8 := hSw.u; have q9 := hSw.tx; go_simp; try with_reducible rfl)
    simp only [Act.put, List.setIfInBounds_toArray, List.set_cons_succ, List.set_cons_zero]
    refine takeH (i := 11) (oi := _) (v := ?vk911) 113 #[true, true, true, true, true, true, true, true, true, true, true, true, false, false, false, false, false, false, false] rfl (by kernel_rfl) (by kernel_rfl) (by kernel_rfl) rfl (by kernel_rfl) (fun _ _ _ h => h) (Or.inl ⟨by rfl, ?yk911⟩) (by assumption) ?rk911
    case yk911 => (intro w' hSw; have q0 := hSw.t; have q3 := hSw.k3; have q4 := hSw.k4; have q5 := hSw.k5; have q6 := hSw.k6; have q7 := hSw.x; have q8 := hSw.u; have q9 := hSw.tx; go_simp; try with_reducible rfl)
    simp only [Act.put, List.setIfInBounds_toArray, List.set_cons_succ, List.set_cons_zero]
    refine takeH (i := 12) (oi := _) (v := ?vk912) 114 #[true, true, true, true, true, true, true, true, true, true, true, true, true, false, false, false, false, false, false] rfl (by kernel_rfl) (by kernel_rfl) (by kernel_rfl) rfl (by kernel_rfl) (fun _ _ _ h => h) (Or.inl ⟨by rfl, ?yk912⟩) (by assumption) ?rk912
    case yk912 => (intro w' hSw; have q0 := hSw.t; have q3 := hSw.k3; have q4 := hSw.k4; have q5 := hSw.k5; have q6 := hSw.k6; have q7 := hSw.x; have q8 := hSw.u; have q9 := hSw.tx; go_simp; try with_reducible rfl)
    simp only [Act.put, List.setIfInBounds_toArray, List.set_cons_succ, List.set_cons_zero]
    refine takeH (i := 14) (oi := _) (v := ?vk913) 116 #[true, true, true, true, true, true, true, true, true, true, true, true, true, false, true, false, false, false, false] rfl (by kernel_rfl) (by kernel_rfl) (by kernel_rfl) rfl (by kernel_rfl) (fun _ _ _ h => h) (Or.inl ⟨by rfl, ?yk913⟩) (by assumption) ?rk913
    case yk913 => (intro w' hSw; have q0 := hSw.t; have q3 := hSw.k3; have q4 := hSw.k4; have q5 := hSw.k5; have q6 := hSw.k6; have q7 := hSw.x; have q8 := hSw.u; have q9 := hSw.tx; go_simp; try with_reducible rfl)
    simp only [Act.put, List.setIfInBounds_toArray, List.set_cons_succ, List.set_cons_zero]
    refine takeH (i := 15) (oi := _) (v := ?vk914) 117 #[true, true, true, true, true, true, true, true, true, true, true, true, true, false, true, true, false, false, false] rfl (by kernel_rfl) (by kernel_rfl) (by kernel_rfl) rfl (by kernel_rfl) (fun _ _ _ h => h) (Or.inl ⟨by rfl, ?yk914⟩) (by assumption) ?rk914
    case yk914 => (intro w' hSw; have q0 := hSw.t; have q3 := hSw.k3; have q4 := hSw.k4; have q5 := hSw.k5; have q6 := hSw.k6; have q7 := hSw.x; have q8 := hSw.u; have q9 := hSw.tx; go_simp; try with_reducible rfl)
    simp only [Act.put, List.setIfInBounds_toArray, List.set_cons_succ, List.set_cons_zero]
    refine wpAnyH_ready (rs := [13]) (by kernel_rfl) (by simp) ?_
    refine AllReadyH.cons (o := _) rfl (fun K hK => ?_) AllReadyH.nil
    go_simp
    refine (implFind (some ⟨b5, 0, none⟩) rl.length c5 rl 0 X o.dir2 o.name2 _ hSZ.2 hSR (Nat.le_of_lt hX.lt) hX.at_).mono ?_
    rintro e V3 ⟨rfl, hb3⟩
    rw [HB.out.find]
    have hA := hA.next hb3
    have hBK := hBK.next hb3
    clear hb3
    go_wp2_with fail
    refine hK.out _ _ hBK (fun hHeld => ?_)
    clear hK K
    try simp only [Act.put]
    refine listH (l2 := #[true, true, true, true, true, true, true, true, true, true, true, true, true, true, true, true, false, false, false]) (by kernel_rfl) ?_
    refine takeH (i := 16) (oi := _) (v := (.bool true)) 118 #[true, true, true, true, true, true, true, true, true, true, true, true, true, true, true, true, true, false, false] rfl (by kernel_rfl) (by kernel_rfl) (by kernel_rfl) rfl (by kernel_rfl) (fun _ _ _ h => h) (Or.inl ⟨by rfl, ?yk915⟩) (by assumption) ?rk915
    case yk915 => (intro w' hSw; go_simp; try simp [hidI])
    simp only [Act.put, List.setIfInBounds_toArray, List.set_cons_succ, List.set_cons_zero]
    refine takeH (i := 17) (oi := _) (v := ?vk916) 119 #[true, true, true, true, true, true, true, true, true, true, true, true, true, true, true, true, true, true, false] rfl (by kernel_rfl) (by kernel_rfl) (by kernel_rfl) rfl (by kernel_rfl) (fun _ _ _ h => h) (Or.inl ⟨by rfl, ?yk916⟩) (by assumption) ?rk916
    case yk916 => (intro w' hSw; have q0 := hSw.t; have q3 := hSw.k3; have q4 := hSw.k4; have q5 := hSw.k5; have q6 := hSw.k6; have q7 := hSw.x; have q8 := hSw.u; have q9 := hSw.tx; go_simp; try with_reducible rfl)
    simp only [Act.put, List.setIfInBounds_toArray, List.set_cons_succ, List.set_cons_zero]
    refine wpAnyH_ready (rs := [18]) (by kernel_rfl) (by simp) ?_
    refine AllReadyH.cons (o := _) rfl (fun K hK => ?_) AllReadyH.nil
    go_simp
    refine hK.out _ _ hHeld (fun hHeld => ?_)
    clear hK K
    try simp only [Act.put]
    refine wpAnyH_done (by kernel_rfl) ?_ _
    go_wp2_with fail
    go_ret
    exact ⟨ret_bool (by simp), hA.below⟩
  have t4 : (o.kind == 4) = false := by simpa using hk4
  by_cases hk5 : o.kind = 5
  · have t5 : (o.kind == 5) = true := by simpa using hk5
    clear hkind hk1 hk2 hk4
    have HB0 : Hid (BackText rl o) := by have h := back_text HSF.out hk5 HF.out; rw [← er] at h; exact h
    obtain ⟨s1, s2, hs⟩ : ∃ s1 s2, (s1, s2) = actR rl o := ⟨_, _, rfl⟩
    have es : s1 = (actR rl o).1 := congrArg Prod.fst hs
    obtain rfl : s2 = 0 := by have := HB0.out.fine; rw [← hs] at this; exact this
    have hG := fun W hU HS hV H => implActDo sa U0 0 W.heap.size b5 c5 rl.length o rl W hU HS hSR hSZ hV H
    rw [← hs] at hG
    try dsimp only at hG
    have xb := HX8.out.box
    have HB : Hid (BTx rl s1 o) := ⟨by have := HB0.out.like; rw [← es] at this; exact this, HB0.out.text⟩
    clear hs es hk5 HB0 er
    go_wp2_with fail
    generalize w5.alloc (.cells #[.slice x7 rl.length c7] 25) = W8 at *
    clear xb z0 z1 z2 z3 z4 z5 z6
    refine (hG W8 (Nat.le_trans hU0 HA8.out.below.size) (HS.below HA8.out.below hU0) (Nat.le_refl _) (HX8.out.at_.wide (Nat.le_refl _) (Nat.le_of_lt HX8.out.lt))).mono ?_
    rintro e w9 hE
    obtain ⟨x9, c9, rfl, ho9, hb9⟩ := hE.objs
    dsimp only at *
    have hal : Below w9.heap.size w9 (w9.alloc (.cells #[.slice x9 s1.length c9] 25)) := (Below.refl _ _).alloc (Nat.le_refl _) _
    have HA10 : Hid (AC w (w9.alloc (.cells #[.slice x9 s1.length c9] 25)) T b 32 c1 os o) := (HA8.out.next hb9).next hal
    have HX10 : Hid (XT (w9.alloc (.cells #[.slice x9 s1.length c9] 25)) X (some ⟨b5, 0, none⟩) c5 rl) := (HX8.out.next hb9).next hal
    have HU10 : Hid (XT (w9.alloc (.cells #[.slice x9 s1.length c9] 25)) w9.heap.size x9 c9 s1) := ⟨by simp [go_sem], (ho9.wide (Nat.zero_le _) (Nat.le_refl _)).below hal (Nat.le_refl _), by simp⟩
    obtain ⟨I, hidI⟩ : ∃ I : Nat, o.id = (I : Int) := ⟨o.id.toNat, by have := HID.out; omega⟩
    obtain ⟨pb, po, px, pa, pc, he, hpx, -, -, px2, -, -⟩ := HX10.out.at_.one (i := I) (by rw [HRL.out]; have := HID.out; omega)
    obtain ⟨rfl, rfl⟩ : b5 = pb ∧ 0 = po := by have h := Option.some.inj he; injection h with h1 h2; exact ⟨h1, h2⟩
    simp only [Nat.zero_add] at px2
    have HPX : Hid (rl[I]? = some px) := hpx
    have HBK0 : Hid (BK (w9.alloc (.cells #[.slice x9 s1.length c9] 25)) T b c1 X b5 c5 rl w9.heap.size x9 c9 s1 o I px.text) := ⟨HA10.out.t, HA10.out.k3, HA10.out.k4, by rw [HA10.out.k5, hidI], HA10.out.k6, HX10.out.box, HU10.out.box, px2, by have := HA10.out.lt; omega, HX10.out.lt, HU10.out.lt, cell_lt px2⟩
    have HIL : Hid (I < 32) := by have := HID.out; show _ < _; omega
    clear hE ho9 hb9 hal HA8 HX8 hG he hpx px2
    go_upto_region 18 with fail
    generalize w9.alloc (.cells #[.slice x9 s1.length c9] 25) = W10 at *
    generalize w9.heap.size = U at *
    have hbd : Below W10.heap.size W10 W10.drew := (Below.refl _ _).drew
    have hA := HA10.out.next hbd
    have hX := HX10.out.next hbd
    have hU := HU10.out.next hbd
    have hBK := HBK0.out.next hbd
    obtain ⟨tx, htx⟩ : ∃ tx, tx = px.text := ⟨_, rfl⟩
    rw [← htx] at hBK
    have HTX : Hid (tx = px.text) := htx
    clear htx HA10 HX10 HU10 HBK0 hbd
    have hI32 : (I : Int) < 32 := by have := HIL.out; omega
    obtain rfl : tx = o.text := by
      obtain ⟨q, hq, ht⟩ := HB.out.text
      have : o.id.toNat = I := by omega
      rw [this, HPX.out] at hq; cases hq
      rw [HTX.out, ht]
    have htt : (o.text.toList == o.text.toList) = true := by simp
    refine wp_region_held_drew (S := (fun W => BK W T b c1 X b5 c5 rl U x9 c9 s1 o I o.text)) (by kernel_rfl) ?_ (fun hHeld => ?_)
    · exact hBK
    refine listH (l2 := #[false, false, false, false, false, false, false, false, false, false, false, false, false, false, false, false, false, false, false, false]) (by kernel_rfl) ?_
    refine takeH (i := 0) (oi := _) (v := ?vk917) 128 #[true, false, false, false, false, false, false, false, false, false, false, false, false, false, false, false, false, false, false, false] rfl (by kernel_rfl) (by kernel_rfl) (by kernel_rfl) rfl (by kernel_rfl) (fun _ _ _ h => h) (Or.inl ⟨by rfl, ?yk917⟩) (by assumption) ?rk917
    case yk917 => (intro w' hSw; have q0 := hSw.t; have q3 := hSw.k3; have q4 := hSw.k4; have q5 := hSw.k5; have q6 := hSw.k6; have q7 := hSw.x; have q8 := hSw.u; have q9 := hSw.tx; go_simp; try with_reducible rfl)
    simp only [Act.put, List.setIfInBounds_toArray, List.set_cons_succ, List.set_cons_zero]
    refine takeH (i := 1) (oi := _) (v := ?vk918) 129 #[true, true, false, false, false, false, false, false, false, false, false, false, false, false, false, false, false, false, false, false] rfl (by kernel_rfl) (by kernel_rfl) (by kernel_rfl) rfl (by kernel_rfl) (fun _ _ _ h => h) (Or.inl ⟨by rfl, ?yk918⟩) (by assumption) ?rk918
    case yk918 => (intro w' hSw; have q0 := hSw.t; have q3 := hSw.k3; have q4 := hSw.k4; have q5 := hSw.k5; have q6 := hSw.k6; have q7 := hSw.x; have q8 := hSw.u; have q9 := hSw.tx; go_simp; try with_reducible rfl)
    simp only [Act.put, List.setIfInBounds_toArray, List.set_cons_succ, List.set_cons_zero]
    refine takeH (i := 2) (oi := _) (v := ?vk919) 130 #[true, true, true, false, false, false, false, false, false, false, false, false, false, false, false, false, false, false, false, false] rfl (by kernel_rfl) (by kernel_rfl) (by kernel_rfl) rfl (by kernel_rfl) (fun _ _ _ h => h) (Or.inl ⟨by rfl, ?yk919⟩) (by assumption) ?rk919
    case yk919 => (intro w' hSw; have q0 := hSw.t; have q3 := hSw.k3; have q4 := hSw.k4; have q5 := hSw.k5; have q6 := hSw.k6; have q7 := hSw.x; have q8 := hSw.u; have q9 := hSw.tx; go_simp; try with_reducible rfl)
    simp only [Act.put, List.setIfInBounds_toArray, List.set_cons_succ, List.set_cons_zero]
    refine takeH (i := 3) (oi := _) (v := ?vk920) 131 #[true, true, true, true, false, false, false, false, false, false, false, false, false, false, false, false, false, false, false, false] rfl (by kernel_rfl) (by kernel_rfl) (by kernel_rfl) rfl (by kernel_rfl) (fun _ _ _ h => h) (Or.inl ⟨by rfl, ?yk920⟩) (by assumption) ?rk920
    case yk920 => (intro w' hSw; have q0 := hSw.t; have q3 := hSw.k3; have q4 := hSw.k4; have q5 := hSw.k5; have q6 := hSw.k6; have q7 := hSw.x; have q8 := hSw.u; have q9 := hSw.tx; go_simp; try with_reducible rfl)
    simp only [Act.put, List.setIfInBounds_toArray, List.set_cons_succ, List.set_cons_zero]
    refine takeH (i := 4) (oi := _) (v := ?vk921) 132 #[true, true, true, true, true, false, false, false, false, false, false, false, false, false, false, false, false, false, false, false] rfl (by kernel_rfl) (by kernel_rfl) (by kernel_rfl) rfl (by kernel_rfl) (fun _ _ _ h => h) (Or.inl ⟨by rfl, ?yk921⟩) (by assumption) ?rk921
    case yk921 => (intro w' hSw; have q0 := hSw.t; have q3 := hSw.k3; have q4 := hSw.k4; have q5 := hSw.k5; have q6 := hSw.k6; have q7 := hSw.x; have q8 := hSw.u; have q9 := hSw.tx; go_simp; try with_reducible rfl)
    simp only [Act.put, List.setIfInBounds_toArray, List.set_cons_succ, List.set_cons_zero]
    refine wpAnyH_ready (rs := [5]) (by kernel_rfl) (by simp) ?_
    refine AllReadyH.cons (o := _) rfl (fun K hK => ?_) AllReadyH.nil
    go_simp
    refine (implLike x9 (some ⟨b5, 0, none⟩) s1.length rl.length c9 c5 s1 rl 0 U 0 X _ (Nat.le_of_lt hU.lt) (Nat.le_of_lt hX.lt) hU.at_ hX.at_).mono ?_
    rintro e V3 ⟨rfl, hb3⟩
    rw [HB.out.like]
    have hA := hA.next hb3
    have hX := hX.next hb3
    have hU := hU.next hb3
    have hBK := hBK.next hb3
    clear hb3
    go_wp2_with fail
    refine hK.out _ _ hBK (fun hHeld => ?_)
    clear hK K
    try simp only [Act.put]
    refine listH (l2 := #[true, true, true, true, true, true, false, false, false, false, false, false, false, false, false, false, false, false, false, false]) (by kernel_rfl) ?_
    refine takeH (i := 6) (oi := _) (v := ?vk922) 134 #[true, true, true, true, true, true, true, false, false, false, false, false, false, false, false, false, false, false, false, false] rfl (by kernel_rfl) (by kernel_rfl) (by kernel_rfl) rfl (by kernel_rfl) (fun _ _ _ h => h) (Or.inl ⟨by rfl, ?yk922⟩) (by assumption) ?rk922
    case yk922 => (intro w' hSw; have q0 := hSw.t; have q3 := hSw.k3; have q4 := hSw.k4; have q5 := hSw.k5; have q6 := hSw.k6; have q7 := hSw.x; have q8 := hSw.u; have q9 := hSw.tx; go_simp; try with_reducible rfl)
    simp only [Act.put, List.setIfInBounds_toArray, List.set_cons_succ, List.set_cons_zero]
    refine takeH (i := 7) (oi := _) (v := ?vk923) 135 #[true, true, true, true, true, true, true, true, false, false, false, false, false, false, false, false, false, false, false, false] rfl (by kernel_rfl) (by kernel_rfl) (by kernel_rfl) rfl (by kernel_rfl) (fun _ _ _ h => h) (Or.inl ⟨by rfl, ?yk923⟩) (by assumption) ?rk923
    case yk923 => (intro w' hSw; have q0 := hSw.t; have q3 := hSw.k3; have q4 := hSw.k4; have q5 := hSw.k5; have q6 := hSw.k6; have q7 := hSw.x; have q8 := hSw.u; have q9 := hSw.tx; go_simp; try with_reducible rfl)
    simp only [Act.put, List.setIfInBounds_toArray, List.set_cons_succ, List.set_cons_zero]
    refine takeH (i := 8) (oi := _) (v := ?vk924) 136 #[true, true, true, true, true, true, true, true, true, false, false, false, false, false, false, false, false, false, false, false] rfl (by kernel_rfl) (by kernel_rfl) (by kernel_rfl) rfl (by kernel_rfl) (fun _ _ _ h => h) (Or.inl ⟨by rfl, ?yk924⟩) (by assumption) ?rk924
    case yk924 => (intro w' hSw; have q0 := hSw.t; have q3 := hSw.k3; have q4 := hSw.k4; have q5 := hSw.k5; have q6 := hSw.k6; have q7 := hSw.x; have q8 := hSw.u; have q9 := hSw.tx; go_simp; try with_reducible rfl)
    simp only [Act.put, List.setIfInBounds_toArray, List.set_cons_succ, List.set_cons_zero]
    refine takeH (i := 9) (oi := _) (v := ?vk925) 137 #[true, true, true, true, true, true, true, true, true, true, false, false, false, false, false, false, false, false, false, false] rfl (by kernel_rfl) (by kernel_rfl) (by kernel_rfl) rfl (by kernel_rfl) (fun _ _ _ h => h) (Or.inl ⟨by rfl, ?yk925⟩) (by assumption) ?rk925
    case yk925 => (intro w' hSw; have q0 := hSw.t; have q3 := hSw.k3; have q4 := hSw.k4; have q5 := hSw.k5; have q6 := hSw.k6; have q7 := hSw.x; have q8 := hSw.u; have q9 := hSw.tx; go_simp; try with_reducible rfl)
    simp only [Act.put, List.setIfInBounds_toArray, List.set_cons_succ, List.set_cons_zero]
    refine takeH (i := 10) (oi := _) (v := ?vk926) 138 #[true, true, true, true, true, true, true, true, true, true, true, false, false, false, false, false, false, false, false, false] rfl (by kernel_rfl) (by kernel_rfl) (by kernel_rfl) rfl (by kernel_rfl) (fun _ _ _ h => h) (Or.inl ⟨by rfl, ?yk926⟩) (by assumption) ?rk926
    case yk926 => (intro w' hSw; have q0 := hSw.t; have q3 := hSw.k3; have q4 := hSw.k4; have q5 := hSw.k5; have q6 := hSw.k6; have q7 := hSw.x; have q8 := hSw.u; have q9 := hSw.tx; go_simp; try with_reducible rfl)
    simp only [Act.put, List.setIfInBounds_toArray, List.set_cons_succ, List.set_cons_zero]
    refine takeH (i := 11) (oi := _) (v := ?vk927) 139 #[true, true, true, true, true, true, true, true, true, true, true, true, false, false, false, false, false, false, false, false] rfl (by kernel_rfl) (by kernel_rfl) (by kernel_rfl) rfl (by kernel_rfl) (fun _ _ _ h => h) (Or.inl ⟨by rfl, ?yk927⟩) (by assumption) ?rk927
    case yk927 => (intro w' hSw; have q0 := hSw.t; have q3 := hSw.k3; have q4 := hSw.k4; have q5 := hSw.k5; have q6 := hSw.k6; have q7 := hSw.x; have q8 := hSw.u; have q9 := hSw.tx; go_simp; try with_reducible rfl)
    simp only [Act.put, List.setIfInBounds_toArray, List.set_cons_succ, List.set_cons_zero]
    refine takeH (i := 12) (oi := _) (v := (.pointer (some ⟨b5, I * 4, none⟩))) 140 #[true, true, true, true, true, true, true, true, true, true, true, true, true, false, false, false, false, false, false, false] rfl (by kernel_rfl) (by kernel_rfl) (by kernel_rfl) rfl (by kernel_rfl) (fun _ _ _ h => h) (Or.inl ⟨by rfl, ?yk928⟩) (by assumption) ?rk928
    case yk928 => (intro w' hSw; have hIL : (I : Int) < (rl.length : Int) := (by rw [HRL.out]; omega); have q0 := hSw.t; have q3 := hSw.k3; have q4 := hSw.k4; have q5 := hSw.k5; have q6 := hSw.k6; have q7 := hSw.x; have q8 := hSw.u; have q9 := hSw.tx; go_simp; try simp)
    simp only [Act.put, List.setIfInBounds_toArray, List.set_cons_succ, List.set_cons_zero]
    refine takeH (i := 13) (oi := _) (v := ?vk929) 141 #[true, true, true, true, true, true, true, true, true, true, true, true, true, true, false, false, false, false, false, false] rfl (by kernel_rfl) (by kernel_rfl) (by kernel_rfl) rfl (by kernel_rfl) (fun _ _ _ h => h) (Or.inl ⟨by rfl, ?yk929⟩) (by assumption) ?rk929
    case yk929 => (intro w' hSw; have q0 := hSw.t; have q3 := hSw.k3; have q4 := hSw.k4; have q5 := hSw.k5; have q6 := hSw.k6; have q7 := hSw.x; have q8 := hSw.u; have q9 := hSw.tx; go_simp; try with_reducible rfl)
    simp only [Act.put, List.setIfInBounds_toArray, List.set_cons_succ, List.set_cons_zero]
    refine takeH (i := 14) (oi := _) (v := ?vk930) 142 #[true, true, true, true, true, true, true, true, true, true, true, true, true, true, true, false, false, false, false, false] rfl (by kernel_rfl) (by kernel_rfl) (by kernel_rfl) rfl (by kernel_rfl) (fun _ _ _ h => h) (Or.inl ⟨by rfl, ?yk930⟩) (by assumption) ?rk930
    case yk930 => (intro w' hSw; have q0 := hSw.t; have q3 := hSw.k3; have q4 := hSw.k4; have q5 := hSw.k5; have q6 := hSw.k6; have q7 := hSw.x; have q8 := hSw.u; have q9 := hSw.tx; go_simp; try with_reducible rfl)
    simp only [Act.put, List.setIfInBounds_toArray, List.set_cons_succ, List.set_cons_zero]
    refine takeH (i := 15) (oi := _) (v := ?vk931) 143 #[true, true, true, true, true, true, true, true, true, true, true, true, true, true, true, true, false, false, false, false] rfl (by kernel_rfl) (by kernel_rfl) (by kernel_rfl) rfl (by kernel_rfl) (fun _ _ _ h => h) (Or.inl ⟨by rfl, ?yk931⟩) (by assumption) ?rk931
    case yk931 => (intro w' hSw; have q0 := hSw.t; have q3 := hSw.k3; have q4 := hSw.k4; have q5 := hSw.k5; have q6 := hSw.k6; have q7 := hSw.x; have q8 := hSw.u; have q9 := hSw.tx; go_simp; try with_reducible rfl)
    simp only [Act.put, List.setIfInBounds_toArray, List.set_cons_succ, List.set_cons_zero]
    refine takeH (i := 16) (oi := _) (v := ?vk932) 144 #[true, true, true, true, true, true, true, true, true, true, true, true, true, true, true, true, true, false, false, false] rfl (by kernel_rfl) (by kernel_rfl) (by kernel_rfl) rfl (by kernel_rfl) (fun _ _ _ h => h) (Or.inl ⟨by rfl, ?yk932⟩) (by assumption) ?rk932
    case yk932 => (intro w' hSw; have q0 := hSw.t; have q3 := hSw.k3; have q4 := hSw.k4; have q5 := hSw.k5; have q6 := hSw.k6; have q7 := hSw.x; have q8 := hSw.u; have q9 := hSw.tx; go_simp; try with_reducible rfl)
    simp only [Act.put, List.setIfInBounds_toArray, List.set_cons_succ, List.set_cons_zero]
    refine takeH (i := 17) (oi := _) (v := (.bool true)) 145 #[true, true, true, true, true, true, true, true, true, true, true, true, true, true, true, true, true, true, false, false] rfl (by kernel_rfl) (by kernel_rfl) (by kernel_rfl) rfl (by kernel_rfl) (fun _ _ _ h => h) (Or.inl ⟨by rfl, ?yk933⟩) (by assumption) ?rk933
    case yk933 => (intro w' hSw; go_simp; try simp)
    simp only [Act.put, List.setIfInBounds_toArray, List.set_cons_succ, List.set_cons_zero]
    refine takeH (i := 18) (oi := _) (v := ?vk934) 146 #[true, true, true, true, true, true, true, true, true, true, true, true, true, true, true, true, true, true, true, false] rfl (by kernel_rfl) (by kernel_rfl) (by kernel_rfl) rfl (by kernel_rfl) (fun _ _ _ h => h) (Or.inl ⟨by rfl, ?yk934⟩) (by assumption) ?rk934
    case yk934 => (intro w' hSw; have q0 := hSw.t; have q3 := hSw.k3; have q4 := hSw.k4; have q5 := hSw.k5; have q6 := hSw.k6; have q7 := hSw.x; have q8 := hSw.u; have q9 := hSw.tx; go_simp; try with_reducible rfl)
    simp only [Act.put, List.setIfInBounds_toArray, List.set_cons_succ, List.set_cons_zero]
    refine wpAnyH_ready (rs := [19]) (by kernel_rfl) (by simp) ?_
    refine AllReadyH.cons (o := _) rfl (fun K hK => ?_) AllReadyH.nil
    go_simp
    refine hK.out _ _ hHeld (fun hHeld => ?_)
    clear hK K
    try simp only [Act.put]
    refine wpAnyH_done (by kernel_rfl) ?_ _
    go_wp2_with fail
    go_ret
    exact ⟨ret_bool (by simp), hA.below⟩
  have t5 : (o.kind == 5) = false := by simpa using hk5
  have hk3 : o.kind = 3 := by omega
  clear hkind hk1 hk2 hk4 hk5
  have HB0 : Hid (BackGone rl o) := by have h := back_gone HSF.out hk3 HF.out; rw [← er] at h; exact h
  obtain ⟨s1, s2, hs⟩ : ∃ s1 s2, (s1, s2) = actR rl o := ⟨_, _, rfl⟩
  have es : s1 = (actR rl o).1 := congrArg Prod.fst hs
  obtain rfl : s2 = 2 := by have := HB0.out.code; rw [← hs] at this; exact this
  have hG := fun W hU HS hV H => implActDo sa U0 0 W.heap.size b5 c5 rl.length o rl W hU HS hSR hSZ hV H
  rw [← hs] at hG
  try dsimp only at hG
  have xb := HX8.out.box
  clear hs es hk3 er
  go_wp2_with fail
  generalize w5.alloc (.cells #[.slice x7 rl.length c7] 25) = W8 at *
  clear xb z0 z1 z2 z3 z4 z5 z6
  refine (hG W8 (Nat.le_trans hU0 HA8.out.below.size) (HS.below HA8.out.below hU0) (Nat.le_refl _) (HX8.out.at_.wide (Nat.le_refl _) (Nat.le_of_lt HX8.out.lt))).mono ?_
  rintro e w9 hE
  obtain ⟨x9, c9, rfl, ho9, hb9⟩ := hE.objs
  dsimp only at *
  have hal : Below w9.heap.size w9 (w9.alloc (.cells #[.slice x9 s1.length c9] 25)) := (Below.refl _ _).alloc (Nat.le_refl _) _
  have HA10 : Hid (AC w (w9.alloc (.cells #[.slice x9 s1.length c9] 25)) T b 32 c1 os o) := (HA8.out.next hb9).next hal
  have HX10 : Hid (XT (w9.alloc (.cells #[.slice x9 s1.length c9] 25)) X (some ⟨b5, 0, none⟩) c5 rl) := (HX8.out.next hb9).next hal
  have HU10 : Hid (XT (w9.alloc (.cells #[.slice x9 s1.length c9] 25)) w9.heap.size x9 c9 s1) := ⟨by simp [go_sem], (ho9.wide (Nat.zero_le _) (Nat.le_refl _)).below hal (Nat.le_refl _), by simp⟩
  obtain ⟨I, hidI⟩ : ∃ I : Nat, o.id = (I : Int) := ⟨o.id.toNat, by have := HID.out; omega⟩
  have HIL : Hid (I < 32) := by have := HID.out; show _ < _; omega
  have xb := HX10.out.box
  have z5 := HA10.out.k5
  clear hE ho9 hb9 hal HA8 HX8 hG HU10
  go_wp2_with fail
  generalize w9.alloc (.cells #[.slice x9 s1.length c9] 25) = W10 at *
  clear xb z5
  refine (implHome (some ⟨b5, 0, none⟩) rl.length c5 rl 0 X (I : Int) W10 (Nat.le_of_lt HX10.out.lt) HX10.out.at_).mono ?_
  rintro e w11 ⟨rfl, hb11⟩
  rw [show homeV rl (I : Int) = homeV rl o.id from by rw [hidI], HB0.out.home]
  have HA11 : Hid (AC w w11 T b 32 c1 os o) := HA10.out.next hb11
  have HX11 : Hid (XT w11 X (some ⟨b5, 0, none⟩) c5 rl) := HX10.out.next hb11
  obtain ⟨pb, po, px, pa, pc, he, hpx, px0, -, -, -, -⟩ := HX11.out.at_.one (i := I) (by rw [HRL.out]; exact HIL.out)
  obtain ⟨rfl, rfl⟩ : b5 = pb ∧ 0 = po := by have h := Option.some.inj he; injection h with h1 h2; exact ⟨h1, h2⟩
  simp only [Nat.zero_add] at px0
  have hk0 : px.kind = 0 := by
    obtain ⟨q, hq, ht⟩ := HB0.out.none
    have : o.id.toNat = I := by omega
    rw [this, hpx] at hq; cases hq
    exact ht
  rw [hk0] at px0
  have xb := HX11.out.box
  rw [HRL.out] at xb
  have z5 := HA11.out.k5
  rw [hidI] at z5
  have hI32 : (I : Int) < 32 := by have := HIL.out; omega
  clear HA10 HX10 hb11 he hpx hk0 hidI
  go_wp2_with fail
  go_ret
  exact ⟨ret_bool (by simp), HA11.out.below⟩
end Go.Proofs.YtnolbfijcnldjaaGreatDoor
