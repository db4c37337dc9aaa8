/- Lemmas that the proofs of this seat share: FnActTurnW. -/
import Derived.Test.YtnolbfijcnldjaaGreatDoorU25
import Derived.Test.YtnolbfijcnldjaaGreatDoorU27
import Derived.Test.YtnolbfijcnldjaaGreatDoorU21
import Derived.Deep.RegionWith
import Derived.RowKitTokens
/- At every code the call of laws.FnActTurn returns true. -/
namespace Go.Proofs.YtnolbfijcnldjaaGreatDoor
open Go.RowKit

/-- What was drawn, in its boxes. -/
structure AC (w W : World) (T b k c1 : Nat) (os : List LObj) (o : LOp) : Prop where
  below : Below w.heap.size w W
  t : W.cell? ⟨T, 0, none⟩ = some (.slice (some ⟨b, 0, none⟩) k c1)
  k0 : W.cell? ⟨T + 1, 0, none⟩ = some (.int .i64 o.kind)
  k1 : W.cell? ⟨T + 1, 1, none⟩ = some (.int .i64 o.dir)
  k2 : W.cell? ⟨T + 1, 2, none⟩ = some (.string o.name)
  k3 : W.cell? ⟨T + 1, 3, none⟩ = some (.int .i64 o.dir2)
  k4 : W.cell? ⟨T + 1, 4, none⟩ = some (.string o.name2)
  k5 : W.cell? ⟨T + 1, 5, none⟩ = some (.int .i64 o.id)
  k6 : W.cell? ⟨T + 1, 6, none⟩ = some (.string o.text)
  at_ : ObjsAt W w.heap.size T (some ⟨b, 0, none⟩) k os
  lo : w.heap.size ≤ T
  lt : T + 1 < W.heap.size
theorem AC.next {w W W' : World} {T b k c1 : Nat} {os : List LObj} {o : LOp} (h : AC w W T b k c1 os o) (hb : Below W.heap.size W W') : AC w W' T b k c1 os o := by
  have hlt := h.lt
  have hc : ∀ j, W'.cell? ⟨T + 1, j, none⟩ = W.cell? ⟨T + 1, j, none⟩ := fun j => hb.cell (by simpa using hlt)
  exact ⟨h.below.trans (hb.mono h.below.size), by rw [hb.cell (by simp; omega)]; exact h.t, by rw [hc]; exact h.k0, by rw [hc]; exact h.k1, by rw [hc]; exact h.k2, by rw [hc]; exact h.k3, by rw [hc]; exact h.k4, by rw [hc]; exact h.k5, by rw [hc]; exact h.k6, h.at_.below hb (by omega), h.lo, by have := hb.size; omega⟩
/-- The tree that came out, in its box. -/
structure XT (W : World) (X : Nat) (x : Option Addr) (c : Nat) (rl : List LObj) : Prop where
  box : W.cell? ⟨X, 0, none⟩ = some (.slice x rl.length c)
  at_ : ObjsAt W 0 X x rl.length rl
  lt : X < W.heap.size
theorem XT.next {W W' : World} {X : Nat} {x : Option Addr} {c : Nat} {rl : List LObj} (h : XT W X x c rl) (hb : Below W.heap.size W W') : XT W' X x c rl :=
  ⟨by rw [hb.cell (by simpa using h.lt)]; exact h.box, h.at_.below hb (Nat.le_of_lt h.lt), by have := hb.size; have := h.lt; omega⟩
/-- One object of a list, whole. -/
theorem ObjsAt.one {W : World} {L U : Nat} {a : Option Addr} {n : Nat} {os : List LObj} (h : ObjsAt W L U a n os) {i : Nat} (hi : i < n) : ∃ b off x ka kc, a = some ⟨b, off, none⟩ ∧ os[i]? = some x ∧ W.cell? ⟨b, off + i * 4, none⟩ = some (.int .i64 x.kind) ∧ W.cell? ⟨b, off + i * 4 + 1, none⟩ = some (.int .i64 x.ver) ∧ W.cell? ⟨b, off + i * 4 + 2, none⟩ = some (.string x.text) ∧ W.cell? ⟨b, off + i * 4 + 3, none⟩ = some (.slice ka x.kids.length kc) ∧ EntsAt W L U ka x.kids.length x.kids := by
  obtain ⟨b, off, he, -, -, hc⟩ := h.at_ (by omega)
  obtain ⟨x, ka, kn, kc, h1, -, h2, h3, h6, h4, h5⟩ := hc i hi
  have hl := h5.len
  subst hl
  exact ⟨b, off, x, ka, kc, he, h1, h2, h3, h6, h4, h5⟩

/-- An object in a box. -/
structure OBx (W : World) (A : Nat) (x : LObj) (ka : Option Addr) (kc : Nat) : Prop where
  c0 : W.cell? ⟨A, 0, none⟩ = some (.int .i64 x.kind)
  c1 : W.cell? ⟨A, 1, none⟩ = some (.int .i64 x.ver)
  c2 : W.cell? ⟨A, 2, none⟩ = some (.string x.text)
  c3 : W.cell? ⟨A, 3, none⟩ = some (.slice ka x.kids.length kc)
  es : EntsAt W 0 A ka x.kids.length x.kids
  lt : A < W.heap.size
theorem Hid.mk' {p : Prop} (h : p) : Hid p := h
theorem EntsAt.wide_ {w : World} {L U L' U' : Nat} {a : Option Addr} {n : Nat} {es : List LEnt} (h : EntsAt w L U a n es) (hL : L' ≤ L) (hU : U ≤ U') : EntsAt w L' U' a n es :=
  ⟨h.len, h.bd, fun hn => by obtain ⟨b, off, h1, h2, h3, h4⟩ := h.at_ hn; exact ⟨b, off, h1, Nat.le_trans hL h2, Nat.lt_of_lt_of_le h3 hU, h4⟩⟩
theorem OBx.next {W W' : World} {A : Nat} {x : LObj} {ka : Option Addr} {kc : Nat} (h : OBx W A x ka kc) (hb : Below W.heap.size W W') : OBx W' A x ka kc :=
  ⟨by rw [hb.cell (by simpa using h.lt)]; exact h.c0, by rw [hb.cell (by simpa using h.lt)]; exact h.c1, by rw [hb.cell (by simpa using h.lt)]; exact h.c2, by rw [hb.cell (by simpa using h.lt)]; exact h.c3, h.es.below hb (Nat.le_of_lt h.lt), by have := hb.size; have := h.lt; omega⟩
theorem turn_no {o : LOp} {i : Nat} {x y : LObj} {s0 : Bool} (h : TurnP o i x y) (hs : s0 = ((x.kind == y.kind) && sEq x.text y.text && ((x.kids.length : Int) == (y.kids.length : Int)))) (hn : s0 = false ∨ x.kids ≠ y.kids) : y.ver = x.ver + 1 := by
  rcases h with rfl | ⟨h, -⟩
  · rcases hn with hn | hn
    · rw [hn, (sEq_iff _ _).2 rfl] at hs; simp at hs
    · exact absurd rfl hn
  · exact h
theorem eEq_eq {a b : LEnt} (h : eEq a b = true) : a = b := by
  unfold eEq at h
  simp only [Bool.and_eq_true, sEq_iff, beq_iff_eq] at h
  cases a; cases b; simp_all
theorem turn_yes {o : LOp} {x y : LObj} {s0 : Bool} (h0 : s0 = true) (hs : s0 = ((x.kind == y.kind) && sEq x.text y.text && ((x.kids.length : Int) == (y.kids.length : Int)))) (hq : ∀ (q : Nat) e f, x.kids[q]? = some e → y.kids[q]? = some f → eEq e f = true) : (o.kind = 5 ∨ y.kind ≠ x.kind ∨ y.kids ≠ x.kids) → o.kind = 5 := by
  rw [h0] at hs
  have hs := hs.symm
  simp only [Bool.and_eq_true, beq_iff_eq] at hs
  have hk : x.kids = y.kids := by
    apply List.ext_getElem?
    intro q
    by_cases hl : q < x.kids.length
    · have hl2 : q < y.kids.length := by omega
      have := eEq_eq (hq q _ _ (List.getElem?_eq_getElem hl) (List.getElem?_eq_getElem hl2))
      rw [List.getElem?_eq_getElem hl, List.getElem?_eq_getElem hl2, this]
    · rw [List.getElem?_eq_none (by omega), List.getElem?_eq_none (by omega)]
  rintro (h | h | h)
  · exact h
  · exact absurd hs.1.1.symm h
  · exact absurd hk.symm h
theorem wrap_ver {v : Int} (h0 : 0 ≤ v) (h1 : v ≤ 1000000) : wrap64 (v + 1) = v + 1 := by
  unfold wrap64; omega
theorem wrap_nat {j : Nat} (h : j < 9223372036854775807) : Value.int .i64 (wrap64 ((j : Int) + 1)) = Value.int .i64 (((j + 1 : Nat)) : Int) := by
  have : wrap64 ((j : Int) + 1) = ((j + 1 : Nat) : Int) := by unfold wrap64; omega
  rw [this]
theorem kids_ne {l m : List LEnt} {j : Nat} {e f : LEnt} (h : l[j]? = some e) (k : m[j]? = some f) (hn : eEq e f = false) : l ≠ m := by
  rintro rfl
  rw [h] at k; cases k
  rw [eEq_yes rfl rfl] at hn; cases hn
theorem s0_len {x y : LObj} {s0 : Bool} (h0 : s0 = true) (hs : s0 = ((x.kind == y.kind) && sEq x.text y.text && ((x.kids.length : Int) == (y.kids.length : Int)))) : x.kids.length = y.kids.length := by
  rw [h0] at hs
  have hs := hs.symm
  simp only [Bool.and_eq_true, beq_iff_eq] at hs
  omega
theorem turnR {os rl : List LObj} {o : LOp} {rk : Int} (hs : specOk os = true) (hr : (rl, rk) = actR os o) {i : Nat} {a b : LObj} (ha : os[i]? = some a) (hb : rl[i]? = some b) : TurnP o i a b := by
  unfold actR at hr
  rw [if_pos hs] at hr
  by_cases hk : opOk o = true
  · rw [if_pos hk] at hr
    rw [show rl = (actDo os o).1 from congrArg Prod.fst hr] at hb
    exact turnP_any hs hk ha hb
  · rw [if_neg hk] at hr
    obtain ⟨rfl, -⟩ := Prod.mk.inj hr
    exact same_turn ha hb

theorem turnR_len {os rl : List LObj} {o : LOp} {rk : Int} (hs : specOk os = true) (hr : (rl, rk) = actR os o) : rl.length = 32 := by
  unfold actR at hr
  rw [if_pos hs] at hr
  by_cases hk : opOk o = true
  · rw [if_pos hk] at hr
    rw [show rl = (actDo os o).1 from congrArg Prod.fst hr, actDo_len, ok_len hs]
  · rw [if_neg hk] at hr
    obtain ⟨rfl, -⟩ := Prod.mk.inj hr
    exact ok_len hs

set_option maxHeartbeats 16000000 in
set_option maxRecDepth 20000 in
theorem walkActTurn (sa : Nat → Addr) (U0 : Nat) (a : Option Addr) (n c : Nat) (zs : List Int) (w : World) (hU0 : U0 ≤ w.heap.size) (HS : Sents w U0 sa) (hc : n ≤ c) (hcb : n ≤ maxLen) (H : BytesAt w w.heap.size a n zs) :
    Calls Tryz.prog 9 #[.slice a n c] w fun e w' => e = .returned (.bool true) ∧ Below w.heap.size w w' := by
  unfold maxLen at hcb
  by_cases hn : 1048576 < n
  · have hnI : (1048576 : Int) < (n : Int) := by omega
    go_enter Tryz.func9, Tryz.ntmps9
    go_wp2_with fail
    go_ret
    exact ⟨rfl, Below.refl _ _⟩
  have hnI : ¬ (1048576 : Int) < (n : Int) := by omega
  go_enter Tryz.func9, Tryz.ntmps9
  go_wp2_with fail
  refine (drawAct a n c zs w (by omega) hc H).mono ?_
  rintro e w1 ⟨⟨b, k, c1, os, o, rfl, hD⟩, hb1⟩
  clear hnI hn H
  have hb2 : Below w1.heap.size w1 ((w1.alloc (.cells #[.slice (some ⟨b, 0, none⟩) k c1] 25)).alloc (.cells #[.int .i64 o.kind, .int .i64 o.dir, .string o.name, .int .i64 o.dir2, .string o.name2, .int .i64 o.id, .string o.text] 27)) := ((Below.refl _ _).alloc (Nat.le_refl _) _).alloc (by simp) _
  have HA : Hid (AC w ((w1.alloc (.cells #[.slice (some ⟨b, 0, none⟩) k c1] 25)).alloc (.cells #[.int .i64 o.kind, .int .i64 o.dir, .string o.name, .int .i64 o.dir2, .string o.name2, .int .i64 o.id, .string o.text] 27)) w1.heap.size b k c1 os o) :=
    ⟨hb1.trans (hb2.mono hb1.size), by simp [go_sem], by simp [go_sem], by simp [go_sem], by simp [go_sem], by simp [go_sem], by simp [go_sem], by simp [go_sem], by simp [go_sem], hD.at_.below hb2 (Nat.le_refl _), hb1.size, by simp⟩
  have hS1 : Sizes os 1048576 := hD.bn.sizes
  have hSZ : OpSz o := opb_sz hD.op
  have hk32 : k ≤ 32 := hD.le
  have HKL : Hid (k = os.length) := hD.at_.len
  have hIM := fun L V w hU HS hV H => implActDo sa U0 L V b c1 k o os w hU HS hS1 hSZ hV H
  have hSP := fun L V w hV H => specActDo L V b c1 k o os w hS1 hSZ hV H
  obtain ⟨rl, rk, hr⟩ : ∃ rl rk, (rl, rk) = actR os o := ⟨_, _, rfl⟩
  rw [← hr] at hIM hSP
  have HR : Hid ((rl, rk) = actR os o) := hr
  have e0 := HA.out.t
  have z0 := HA.out.k0
  have z1 := HA.out.k1
  have z2 := HA.out.k2
  have z3 := HA.out.k3
  have z4 := HA.out.k4
  have z5 := HA.out.k5
  have z6 := HA.out.k6
  clear hD hb1 hb2 hr
  simp only [LOp.val]
  go_wp2_with fail
  generalize hW2 : ((w1.alloc (.cells #[.slice (some ⟨b, 0, none⟩) k c1] 25)).alloc (.cells #[.int .i64 o.kind, .int .i64 o.dir, .string o.name, .int .i64 o.dir2, .string o.name2, .int .i64 o.id, .string o.text] 27)) = W2 at *
  generalize hTT : w1.heap.size = T at *
  clear hW2 hTT e0 z0 z1 z2 z3 z4 z5 z6
  refine (hIM w.heap.size T W2 (Nat.le_trans hU0 HA.out.below.size) (HS.below HA.out.below hU0) (by have := HA.out.lt; omega) HA.out.at_).mono ?_
  rintro e w3 hE
  obtain ⟨x5, c5, rfl, ho5, hb5⟩ := hE.objs
  dsimp only at *
  have HA4 : Hid (AC w (w3.alloc (.cells #[.slice x5 rl.length c5] 25)) T b k c1 os o) := (HA.out.next hb5).next ((Below.refl _ _).alloc (Nat.le_refl _) _)
  have e0 := HA4.out.t
  have z0 := HA4.out.k0
  have z1 := HA4.out.k1
  have z2 := HA4.out.k2
  have z3 := HA4.out.k3
  have z4 := HA4.out.k4
  have z5 := HA4.out.k5
  have z6 := HA4.out.k6
  have HX4 : Hid (XT (w3.alloc (.cells #[.slice x5 rl.length c5] 25)) w3.heap.size x5 c5 rl) := ⟨by simp [go_sem], (ho5.wide (Nat.zero_le _) (Nat.le_refl _)).below ((Below.refl _ _).alloc (Nat.le_refl _) _) (Nat.le_refl _), by simp⟩
  clear hE ho5 hb5 HA hIM
  go_wp2_with fail
  generalize w3.alloc (.cells #[.slice x5 rl.length c5] 25) = W4 at *
  generalize w3.heap.size = X at *
  clear e0 z0 z1 z2 z3 z4 z5 z6
  refine (hSP w.heap.size T W4 (by have := HA4.out.lt; omega) HA4.out.at_).mono ?_
  rintro e w5 hE
  obtain ⟨x7, c7, rfl, ho7, hb7⟩ := hE.objs
  dsimp only at *
  have HA6 : Hid (AC w (w5.alloc (.cells #[.slice x7 rl.length c7] 25)) T b k c1 os o) := (HA4.out.next hb7).next ((Below.refl _ _).alloc (Nat.le_refl _) _)
  have e0 := HA6.out.t
  have HX6 : Hid (XT (w5.alloc (.cells #[.slice x7 rl.length c7] 25)) X x5 c5 rl) := (HX4.out.next hb7).next ((Below.refl _ _).alloc (Nat.le_refl _) _)
  clear hE ho7 hb7 HA4 HX4 hSP
  go_wp2_with fail
  generalize w5.alloc (.cells #[.slice x7 rl.length c7] 25) = W6 at *
  clear e0
  refine (specTreeOk (some ⟨b, 0, none⟩) k c1 os w.heap.size T W6 hS1 (by have := HA6.out.lt; omega) HA6.out.at_).mono ?_
  rintro e w7 ⟨rfl, hb7⟩
  have HA7 : Hid (AC w w7 T b k c1 os o) := HA6.out.next hb7
  have HX7 : Hid (XT w7 X x5 c5 rl) := HX6.out.next hb7
  clear HA6 HX6 hb7
  rcases hts : specOk os with _ | _
  · go_wp2_with fail
    go_ret
    exact ⟨ret_bool (by simp), HA7.out.below⟩
  have HTS : Hid (specOk os = true) := hts
  have hkk : k = 32 := by rw [HKL.out]; exact ok_len hts
  subst hkk
  have HRL : Hid (rl.length = 32) := by
    show _ = _
    exact turnR_len hts HR.out
  clear hts hk32
  go_wp2_with fail
  go_loopg [9] 32 (fun g iv wr => ∃ i : Nat, i ≤ 32 ∧ Hid (g = 32 - i) ∧ iv = .int .i64 i ∧ Hid (AC w wr T b 32 c1 os o) ∧ Hid (XT wr X x5 c5 rl))
  case atStart => exact ⟨0, Nat.zero_le _, rfl, rfl, HA7, HX7⟩
  case round =>
    obtain ⟨i, hi, hg, rfl, HAr, HXr⟩ := hrel
    by_cases hlt : i < 32
    · have hltI : (i : Int) < 32 := by omega
      obtain ⟨b0, off0, x, ka, kc, hb0, hx, x0, x1, x2, x3, hxe⟩ := HAr.out.at_.one hlt
      obtain ⟨rfl, rfl⟩ : b = b0 ∧ 0 = off0 := by have h := Option.some.inj hb0; injection h with h1 h2; exact ⟨h1, h2⟩
      have tb := HAr.out.t
      simp only [Nat.zero_add] at x0 x1 x2 x3
      clear hb0
      go_upto_region 12 with fail
      have hba : Below wr.heap.size wr (wr.alloc (.cells #[.int .i64 x.kind, .int .i64 x.ver, .string x.text, .slice ka x.kids.length kc] 38)) := (Below.refl _ _).alloc (Nat.le_refl _) _
      have HA11 := Hid.mk' (HAr.out.next hba)
      have HX11 := Hid.mk' (HXr.out.next hba)
      have HB11 : Hid (OBx (wr.alloc (.cells #[.int .i64 x.kind, .int .i64 x.ver, .string x.text, .slice ka x.kids.length kc] 38)) wr.heap.size x ka kc) := ⟨by simp [go_sem], by simp [go_sem], by simp [go_sem], by simp [go_sem], (hxe.wide_ (Nat.zero_le _) (by have := HAr.out.lt; omega)).below hba (Nat.le_refl _), by simp⟩
      generalize wr.alloc (.cells #[.int .i64 x.kind, .int .i64 x.ver, .string x.text, .slice ka x.kids.length kc] 38) = W11 at *
      generalize wr.heap.size = A at *
      clear hba x0 x1 x2 x3 tb HAr HXr hxe
      obtain ⟨b1, off1, y, kb, kd, rfl, hy, y0, y1, y2, y3, hye⟩ := HX11.out.at_.one (i := i) (by have := HRL.out; omega)
      have HXV : Hid (0 ≤ x.ver ∧ x.ver ≤ 1000000) := ok_ver HTS.out hx
      have HTP : Hid (TurnP o i x y) := turnR HTS.out HR.out hx hy
      have xb := HX11.out.box
      rw [HRL.out] at xb
      clear hx hy
      go_upto_region 13 with fail
      have hbb : Below W11.heap.size W11 (W11.alloc (.cells #[.int .i64 y.kind, .int .i64 y.ver, .string y.text, .slice kb y.kids.length kd] 38)) := (Below.refl _ _).alloc (Nat.le_refl _) _
      have HA12 := Hid.mk' (HA11.out.next hbb)
      have HX12 := Hid.mk' (HX11.out.next hbb)
      have HB12 := Hid.mk' (HB11.out.next hbb)
      have HC12 : Hid (OBx (W11.alloc (.cells #[.int .i64 y.kind, .int .i64 y.ver, .string y.text, .slice kb y.kids.length kd] 38)) W11.heap.size y kb kd) := ⟨by simp [go_sem], by simp [go_sem], by simp [go_sem], by simp [go_sem], (hye.wide_ (Nat.le_refl _) (by have := HX11.out.lt; omega)).below hbb (Nat.le_refl _), by simp⟩
      have hAB : A < W11.heap.size := HB11.out.lt
      generalize W11.alloc (.cells #[.int .i64 y.kind, .int .i64 y.ver, .string y.text, .slice kb y.kids.length kd] 38) = W12 at *
      generalize W11.heap.size = B at *
      clear hbb y0 y1 y2 y3 xb HA11 HX11 HB11 hye
      obtain ⟨s0, hs0⟩ : ∃ s0 : Bool, s0 = ((x.kind == y.kind) && sEq x.text y.text && ((x.kids.length : Int) == (y.kids.length : Int))) := ⟨_, rfl⟩
      have HS0 : Hid (s0 = ((x.kind == y.kind) && sEq x.text y.text && ((x.kids.length : Int) == (y.kids.length : Int)))) := hs0
      clear hs0
      go_cut [12] (fun d wx => d = .bool s0 ∧ Hid (AC w wx T b 32 c1 os o) ∧ Hid (XT wx X (some ⟨b1, off1, none⟩) c5 rl) ∧ Hid (OBx wx A x ka kc) ∧ Hid (OBx wx B y kb kd))
      case first =>
        have za0 := HB12.out.c0
        have za2 := HB12.out.c2
        have za3 := HB12.out.c3
        have zb0 := HC12.out.c0
        have zb2 := HC12.out.c2
        have zb3 := HC12.out.c3
        rcases t0 : (x.kind == y.kind) with _ | _
        · rw [t0] at HS0
          go_wp2_with fail
          go_meet
          exact ⟨by rw [HS0.out]; simp, HA12, HX12, HB12, HC12⟩
        · rw [t0] at HS0
          rcases t1 : (x.text.toList == y.text.toList) with _ | _
          · have HT : Hid (sEq x.text y.text = false) := t1
            go_wp2_with fail
            go_meet
            exact ⟨by rw [HS0.out, HT.out]; simp, HA12, HX12, HB12, HC12⟩
          · have HT : Hid (sEq x.text y.text = true) := t1
            go_wp2_with fail
            go_meet
            exact ⟨by rw [HS0.out, HT.out]; simp, HA12, HX12, HB12, HC12⟩
      obtain ⟨rfl, HA13, HX13, HB13, HC13⟩ := hcut
      obtain ⟨W13, rfl⟩ : ∃ W13, W13 = wc := ⟨_, rfl⟩
      clear HA12 HX12 HB12 HC12
      obtain ⟨la, hla⟩ : ∃ la, la = x.kids.length := ⟨_, rfl⟩
      have HLA : Hid (la = x.kids.length) := hla
      clear hla
      go_wp2_with fail
      go_loopg [12, 13] la (fun g sv jv wr => ∃ (j : Nat) (s : Bool), j ≤ la ∧ Hid (g = la - j) ∧ jv = .int .i64 j ∧ sv = .bool s ∧ Hid (s = true → s0 = true ∧ ∀ q, q < j → ∀ e f, x.kids[q]? = some e → y.kids[q]? = some f → eEq e f = true) ∧ Hid (s = false → s0 = false ∨ x.kids ≠ y.kids) ∧ Hid (AC w wr T b 32 c1 os o) ∧ Hid (XT wr X (some ⟨b1, off1, none⟩) c5 rl) ∧ Hid (OBx wr A x ka kc) ∧ Hid (OBx wr B y kb kd))
      case atStart => exact ⟨0, s0, Nat.zero_le _, rfl, rfl, rfl, fun h => ⟨h, fun q hq => by omega⟩, fun h => .inl h, HA13, HX13, HB13, HC13⟩
      case round =>
        obtain ⟨j, s, hj, hgj, rfl, rfl, HY, HN, HAj, HXj, HBj, HCj⟩ := hrel
        have za3 := HBj.out.c3
        rw [← HLA.out] at za3
        cases s
        · have HNE : Hid (y.ver = x.ver + 1) := turn_no HTP.out HS0.out (HN.out rfl)
          by_cases hlj : j < la
          · have hljI : (j : Int) < (la : Int) := by omega
            have zc1 := HBj.out.c1
            have zd1 := HCj.out.c1
            have zo := HAj.out.k0
            have tv : (y.ver != wrap64 (x.ver + 1)) = false := by rw [wrap_ver HXV.out.1 HXV.out.2]; simpa using HNE.out
            go_wp2_with fail
            go_roundg (32 - (i + 1))
            case measure => have := hg.out; omega
            case rel => exact ⟨i + 1, by omega, rfl, by go_num, HAj, HXj⟩
          · have hljI : ¬ (j : Int) < (la : Int) := by omega
            have zc1 := HBj.out.c1
            have zd1 := HCj.out.c1
            have zo := HAj.out.k0
            have tv : (y.ver != wrap64 (x.ver + 1)) = false := by rw [wrap_ver HXV.out.1 HXV.out.2]; simpa using HNE.out
            go_wp2_with fail
            go_roundg (32 - (i + 1))
            case measure => have := hg.out; omega
            case rel => exact ⟨i + 1, by omega, rfl, by go_num, HAj, HXj⟩
        · by_cases hlj : j < la
          · have hljI : (j : Int) < (la : Int) := by omega
            have HY1 := Hid.mk' (HY.out rfl)
            have HLJ : Hid (j < la) := hlj
            have HLB : Hid (la ≤ 9223372036854775807) := by have h := HBj.out.es.bd; have h2 := HLA.out; unfold maxLen at h; show _ ≤ _; omega
            have hll := s0_len HY1.out.1 HS0.out
            have hla2 := HLA.out
            obtain ⟨p1, f1, ha1, -, -, hc1⟩ := HBj.out.es.at_ (by omega)
            obtain ⟨p2, f2, ha2, -, -, hc2⟩ := HCj.out.es.at_ (by omega)
            subst ha1 ha2
            obtain ⟨e, he, -, ec0, ec1⟩ := hc1 j (by omega)
            obtain ⟨f, hf, -, fc0, fc1⟩ := hc2 j (by omega)
            have HE : Hid (x.kids[j]? = some e ∧ y.kids[j]? = some f) := ⟨he, hf⟩
            have zb3 := HCj.out.c3
            rw [← hll, ← hla2] at zb3
            clear hc1 hc2 he hf hll hla2
            rcases t1 : (e.name.toList == f.name.toList) with _ | _
            · have HN2 : Hid (eEq e f = false) := by show _ = _; unfold eEq sEq; rw [t1, Bool.false_and]
              go_wp2_with fail
              go_quiet (fail)
              have hbq : Below wr.heap.size wr (wr.drewN nq) := Below.drewN _ _
              go_wp2_with fail
              go_roundg (la - (j + 1))
              case measure => have := hgj.out; have := HLJ.out; omega
              case rel =>
                exact ⟨j + 1, false, by have := HLJ.out; omega, rfl, wrap_nat (by have := HLB.out; have := HLJ.out; omega), rfl, (fun h => by cases h), (fun _ => .inr (kids_ne HE.out.1 HE.out.2 HN2.out)), Hid.mk' (HAj.out.next hbq), Hid.mk' (HXj.out.next hbq), Hid.mk' (HBj.out.next hbq), Hid.mk' (HCj.out.next hbq)⟩
            · rcases t2 : (e.id == f.id) with _ | _
              · have HN2 : Hid (eEq e f = false) := by show _ = _; unfold eEq; rw [t2, Bool.and_false]
                go_wp2_with fail
                go_quiet (fail)
                have hbq : Below wr.heap.size wr (wr.drewN nq) := Below.drewN _ _
                go_wp2_with fail
                go_roundg (la - (j + 1))
                case measure => have := hgj.out; have := HLJ.out; omega
                case rel =>
                  exact ⟨j + 1, false, by have := HLJ.out; omega, rfl, wrap_nat (by have := HLB.out; have := HLJ.out; omega), rfl, (fun h => by cases h), (fun _ => .inr (kids_ne HE.out.1 HE.out.2 HN2.out)), Hid.mk' (HAj.out.next hbq), Hid.mk' (HXj.out.next hbq), Hid.mk' (HBj.out.next hbq), Hid.mk' (HCj.out.next hbq)⟩
              · have HY2 : Hid (eEq e f = true) := by show _ = _; unfold eEq sEq; rw [t1, t2]; rfl
                go_wp2_with fail
                go_quiet (fail)
                have hbq : Below wr.heap.size wr (wr.drewN nq) := Below.drewN _ _
                go_wp2_with fail
                go_roundg (la - (j + 1))
                case measure => have := hgj.out; have := HLJ.out; omega
                case rel =>
                  refine ⟨j + 1, true, by have := HLJ.out; omega, rfl, wrap_nat (by have := HLB.out; have := HLJ.out; omega), rfl, fun _ => ⟨HY1.out.1, fun q hq e1 f1 he1 hf1 => ?_⟩, (fun h => by cases h), Hid.mk' (HAj.out.next hbq), Hid.mk' (HXj.out.next hbq), Hid.mk' (HBj.out.next hbq), Hid.mk' (HCj.out.next hbq)⟩
                  by_cases e2 : q = j
                  · subst e2
                    rw [HE.out.1] at he1; rw [HE.out.2] at hf1; cases he1; cases hf1
                    exact HY2.out
                  · exact HY1.out.2 q (by omega) e1 f1 he1 hf1
          · have hljI : ¬ (j : Int) < (la : Int) := by omega
            have HEQ : Hid ((o.kind = 5 ∨ y.kind ≠ x.kind ∨ y.kids ≠ x.kids) → o.kind = 5) := turn_yes (HY.out rfl).1 HS0.out (fun q e f he hf => (HY.out rfl).2 q (by have := (List.getElem?_eq_some_iff.1 he).1; have := HLA.out; omega) e f he hf)
            have zc1 := HBj.out.c1
            have zd1 := HCj.out.c1
            have zo := HAj.out.k0
            rcases HTP.out with hyx | ⟨hv, -, h5⟩
            · have tv : (y.ver != x.ver) = false := by rw [hyx]; simp
              clear hyx
              go_wp2_with fail
              go_roundg (32 - (i + 1))
              case measure => have := hg.out; omega
              case rel => exact ⟨i + 1, by omega, rfl, by go_num, HAj, HXj⟩
            · have h5 : o.kind = 5 := HEQ.out h5
              have t5 : (o.kind != 5) = false := by simp [h5]
              have tv : (y.ver != x.ver) = true := by simp; omega
              clear h5 hv
              go_wp2_with fail
              go_roundg (32 - (i + 1))
              case measure => have := hg.out; omega
              case rel => exact ⟨i + 1, by omega, rfl, by go_num, HAj, HXj⟩
    · have hltI : ¬ (i : Int) < 32 := by omega
      go_wp2_with fail
      go_ret
      exact ⟨rfl, HAr.out.below⟩
end Go.Proofs.YtnolbfijcnldjaaGreatDoor
