/- At every code the call of laws.FnActFresh returns true. -/
import Derived.Test.YtnolbfijcnldjaaGreatDoorU35
import Derived.Test.YtnolbfijcnldjaaGreatDoorU31
import Derived.RowKitTokens
namespace Go.Proofs.YtnolbfijcnldjaaGreatDoor
open Go.RowKit

theorem fresh_sz (k id : Int) : OpSz ⟨k, 0, zz, 0, ⟨#[]⟩, id, ⟨#[]⟩⟩ := ⟨by show (4 : Nat) ≤ _; decide, by show (0 : Nat) ≤ _; decide, by show (0 : Nat) ≤ _; decide⟩

set_option maxHeartbeats 16000000 in
set_option maxRecDepth 20000 in
theorem walkActFresh (sa : Nat → Addr) (U0 : Nat) (a : Option Addr) (n c : Nat) (zs : List Int) (w : World) (hU0 : U0 ≤ w.heap.size) (HS : Sents w U0 sa) (hc : n ≤ c) (hcb : n ≤ maxLen) (H : BytesAt w w.heap.size a n zs) :
    Calls Tryz.prog 7 #[.slice a n c] w fun e w' => e = .returned (.bool true) ∧ Below w.heap.size w w' := by
  unfold maxLen at hcb
  by_cases hn : 1048576 < n
  · have hnI : (1048576 : Int) < (n : Int) := by omega
    go_enter Tryz.func7, Tryz.ntmps7
    go_wp2_with fail
    go_ret
    exact ⟨rfl, Below.refl _ _⟩
  have hnI : ¬ (1048576 : Int) < (n : Int) := by omega
  go_enter Tryz.func7, Tryz.ntmps7
  go_wp2_with fail
  refine (drawFresh a n c zs w (by omega) hc H).mono ?_
  rintro e w1 ⟨⟨b, k, c1, os, y, rfl, hD⟩, hb1⟩
  clear hnI hn H
  have hkl := hD.at_.len
  subst hkl
  have hal : Below w1.heap.size w1 (w1.alloc (.cells #[.slice (some ⟨b, 0, none⟩) os.length c1] 25)) := (Below.refl _ _).alloc (Nat.le_refl _) _
  have HX1 : Hid (XT (w1.alloc (.cells #[.slice (some ⟨b, 0, none⟩) os.length c1] 25)) w1.heap.size (some ⟨b, 0, none⟩) c1 os) := ⟨by simp [go_sem], (hD.at_.wide (Nat.zero_le _) (Nat.le_refl _)).below hal (Nat.le_refl _), by simp⟩
  have HB1 : Hid (Below w.heap.size w (w1.alloc (.cells #[.slice (some ⟨b, 0, none⟩) os.length c1] 25))) := hb1.trans (hal.mono hb1.size)
  have hS1 : Sizes os 1048576 := hD.bn.sizes
  have xb := HX1.out.box
  clear hD hb1 hal
  go_wp2_with fail
  generalize w1.alloc (.cells #[.slice (some ⟨b, 0, none⟩) os.length c1] 25) = W1 at *
  generalize w1.heap.size = T at *
  clear xb
  refine (implFresh (some ⟨b, 0, none⟩) os.length c1 os 0 T y W1 (Nat.le_of_lt HX1.out.lt) HX1.out.at_).mono ?_
  rintro e w2 ⟨rfl, hb2⟩
  have HX2 : Hid (XT w2 T (some ⟨b, 0, none⟩) c1 os) := HX1.out.next hb2
  have HB2 : Hid (Below w.heap.size w w2) := HB1.out.trans (hb2.mono HB1.out.size)
  clear HX1 HB1 hb2
  have hSF := fun w hU H => specFresh (some ⟨b, 0, none⟩) os.length c1 os 0 T y w hS1 hU H
  obtain ⟨fr, hfr⟩ : ∃ fr, fr = freshV os y := ⟨_, rfl⟩
  have HFR : Hid (fr = freshV os y) := hfr
  rw [← hfr] at hSF ⊢
  clear hfr
  have xb := HX2.out.box
  go_wp2_with fail
  clear xb
  refine (hSF w2 (Nat.le_of_lt HX2.out.lt) HX2.out.at_).mono ?_
  rintro e w3 ⟨rfl, hb3⟩
  have HX3 : Hid (XT w3 T (some ⟨b, 0, none⟩) c1 os) := HX2.out.next hb3
  have HB3 : Hid (Below w.heap.size w w3) := HB2.out.trans (hb3.mono HB2.out.size)
  have tf : (fr != fr) = false := by simp
  have xb := HX3.out.box
  clear HX2 HB2 hb3 hSF
  go_wp2_with fail
  clear xb tf
  refine (specTreeOk (some ⟨b, 0, none⟩) os.length c1 os 0 T w3 hS1 (Nat.le_of_lt HX3.out.lt) HX3.out.at_).mono ?_
  rintro e w4 ⟨rfl, hb4⟩
  have HX4 : Hid (XT w4 T (some ⟨b, 0, none⟩) c1 os) := HX3.out.next hb4
  have HB4 : Hid (Below w.heap.size w w4) := HB3.out.trans (hb4.mono HB3.out.size)
  clear HX3 HB3 hb4
  rcases hts : specOk os with _ | _
  · obtain rfl : fr = false := by rw [HFR.out]; exact freshV_no hts y
    go_wp2_with fail
    go_ret
    exact ⟨rfl, HB4.out⟩
  have HOK : Hid (specOk os = true) := hts
  have HL : Hid (os.length = 32) := ok_len hts
  clear hts
  obtain ⟨b0, off0, d, ka, kc, hb0, hd, -, d1, -, -, -⟩ := HX4.out.at_.one (i := 0) (by have := HL.out; omega)
  obtain ⟨rfl, rfl⟩ : b = b0 ∧ 0 = off0 := by have h := Option.some.inj hb0; injection h with h1 h2; exact ⟨h1, h2⟩
  simp only [Nat.zero_mul, Nat.zero_add] at d1
  have xb := HX4.out.box
  rw [HL.out] at xb
  clear hb0
  by_cases hv : 999997 < d.ver
  · clear hd
    go_wp2_with fail
    go_ret
    exact ⟨rfl, HB4.out⟩
  have HP : Hid (FreshP os y) := fresh_any HOK.out y hd (by omega)
  have hb5 : Below w4.heap.size w4 (w4.alloc (.cells #[.int .i64 1, .int .i64 0, .string ⟨#[122, 122, 122, 122]⟩, .int .i64 0, .string ⟨#[]⟩, .int .i64 y, .string ⟨#[]⟩] 27)) := (Below.refl _ _).alloc (Nat.le_refl _) _
  have HPB : Hid (PB (w4.alloc (.cells #[.int .i64 1, .int .i64 0, .string ⟨#[122, 122, 122, 122]⟩, .int .i64 0, .string ⟨#[]⟩, .int .i64 y, .string ⟨#[]⟩] 27)) w4.heap.size (newO y)) := by
    unfold newO zz
    exact ⟨by simp [go_sem], by simp [go_sem], by simp [go_sem], by simp [go_sem], by simp [go_sem], by simp [go_sem], by simp [go_sem], by simp⟩
  have HX5 : Hid (XT (w4.alloc (.cells #[.int .i64 1, .int .i64 0, .string ⟨#[122, 122, 122, 122]⟩, .int .i64 0, .string ⟨#[]⟩, .int .i64 y, .string ⟨#[]⟩] 27)) T (some ⟨b, 0, none⟩) c1 os) := HX4.out.next hb5
  have HB5 : Hid (Below w.heap.size w (w4.alloc (.cells #[.int .i64 1, .int .i64 0, .string ⟨#[122, 122, 122, 122]⟩, .int .i64 0, .string ⟨#[]⟩, .int .i64 y, .string ⟨#[]⟩] 27))) := HB4.out.trans (hb5.mono HB4.out.size)
  have xb5 := HX5.out.box
  clear hd HX4 HB4 hb5
  obtain ⟨r1, r2, hr⟩ : ∃ r1 r2, (r1, r2) = actR os (newO y) := ⟨_, _, rfl⟩
  have HR : Hid ((r1, r2) = actR os (newO y)) := hr
  have hI1 := fun w hU HS hV H => implActDo sa U0 0 T b c1 os.length (newO y) os w hU HS hS1 (fresh_sz 1 y) hV H
  rw [← hr] at hI1
  simp only [newO, zz] at hI1
  have hF1 := fun w hU H => implFind (some ⟨b, 0, none⟩) os.length c1 os 0 T 0 zz w (by show (4 : Nat) ≤ _; decide) hS1 hU H
  obtain ⟨fv, hfv⟩ : ∃ fv, fv = treeFindV os 0 zz := ⟨_, rfl⟩
  have HFV : Hid (fv = treeFindV os 0 zz) := hfv
  rw [← hfv] at hF1
  simp only [zz] at hF1
  clear hfv hr
  go_wp2_with fail
  clear hv d1 xb
  generalize w4.alloc (.cells #[.int .i64 1, .int .i64 0, .string ⟨#[122, 122, 122, 122]⟩, .int .i64 0, .string ⟨#[]⟩, .int .i64 y, .string ⟨#[]⟩] 27) = W5 at *
  generalize w4.heap.size = Q at *
  clear xb5
  refine (hI1 W5 (Nat.le_trans hU0 HB5.out.size) (HS.below HB5.out hU0) (Nat.le_of_lt HX5.out.lt) HX5.out.at_).mono ?_
  rintro e w6 hE
  obtain ⟨x6, c6, rfl, hx6, ho6, hb6⟩ := hE.objsX
  dsimp only at *
  have HXB : Hid (r1 ≠ [] → ∃ b, x6 = some ⟨b, 0, none⟩) := hx6
  have hal : Below w6.heap.size w6 (w6.alloc (.cells #[.slice x6 r1.length c6] 25)) := (Below.refl _ _).alloc (Nat.le_refl _) _
  have HT7 : Hid (XT (w6.alloc (.cells #[.slice x6 r1.length c6] 25)) T (some ⟨b, 0, none⟩) c1 os) := (HX5.out.next hb6).next hal
  have HP7 : Hid (PB (w6.alloc (.cells #[.slice x6 r1.length c6] 25)) Q (newO y)) := (HPB.out.next hb6).next hal
  have HX7 : Hid (XT (w6.alloc (.cells #[.slice x6 r1.length c6] 25)) w6.heap.size x6 c6 r1) := ⟨by simp [go_sem], (ho6.wide (Nat.zero_le _) (Nat.le_refl _)).below hal (Nat.le_refl _), by simp⟩
  have HB7 : Hid (Below w.heap.size w (w6.alloc (.cells #[.slice x6 r1.length c6] 25))) := (HB5.out.trans (hb6.mono HB5.out.size)).trans (hal.mono (Nat.le_trans HB5.out.size hb6.size))
  have tb := HT7.out.box
  clear hE hx6 ho6 hb6 hal HX5 HPB HB5 hI1
  by_cases h0 : r2 = 0
  case neg =>
    have t0 : (r2 == 0) = false := beq_eq_false_iff_ne.2 h0
    have t1 : (r2 != 0) = true := by simpa using h0
    have HNO : Hid (¬ (fr = true ∧ fv < 0)) := fun h => h0 (by
      have := HP.out.iff_.2 ⟨by rw [← HFR.out]; exact h.1, by rw [← HFV.out]; exact h.2⟩
      rw [← HR.out] at this; exact this)
    clear h0
    cases fr
    · go_wp2_with fail
      go_ret
      exact ⟨rfl, HB7.out⟩
    · have hnf : ¬ fv < 0 := fun h => HNO.out ⟨rfl, h⟩
      go_wp2_with fail
      refine (hF1 _ (Nat.le_of_lt HT7.out.lt) HT7.out.at_).mono ?_
      rintro e w8 ⟨rfl, hb8⟩
      have HB8 : Hid (Below w.heap.size w w8) := HB7.out.trans (hb8.mono HB7.out.size)
      clear hb8
      go_wp2_with fail
      go_ret
      exact ⟨rfl, HB8.out⟩
  subst h0
  have hz : (actR os (newO y)).2 = 0 := by rw [← HR.out]
  have hiff := HP.out.iff_.1 hz
  rw [← HFR.out, ← HFV.out] at hiff
  obtain ⟨rfl, hneg⟩ := hiff
  have e1 : r1 = (actR os (newO y)).1 := congrArg Prod.fst HR.out
  have HK1 : Hid (specOk r1 = true) := by show _ = _; rw [e1]; exact HP.out.ok1 hz
  have HL1 : Hid (r1.length = 32) := ok_len HK1.out
  obtain ⟨s1, s2, hs⟩ : ∃ s1 s2, (s1, s2) = actR r1 (goneO y) := ⟨_, _, rfl⟩
  have f1 : s1 = (actR r1 (goneO y)).1 := congrArg Prod.fst hs
  obtain rfl : s2 = 0 := by have := HP.out.gone hz; rw [← e1, ← hs] at this; exact this
  have HK2 : Hid (specOk s1 = true) := by show _ = _; rw [f1, e1]; exact HP.out.ok2 hz
  have HL2 : Hid (s1.length = 32) := ok_len HK2.out
  obtain ⟨u1, u2, hu⟩ : ∃ u1 u2, (u1, u2) = actR s1 (newO y) := ⟨_, _, rfl⟩
  obtain rfl : u2 = 7 := by have := HP.out.used hz; rw [← e1, ← f1, ← hu] at this; exact this
  have HN1 : Hid (freshV r1 y = false) := by show _ = _; rw [e1]; exact HP.out.no1 hz
  have HN2 : Hid (freshV s1 y = false) := by show _ = _; rw [f1, e1]; exact HP.out.no2 hz
  obtain ⟨b6, rfl⟩ := HXB.out (list_ne HL1.out)
  have hI2 := fun w hU HS hV H => implActDo sa U0 0 w.heap.size b6 c6 r1.length (goneO y) r1 w hU HS (ok_sizes HK1.out) (fresh_sz 3 y) hV H
  rw [← hs] at hI2
  simp only [goneO, zz] at hI2
  have hI3 := fun b9 c9 w hU HS hV H => implActDo sa U0 0 w.heap.size b9 c9 s1.length (newO y) s1 w hU HS (ok_sizes HK2.out) (fresh_sz 1 y) hV H
  rw [← hu] at hI3
  simp only [newO, zz] at hI3
  clear hs hu e1 f1 hz HXB HR HP HFR HFV
  go_wp2_with fail
  generalize w6.alloc (.cells #[.slice (some ⟨b6, 0, none⟩) r1.length c6] 25) = W7 at *
  generalize w6.heap.size = X at *
  refine (hF1 _ (Nat.le_of_lt HT7.out.lt) HT7.out.at_).mono ?_
  rintro e w8 ⟨rfl, hb8⟩
  have HP8 : Hid (PB w8 Q (newO y)) := HP7.out.next hb8
  have HX8 : Hid (XT w8 X (some ⟨b6, 0, none⟩) c6 r1) := HX7.out.next hb8
  have HB8 : Hid (Below w.heap.size w w8) := HB7.out.trans (hb8.mono HB7.out.size)
  have xb := HX8.out.box
  clear tb hF1 HP7 HX7 HB7 HT7 hb8
  go_wp2_with fail
  clear xb hneg
  refine (hI2 w8 (Nat.le_trans hU0 HB8.out.size) (HS.below HB8.out hU0) (Nat.le_refl _) (HX8.out.at_.wide (Nat.le_refl _) (Nat.le_of_lt HX8.out.lt))).mono ?_
  rintro e w9 hE
  obtain ⟨x9, c9, rfl, hx9, ho9, hb9⟩ := hE.objsX
  dsimp only at *
  obtain ⟨b9, rfl⟩ := hx9 (list_ne HL2.out)
  have hal : Below w9.heap.size w9 (w9.alloc (.cells #[.slice (some ⟨b9, 0, none⟩) s1.length c9] 25)) := (Below.refl _ _).alloc (Nat.le_refl _) _
  have HX10 : Hid (XT (w9.alloc (.cells #[.slice (some ⟨b9, 0, none⟩) s1.length c9] 25)) X (some ⟨b6, 0, none⟩) c6 r1) := (HX8.out.next hb9).next hal
  have HP10 : Hid (PB (w9.alloc (.cells #[.slice (some ⟨b9, 0, none⟩) s1.length c9] 25)) Q (newO y)) := (HP8.out.next hb9).next hal
  have HY10 : Hid (XT (w9.alloc (.cells #[.slice (some ⟨b9, 0, none⟩) s1.length c9] 25)) w9.heap.size (some ⟨b9, 0, none⟩) c9 s1) := ⟨by simp [go_sem], (ho9.wide (Nat.zero_le _) (Nat.le_refl _)).below hal (Nat.le_refl _), by simp⟩
  have HB10 : Hid (Below w.heap.size w (w9.alloc (.cells #[.slice (some ⟨b9, 0, none⟩) s1.length c9] 25))) := (HB8.out.trans (hb9.mono HB8.out.size)).trans (hal.mono (Nat.le_trans HB8.out.size hb9.size))
  have z0 := HP10.out.k0
  have z1 := HP10.out.k1
  have z2 := HP10.out.k2
  have z3 := HP10.out.k3
  have z4 := HP10.out.k4
  have z5 := HP10.out.k5
  have z6 := HP10.out.k6
  simp only [newO, zz] at z0 z1 z2 z3 z4 z5 z6
  clear hE hx9 ho9 hb9 hal HX8 HP8 HB8 hI2 HP10
  go_wp2_with fail
  generalize w9.alloc (.cells #[.slice (some ⟨b9, 0, none⟩) s1.length c9] 25) = W10 at *
  generalize w9.heap.size = Y at *
  clear z0 z1 z2 z3 z4 z5 z6
  refine (hI3 b9 c9 W10 (Nat.le_trans hU0 HB10.out.size) (HS.below HB10.out hU0) (Nat.le_refl _) (HY10.out.at_.wide (Nat.le_refl _) (Nat.le_of_lt HY10.out.lt))).mono ?_
  rintro e w11 hE
  obtain ⟨x11, c11, rfl, -, hb11⟩ := hE.objs
  dsimp only at *
  have hal : Below w11.heap.size w11 (w11.alloc (.cells #[.slice x11 u1.length c11] 25)) := (Below.refl _ _).alloc (Nat.le_refl _) _
  have HX12 : Hid (XT (w11.alloc (.cells #[.slice x11 u1.length c11] 25)) X (some ⟨b6, 0, none⟩) c6 r1) := (HX10.out.next hb11).next hal
  have HY12 : Hid (XT (w11.alloc (.cells #[.slice x11 u1.length c11] 25)) Y (some ⟨b9, 0, none⟩) c9 s1) := (HY10.out.next hb11).next hal
  have HB12 : Hid (Below w.heap.size w (w11.alloc (.cells #[.slice x11 u1.length c11] 25))) := (HB10.out.trans (hb11.mono HB10.out.size)).trans (hal.mono (Nat.le_trans HB10.out.size hb11.size))
  have xb := HX12.out.box
  clear hE hb11 hal HX10 HY10 HB10 hI3
  go_wp2_with fail
  generalize w11.alloc (.cells #[.slice x11 u1.length c11] 25) = W12 at *
  clear xb
  refine (implFresh (some ⟨b6, 0, none⟩) r1.length c6 r1 0 X y W12 (Nat.le_of_lt HX12.out.lt) HX12.out.at_).mono ?_
  rintro e w13 ⟨rfl, hb13⟩
  rw [HN1.out]
  have HY13 : Hid (XT w13 Y (some ⟨b9, 0, none⟩) c9 s1) := HY12.out.next hb13
  have HB13 : Hid (Below w.heap.size w w13) := HB12.out.trans (hb13.mono HB12.out.size)
  have yb := HY13.out.box
  clear HX12 HY12 HB12 hb13
  go_wp2_with fail
  clear yb
  refine (implFresh (some ⟨b9, 0, none⟩) s1.length c9 s1 0 Y y w13 (Nat.le_of_lt HY13.out.lt) HY13.out.at_).mono ?_
  rintro e w14 ⟨rfl, hb14⟩
  rw [HN2.out]
  have HB14 : Hid (Below w.heap.size w w14) := HB13.out.trans (hb14.mono HB13.out.size)
  go_wp2_with fail
  go_ret
  exact ⟨ret_bool (by simp), HB14.out⟩
end Go.Proofs.YtnolbfijcnldjaaGreatDoor
