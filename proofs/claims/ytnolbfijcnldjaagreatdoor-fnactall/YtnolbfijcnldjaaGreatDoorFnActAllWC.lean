/- At every two codes the call of laws.FnActAll returns true. -/
import Derived.Test.YtnolbfijcnldjaaGreatDoorU15
import Derived.Test.YtnolbfijcnldjaaGreatDoorU22
import Derived.Test.YtnolbfijcnldjaaGreatDoorU23
import Derived.Deep.RegionWith
import Derived.RowKitTokens
namespace Go.Proofs.YtnolbfijcnldjaaGreatDoor
open Go.RowKit

/-- A tree that came out, in its box, wherever it lies. -/
structure XV (W : World) (X : Nat) (x : Option Addr) (c : Nat) (rl : List LObj) : Prop where
  box : W.cell? ⟨X, 0, none⟩ = some (.slice x rl.length c)
  ub : ∃ U, U ≤ W.heap.size ∧ ObjsAt W 0 U x rl.length rl
  lt : X < W.heap.size
theorem XV.next {W W' : World} {X : Nat} {x : Option Addr} {c : Nat} {rl : List LObj} (h : XV W X x c rl) (hb : Below W.heap.size W W') : XV W' X x c rl := by
  obtain ⟨U, hU, hO⟩ := h.ub
  exact ⟨by rw [hb.cell (by simpa using h.lt)]; exact h.box, ⟨U, Nat.le_trans hU hb.size, hO.below hb hU⟩, by have := hb.size; have := h.lt; omega⟩
theorem XV.at_ {W : World} {X : Nat} {x : Option Addr} {c : Nat} {rl : List LObj} (h : XV W X x c rl) : ObjsAt W 0 W.heap.size x rl.length rl := by
  obtain ⟨U, hU, hO⟩ := h.ub
  exact hO.wide (Nat.le_refl _) hU
theorem XT.v {W : World} {X : Nat} {x : Option Addr} {c : Nat} {rl : List LObj} (h : XT W X x c rl) : XV W X x c rl := ⟨h.box, ⟨X, Nat.le_of_lt h.lt, h.at_⟩, h.lt⟩
theorem ObjsAt.butE {w w' : World} {L U q : Nat} {a : Option Addr} {n : Nat} {os : List LObj} (h : ObjsAt w L U a n os) (hb : But q w w') (hU : U ≤ w.heap.size) (hne : q < L ∨ U ≤ q) : ObjsAt w' L U a n os := by
  rcases hne with h1 | h1
  · exact h.but hb h1 hU
  · exact h.below hb.below h1
theorem XV.ofStore {V F : World} {q L U : Nat} {x : Option Addr} {c : Nat} {rl : List LObj} {v : Value} (hF : F = V.setCell ⟨q, 0, none⟩ v) (hc : F.cell? ⟨q, 0, none⟩ = some (.slice x rl.length c)) (ho : ObjsAt V L U x rl.length rl) (hu : U ≤ V.heap.size) (hne : q < L ∨ U ≤ q) (hl : q < V.heap.size) : XV F q x c rl := by
  subst hF
  exact ⟨hc, ⟨U, by simpa using hu, (ho.butE ((But.refl q V).set 0 v) hu hne).wide (Nat.zero_le _) (Nat.le_refl _)⟩, by simpa using hl⟩
theorem Below.ofStore {B q : Nat} {W V F : World} {v : Value} (hb : Below B W V) (hq : B ≤ q) (hF : F = V.setCell ⟨q, 0, none⟩ v) : Below B W F := by
  subst hF
  exact hb.setCell hq v
theorem OpsAt.take_ {w : World} {L U : Nat} {a : Option Addr} {n k : Nat} {ops : List LOp} (H : OpsAt w L U a n ops) (hk : k ≤ n) : OpsAt w L U a k (ops.take k) := by
  refine ⟨by rw [List.length_take]; have := H.len; omega, by have := H.bd; omega, fun h0 => ?_⟩
  obtain ⟨b, off, h1, h2, h3, h4⟩ := H.at_ (by omega)
  refine ⟨b, off, h1, h2, h3, fun i hi => ?_⟩
  obtain ⟨o, h5, h6⟩ := h4 i (by omega)
  exact ⟨o, by rw [List.getElem?_take_of_lt hi]; exact h5, h6⟩
theorem rem_nat (n k : Nat) (hk : k < 9223372036854775807) : ((n : Int) % (wrap64 ((k : Int) + 1))) = ((n % (k + 1) : Nat) : Int) := by
  have : wrap64 ((k : Int) + 1) = ((k + 1 : Nat) : Int) := by unfold wrap64; omega
  rw [this]
  rfl

set_option maxHeartbeats 16000000 in
set_option maxRecDepth 20000 in
theorem walkActAllL (sa : Nat → Addr) (U0 : Nat) (a : Option Addr) (n c : Nat) (zs : List Int) (a' : Option Addr) (n' c' : Nat) (zs' : List Int) (w : World) (hU0 : U0 ≤ w.heap.size) (HS : Sents w U0 sa) (hc : n ≤ c) (hcb : n ≤ maxLen) (H : BytesAt w w.heap.size a n zs) (_ : n' ≤ c') (hcb' : n' ≤ maxLen) (_ : BytesAt w w.heap.size a' n' zs') :
    Calls Tryz.prog 5 #[.slice a n c, .slice a' n' c'] w fun e w' => e = .returned (.bool true) ∧ Below w.heap.size w w' := by
  unfold maxLen at hcb hcb'
  by_cases hn : 1048576 < n
  · have hnI : (1048576 : Int) < (n : Int) := by omega
    go_enter Tryz.func5, Tryz.ntmps5
    go_wp2_with fail
    go_ret
    exact ⟨rfl, Below.refl _ _⟩
  have hnI : ¬ (1048576 : Int) < (n : Int) := by omega
  by_cases hn' : 1048576 < n'
  · have hnI' : (1048576 : Int) < (n' : Int) := by omega
    go_enter Tryz.func5, Tryz.ntmps5
    go_wp2_with fail
    go_ret
    exact ⟨rfl, Below.refl _ _⟩
  have hnI' : ¬ (1048576 : Int) < (n' : Int) := by omega
  go_enter Tryz.func5, Tryz.ntmps5
  go_wp2_with fail
  refine (drawAll a n c zs w (by omega) hc H).mono ?_
  rintro e w1 ⟨⟨b, k, c1, os, la, lc, ops, rfl, hO, -, hBn, hP, hml, hcap, hlay, -⟩, hb1⟩
  have hkl := hO.len
  subst hkl
  clear hnI hn H hnI'
  obtain ⟨m, hm⟩ : ∃ m, m = ops.length := ⟨_, rfl⟩
  have HM : Hid (m = ops.length) := hm
  rw [← hm] at hP hml hcap ⊢
  clear hm
  have hal : Below w1.heap.size w1 (w1.alloc (.cells #[.slice (some ⟨b, 0, none⟩) os.length c1] 25)) := (Below.refl _ _).alloc (Nat.le_refl _) _
  have HT2 : Hid (XT (w1.alloc (.cells #[.slice (some ⟨b, 0, none⟩) os.length c1] 25)) w1.heap.size (some ⟨b, 0, none⟩) c1 os) := ⟨by simp [go_sem], (hO.wide (Nat.zero_le _) (Nat.le_refl _)).below hal (Nat.le_refl _), by simp⟩
  have HP2 : Hid (OpsAt (w1.alloc (.cells #[.slice (some ⟨b, 0, none⟩) os.length c1] 25)) 0 w1.heap.size la m ops) := (hP.below hal (Nat.le_refl _)).wide (Nat.zero_le _) (Nat.le_refl _)
  have HB2 : Hid (Below w.heap.size w (w1.alloc (.cells #[.slice (some ⟨b, 0, none⟩) os.length c1] 25))) := hb1.trans (hal.mono hb1.size)
  have hS1 : Sizes os 1048576 := hBn.sizes
  have hIM := fun w hS0 HS hU H hU2 H2 => implActAll sa U0 (some ⟨b, 0, none⟩) la os.length c1 m lc os ops 0 w1.heap.size 0 w1.heap.size w hS0 HS hS1 hU H hU2 H2
  have hSP := fun w hU H hU2 H2 => specActAll (some ⟨b, 0, none⟩) la os.length c1 m lc os ops 0 w1.heap.size 0 w1.heap.size w hS1 hU H hU2 H2
  have hTK := fun kk w hS0 HS hU H hU2 H2 => implActAll sa U0 (some ⟨b, 0, none⟩) la os.length c1 kk lc os (ops.take kk) 0 w1.heap.size 0 w1.heap.size w hS0 HS hS1 hU H hU2 H2
  obtain ⟨r1, rc, rp, hr⟩ : ∃ r1 rc rp, (r1, rc, rp) = allR os ops := ⟨_, _, _, rfl⟩
  have HR : Hid ((r1, rc, rp) = allR os ops) := hr
  rw [← hr] at hIM hSP
  have xb := HT2.out.box
  clear hO hBn hP hb1 hal hr
  go_wp2_with fail
  generalize w1.alloc (.cells #[.slice (some ⟨b, 0, none⟩) os.length c1] 25) = W2 at *
  generalize w1.heap.size = T at *
  clear xb
  refine (hIM W2 (Nat.le_trans hU0 HB2.out.size) (HS.below HB2.out hU0) (Nat.le_of_lt HT2.out.lt) HT2.out.at_ (Nat.le_of_lt HT2.out.lt) HP2.out).mono ?_
  rintro e w3 hE
  obtain ⟨x3, c3, rfl, ho3, hb3⟩ := hE.objs
  dsimp only at *
  have hal : Below w3.heap.size w3 (w3.alloc (.cells #[.slice x3 r1.length c3] 25)) := (Below.refl _ _).alloc (Nat.le_refl _) _
  have HT4 : Hid (XT (w3.alloc (.cells #[.slice x3 r1.length c3] 25)) T (some ⟨b, 0, none⟩) c1 os) := (HT2.out.next hb3).next hal
  have HP4 : Hid (OpsAt (w3.alloc (.cells #[.slice x3 r1.length c3] 25)) 0 T la m ops) := (HP2.out.below hb3 (Nat.le_of_lt HT2.out.lt)).below hal (by have := HT2.out.lt; have := hb3.size; omega)
  have HX4 : Hid (XT (w3.alloc (.cells #[.slice x3 r1.length c3] 25)) w3.heap.size x3 c3 r1) := ⟨by simp [go_sem], (ho3.wide (Nat.zero_le _) (Nat.le_refl _)).below hal (Nat.le_refl _), by simp⟩
  have HB4 : Hid (Below w.heap.size w (w3.alloc (.cells #[.slice x3 r1.length c3] 25))) := (HB2.out.trans (hb3.mono HB2.out.size)).trans (hal.mono (Nat.le_trans HB2.out.size hb3.size))
  have xb := HT4.out.box
  clear hE ho3 hb3 hal HT2 HP2 HB2 hIM
  go_wp2_with fail
  generalize w3.alloc (.cells #[.slice x3 r1.length c3] 25) = W4 at *
  generalize w3.heap.size = X at *
  clear xb
  refine (hSP W4 (Nat.le_of_lt HT4.out.lt) HT4.out.at_ (Nat.le_of_lt HT4.out.lt) HP4.out).mono ?_
  rintro e w5 hE
  obtain ⟨x5, c5, rfl, ho5, hb5⟩ := hE.objs
  dsimp only at *
  have hal : Below w5.heap.size w5 (w5.alloc (.cells #[.slice x5 r1.length c5] 25)) := (Below.refl _ _).alloc (Nat.le_refl _) _
  have HT6 : Hid (XT (w5.alloc (.cells #[.slice x5 r1.length c5] 25)) T (some ⟨b, 0, none⟩) c1 os) := (HT4.out.next hb5).next hal
  have HP6 : Hid (OpsAt (w5.alloc (.cells #[.slice x5 r1.length c5] 25)) 0 T la m ops) := (HP4.out.below hb5 (Nat.le_of_lt HT4.out.lt)).below hal (by have := HT4.out.lt; have := hb5.size; omega)
  have HX6 : Hid (XT (w5.alloc (.cells #[.slice x5 r1.length c5] 25)) X x3 c3 r1) := (HX4.out.next hb5).next hal
  have HY6 : Hid (XT (w5.alloc (.cells #[.slice x5 r1.length c5] 25)) w5.heap.size x5 c5 r1) := ⟨by simp [go_sem], (ho5.wide (Nat.zero_le _) (Nat.le_refl _)).below hal (Nat.le_refl _), by simp⟩
  have HB6 : Hid (Below w.heap.size w (w5.alloc (.cells #[.slice x5 r1.length c5] 25))) := (HB4.out.trans (hb5.mono HB4.out.size)).trans (hal.mono (Nat.le_trans HB4.out.size hb5.size))
  have xb := HX6.out.box
  have yb := HY6.out.box
  have tq : (rc != rc) = false := by simp
  clear hE ho5 hb5 hal HT4 HP4 HX4 HB4 hSP
  go_wp2_with fail
  generalize w5.alloc (.cells #[.slice x5 r1.length c5] 25) = W6 at *
  generalize w5.heap.size = Y at *
  clear xb yb
  refine (implSame x3 x5 r1.length r1.length c3 c5 r1 r1 0 X 0 Y W6 (Nat.le_of_lt HX6.out.lt) (Nat.le_of_lt HY6.out.lt) HX6.out.at_ HY6.out.at_).mono ?_
  rintro e w7 ⟨rfl, hb7⟩
  rw [same_rfl]
  have HT7 : Hid (XT w7 T (some ⟨b, 0, none⟩) c1 os) := HT6.out.next hb7
  have HP7 : Hid (OpsAt w7 0 T la m ops) := HP6.out.below hb7 (Nat.le_of_lt HT6.out.lt)
  have HX7 : Hid (XT w7 X x3 c3 r1) := HX6.out.next hb7
  have HB7 : Hid (Below w.heap.size w w7) := HB6.out.trans (hb7.mono HB6.out.size)
  clear HT6 HP6 HX6 HB6 HY6 hb7
  by_cases h8 : rc = 8
  · have t8 : (rc == 8) = true := by simpa using h8
    clear h8
    go_wp2_with fail
    go_ret
    exact ⟨rfl, HB7.out⟩
  have t8 : (rc == 8) = false := by simpa using h8
  have H8 : Hid ((allR os ops).2.1 ≠ 8) := by rw [← HR.out]; exact h8
  have HPL : Hid (rp = (allR os ops).2.2) := by show _ = _; rw [← HR.out]
  have HPB : Hid (rp ≤ m) := by
    show _ ≤ _
    have h1 := allR_form H8.out
    have h2 := (allGo_place os ops os 0).2.1
    rw [← allR_go h1.1 h1.2, ← HPL.out, ← HM.out] at h2
    omega
  obtain ⟨kk, hkk⟩ : ∃ kk, kk = n' % (rp + 1) := ⟨_, rfl⟩
  have HK : Hid (kk ≤ rp) := by show _ ≤ _; rw [hkk]; have := Nat.mod_lt n' (show 0 < rp + 1 by omega); omega
  have HSPL : Hid (SplitP os ops kk) := split_any H8.out (by rw [← HPL.out]; exact HK.out)
  obtain ⟨a1, ac, ap, ha⟩ : ∃ a1 ac ap, (a1, ac, ap) = allR os (ops.take kk) := ⟨_, _, _, rfl⟩
  obtain rfl : ac = 0 := by have := HSPL.out.fine; rw [← ha] at this; exact this
  have HJ1 : Hid (∀ Wx, Below w7.heap.size w7 Wx → Calls Tryz.prog 29 #[.agg #[.slice (some ⟨b, 0, none⟩) os.length c1], .slice la kk lc] Wx fun e w' => AllEnd Wx (a1, 0, ap) e w') := fun Wx hb => by
    rw [ha]
    have hTl := HT7.out.lt
    have hsz := hb.size
    exact hTK kk Wx (Nat.le_trans hU0 (Nat.le_trans HB7.out.size hsz)) (HS.below (HB7.out.trans (hb.mono HB7.out.size)) hU0) (by omega) (HT7.out.at_.below hb (by omega)) (by omega) ((HP7.out.take_ (by have := HK.out; have := HPB.out; omega)).below hb (by omega))
  have HRK : Hid (n' % (rp + 1) = kk) := hkk.symm
  have HRP : Hid (rp < 9223372036854775807) := by have := HPB.out; show _ < _; omega
  have hkc : kk ≤ lc := by have := HK.out; have := HPB.out; omega
  clear h8 hkk hTK
  have hz0 : ¬ wrap64 ((rp : Int) + 1) = 0 := by have := HRP.out; unfold wrap64; omega
  go_upto_region 10 with fail
  go_cut [13] (fun s13 wx => s13 = .int .i64 (kk : Nat) ∧ wx = w7)
  case first =>
    go_wp2_with fail
    go_meet
    exact ⟨by rw [rem_nat _ _ HRP.out, HRK.out], rfl⟩
  obtain ⟨rfl, hwc⟩ := hcut
  obtain ⟨W0, hW0⟩ : ∃ W0, W0 = wc := ⟨_, rfl⟩
  rw [← hW0] at hwc ⊢
  clear hW0
  subst hwc
  have hqlt : Hid (T < W0.heap.size) := HT7.out.lt
  have s4 : Hid (W0.cell? ⟨T, 0, none⟩ = some (.slice (some ⟨b, 0, none⟩) os.length c1)) := HT7.out.box
  have hBt : Below W0.heap.size W0 W0.drew := (Below.refl _ _).drew
  have s4d : W0.drew.cell? ⟨T, 0, none⟩ = some (.slice (some ⟨b, 0, none⟩) os.length c1) := by rw [hBt.cell hqlt.out]; exact s4.out
  have hkI : (kk : Int) ≤ (lc : Int) := by omega
  clear hz0
  go_upto_region 11 with fail
  go_cut [14, 15, 16] (fun s14 s15 s16 wx => ∃ q x c, s14 = .pointer (some ⟨q, 0, none⟩) ∧ s15 = .int .i64 0 ∧ s16 = .int .i64 (ap : Nat) ∧ Hid (XV wx q x c a1) ∧ Below W0.heap.size W0 wx)
  case first =>
    clear HT7 HP7 HX7 HB7 HK HPB HSPL HPL H8 HRK HRP HR HM HS hS1 hU0 t8 tq ha hkc hml hcap hc hcb hcb' hn' hlay
    refine wp_region_held_drew (S := (fun W => W.cell? ⟨T, 0, none⟩ = some (.slice (some ⟨b, 0, none⟩) os.length c1))) (by kernel_rfl) ?_ (fun hHeld => ?_)
    · exact s4d
    refine listH (l2 := #[false, false, false, false, false, false, false, false, false, false, false, false, false]) (by kernel_rfl) ?_
    refine takeH (i := 0) (oi := _) (v := ?vk1) 69 #[true, false, false, false, false, false, false, false, false, false, false, false, false] rfl (by kernel_rfl) (by kernel_rfl) (by kernel_rfl) rfl (by kernel_rfl) (fun _ _ _ h => h) (Or.inl ⟨by rfl, ?yk1⟩) (by assumption) ?rk1
    case yk1 => (intro w' hSw; go_simp; try with_reducible rfl)
    simp only [Act.put, List.setIfInBounds_toArray, List.set_cons_succ, List.set_cons_zero]
    refine takeH (i := 1) (oi := _) (v := ?vk2) 70 #[true, true, false, false, false, false, false, false, false, false, false, false, false] rfl (by kernel_rfl) (by kernel_rfl) (by kernel_rfl) rfl (by kernel_rfl) (fun _ _ _ h => h) (Or.inl ⟨by rfl, ?yk2⟩) (by assumption) ?rk2
    case yk2 => (intro w' hSw; go_simp; try with_reducible rfl)
    simp only [Act.put, List.setIfInBounds_toArray, List.set_cons_succ, List.set_cons_zero]
    refine takeH (i := 2) (oi := _) (v := ?vk3) 71 #[true, true, true, false, false, false, false, false, false, false, false, false, false] rfl (by kernel_rfl) (by kernel_rfl) (by kernel_rfl) rfl (by kernel_rfl) (fun _ _ _ h => h) (Or.inl ⟨by rfl, ?yk3⟩) (by assumption) ?rk3
    case yk3 => (intro w' hSw; go_simp; try with_reducible rfl)
    simp only [Act.put, List.setIfInBounds_toArray, List.set_cons_succ, List.set_cons_zero]
    refine takeH (i := 3) (oi := _) (v := (.slice la kk lc)) 72 #[true, true, true, true, false, false, false, false, false, false, false, false, false] rfl (by kernel_rfl) (by kernel_rfl) (by kernel_rfl) rfl (by kernel_rfl) (fun _ _ _ h => h) (Or.inl ⟨by rfl, ?yk4⟩) (by assumption) ?rk4
    case yk4 => (intro w' hSw; go_simp; try simp)
    simp only [Act.put, List.setIfInBounds_toArray, List.set_cons_succ, List.set_cons_zero]
    refine wpAnyH_ready (rs := [4, 9]) (by kernel_rfl) (by simp) ?_
    refine AllReadyH.cons (o := _) rfl (fun K hK => ?_) (AllReadyH.cons (o := _) rfl (fun K hK => ?_) AllReadyH.nil)
    · go_simp
      refine (HJ1.out _ hBt).mono ?_
      rintro e V5 hE
      obtain ⟨x5, c5, rfl, ho5, hb5⟩ := hE.objs
      clear hE
      have hBt := hBt.trans (hb5.mono hBt.size)
      have hu5 : V5.heap.size ≤ V5.heap.size := Nat.le_refl _
      clear hb5
      dsimp only at ho5 ⊢
      go_wp2_with fail
      refine hK.out _ _ (by rw [hBt.cell hqlt.out]; exact s4.out) (fun hHeld => ?_)
      clear hK K
      try simp only [Act.put]
      refine listH (l2 := #[true, true, true, true, true, false, false, false, false, false, false, false, false]) (by kernel_rfl) ?_
      refine takeH (i := 5) (oi := _) (v := ?vk5) 68 #[true, true, true, true, true, true, false, false, false, false, false, false, false] rfl (by kernel_rfl) (by kernel_rfl) (by kernel_rfl) rfl (by kernel_rfl) (fun _ _ _ h => h) (Or.inl ⟨by rfl, ?yk5⟩) (by assumption) ?rk5
      case yk5 => (intro w' hSw; go_simp; try with_reducible rfl)
      simp only [Act.put, List.setIfInBounds_toArray, List.set_cons_succ, List.set_cons_zero]
      refine takeH (i := 6) (oi := _) (v := ?vk6) 74 #[true, true, true, true, true, true, true, false, false, false, false, false, false] rfl (by kernel_rfl) (by kernel_rfl) (by kernel_rfl) rfl (by kernel_rfl) (fun _ _ _ h => h) (Or.inl ⟨by rfl, ?yk6⟩) (by assumption) ?rk6
      case yk6 => (intro w' hSw; go_simp; try with_reducible rfl)
      simp only [Act.put, List.setIfInBounds_toArray, List.set_cons_succ, List.set_cons_zero]
      refine takeH (i := 7) (oi := _) (v := ?vk7) 75 #[true, true, true, true, true, true, true, true, false, false, false, false, false] rfl (by kernel_rfl) (by kernel_rfl) (by kernel_rfl) rfl (by kernel_rfl) (fun _ _ _ h => h) (Or.inl ⟨by rfl, ?yk7⟩) (by assumption) ?rk7
      case yk7 => (intro w' hSw; go_simp; try with_reducible rfl)
      simp only [Act.put, List.setIfInBounds_toArray, List.set_cons_succ, List.set_cons_zero]
      refine takeH (i := 8) (oi := _) (v := ?vk8) 76 #[true, true, true, true, true, true, true, true, true, false, false, false, false] rfl (by kernel_rfl) (by kernel_rfl) (by kernel_rfl) rfl (by kernel_rfl) (fun _ _ _ h => h) (Or.inl ⟨by rfl, ?yk8⟩) (by assumption) ?rk8
      case yk8 => (intro w' hSw; go_simp; try with_reducible rfl)
      simp only [Act.put, List.setIfInBounds_toArray, List.set_cons_succ, List.set_cons_zero]
      refine wpAnyH_ready (rs := [9]) (by kernel_rfl) (by simp) ?_
      refine AllReadyH.cons (o := _) rfl (fun K hK => ?_) AllReadyH.nil
      refine st_alloc53 _ 14 ?_
      intro q14 V9 hq9 hb9 R9
      have lo9 : W0.heap.size ≤ q14 := by have := hBt.size; rw [hq9]; exact this
      have hBt := hBt.trans (hb9.mono hBt.size)
      have ho5 := ho5.below hb9 (Nat.le_refl _)
      have hneR : V5.heap.size ≤ q14 := Nat.le_of_eq hq9.symm
      have hu5 := hb9.size
      clear hq9 hb9
      refine hK.out _ _ (by rw [hBt.cell hqlt.out]; exact s4.out) (fun hHeld => ?_)
      clear hK K
      simp only [Act.put, List.setIfInBounds_toArray, List.set_cons_succ, List.set_cons_zero]
      refine listH (l2 := #[true, true, true, true, true, true, true, true, true, true, false, false, false]) (by kernel_rfl) ?_
      refine wpAnyH_ready (rs := [10]) (by kernel_rfl) (by simp) ?_
      refine AllReadyH.cons (o := _) rfl (fun K hK => ?_) AllReadyH.nil
      refine st_store53 _ 14 74 q14 (.slice x5 a1.length c5) _ rfl x5 a1.length c5 rfl rfl R9 ?_
      intro F _ hF hc5
      have HV : Hid (XV F q14 x5 c5 a1) := XV.ofStore hF hc5 ho5 hu5 (by first | exact .inl hneL | exact .inr hneR) R9.lt
      have hBt := Below.ofStore hBt lo9 hF
      clear hF hc5 ho5 hu5 R9
      refine hK.out _ _ (by rw [hBt.cell hqlt.out]; exact s4.out) (fun hHeld => ?_)
      clear hK K
      refine listH (l2 := #[true, true, true, true, true, true, true, true, true, true, true, false, false]) (by kernel_rfl) ?_
      refine wpAnyH_ready (rs := [11]) (by kernel_rfl) (by simp) ?_
      refine AllReadyH.cons (o := _) rfl (fun K hK => ?_) AllReadyH.nil
      go_simp
      refine hK.out _ _ hHeld (fun hHeld => ?_)
      clear hK K
      try simp only [Act.put]
      refine listH (l2 := #[true, true, true, true, true, true, true, true, true, true, true, true, false]) (by kernel_rfl) ?_
      refine wpAnyH_ready (rs := [12]) (by kernel_rfl) (by simp) ?_
      refine AllReadyH.cons (o := _) rfl (fun K hK => ?_) AllReadyH.nil
      go_simp
      refine hK.out _ _ hHeld (fun hHeld => ?_)
      clear hK K
      try simp only [Act.put]
      refine wpAnyH_done (by kernel_rfl) ?_ _
      go_wp2_with fail
      go_meet
      exact ⟨q14, x5, c5, rfl, rfl, rfl, HV, hBt⟩
    · refine st_alloc53 _ 14 ?_
      intro q14 V9 hq9 hb9 R9
      have lo9 : W0.heap.size ≤ q14 := by have := hBt.size; rw [hq9]; exact this
      have hBt := hBt.trans (hb9.mono hBt.size)
      clear hq9 hb9
      refine hK.out _ _ (by rw [hBt.cell hqlt.out]; exact s4.out) (fun hHeld => ?_)
      clear hK K
      simp only [Act.put, List.setIfInBounds_toArray, List.set_cons_succ, List.set_cons_zero]
      refine listH (l2 := #[true, true, true, true, false, false, false, false, false, true, false, false, false]) (by kernel_rfl) ?_
      refine wpAnyH_ready (rs := [4]) (by kernel_rfl) (by simp) ?_
      refine AllReadyH.cons (o := _) rfl (fun K hK => ?_) AllReadyH.nil
      go_simp
      refine (HJ1.out _ hBt).mono ?_
      rintro e V5 hE
      obtain ⟨x5, c5, rfl, ho5, hb5⟩ := hE.objs
      clear hE
      have hBt := hBt.trans (hb5.mono hBt.size)
      have hneL := R9.lt
      have R9 := R9.of_block (hb5.block _ R9.lt)
      have hu5 : V5.heap.size ≤ V5.heap.size := Nat.le_refl _
      clear hb5
      dsimp only at ho5 ⊢
      go_wp2_with fail
      refine hK.out _ _ (by rw [hBt.cell hqlt.out]; exact s4.out) (fun hHeld => ?_)
      clear hK K
      try simp only [Act.put]
      refine listH (l2 := #[true, true, true, true, true, false, false, false, false, true, false, false, false]) (by kernel_rfl) ?_
      refine takeH (i := 5) (oi := _) (v := ?vk9) 68 #[true, true, true, true, true, true, false, false, false, true, false, false, false] rfl (by kernel_rfl) (by kernel_rfl) (by kernel_rfl) rfl (by kernel_rfl) (fun _ _ _ h => h) (Or.inl ⟨by rfl, ?yk9⟩) (by assumption) ?rk9
      case yk9 => (intro w' hSw; go_simp; try with_reducible rfl)
      simp only [Act.put, List.setIfInBounds_toArray, List.set_cons_succ, List.set_cons_zero]
      refine takeH (i := 6) (oi := _) (v := ?vk10) 74 #[true, true, true, true, true, true, true, false, false, true, false, false, false] rfl (by kernel_rfl) (by kernel_rfl) (by kernel_rfl) rfl (by kernel_rfl) (fun _ _ _ h => h) (Or.inl ⟨by rfl, ?yk10⟩) (by assumption) ?rk10
      case yk10 => (intro w' hSw; go_simp; try with_reducible rfl)
      simp only [Act.put, List.setIfInBounds_toArray, List.set_cons_succ, List.set_cons_zero]
      refine takeH (i := 7) (oi := _) (v := ?vk11) 75 #[true, true, true, true, true, true, true, true, false, true, false, false, false] rfl (by kernel_rfl) (by kernel_rfl) (by kernel_rfl) rfl (by kernel_rfl) (fun _ _ _ h => h) (Or.inl ⟨by rfl, ?yk11⟩) (by assumption) ?rk11
      case yk11 => (intro w' hSw; go_simp; try with_reducible rfl)
      simp only [Act.put, List.setIfInBounds_toArray, List.set_cons_succ, List.set_cons_zero]
      refine takeH (i := 8) (oi := _) (v := ?vk12) 76 #[true, true, true, true, true, true, true, true, true, true, false, false, false] rfl (by kernel_rfl) (by kernel_rfl) (by kernel_rfl) rfl (by kernel_rfl) (fun _ _ _ h => h) (Or.inl ⟨by rfl, ?yk12⟩) (by assumption) ?rk12
      case yk12 => (intro w' hSw; go_simp; try with_reducible rfl)
      simp only [Act.put, List.setIfInBounds_toArray, List.set_cons_succ, List.set_cons_zero]
      refine wpAnyH_ready (rs := [10]) (by kernel_rfl) (by simp) ?_
      refine AllReadyH.cons (o := _) rfl (fun K hK => ?_) AllReadyH.nil
      refine st_store53 _ 14 74 q14 (.slice x5 a1.length c5) _ rfl x5 a1.length c5 rfl rfl R9 ?_
      intro F _ hF hc5
      have HV : Hid (XV F q14 x5 c5 a1) := XV.ofStore hF hc5 ho5 hu5 (by first | exact .inl hneL | exact .inr hneR) R9.lt
      have hBt := Below.ofStore hBt lo9 hF
      clear hF hc5 ho5 hu5 R9
      refine hK.out _ _ (by rw [hBt.cell hqlt.out]; exact s4.out) (fun hHeld => ?_)
      clear hK K
      refine listH (l2 := #[true, true, true, true, true, true, true, true, true, true, true, false, false]) (by kernel_rfl) ?_
      refine wpAnyH_ready (rs := [11]) (by kernel_rfl) (by simp) ?_
      refine AllReadyH.cons (o := _) rfl (fun K hK => ?_) AllReadyH.nil
      go_simp
      refine hK.out _ _ hHeld (fun hHeld => ?_)
      clear hK K
      try simp only [Act.put]
      refine listH (l2 := #[true, true, true, true, true, true, true, true, true, true, true, true, false]) (by kernel_rfl) ?_
      refine wpAnyH_ready (rs := [12]) (by kernel_rfl) (by simp) ?_
      refine AllReadyH.cons (o := _) rfl (fun K hK => ?_) AllReadyH.nil
      go_simp
      refine hK.out _ _ hHeld (fun hHeld => ?_)
      clear hK K
      try simp only [Act.put]
      refine wpAnyH_done (by kernel_rfl) ?_ _
      go_wp2_with fail
      go_meet
      exact ⟨q14, x5, c5, rfl, rfl, rfl, HV, hBt⟩
  obtain ⟨q14, x14, c14, rfl, rfl, rfl, HA, hB8⟩ := hcut
  obtain ⟨W8, hW8⟩ : ∃ W8, W8 = wc := ⟨_, rfl⟩
  rw [← hW8] at HA hB8 ⊢
  clear hW8 s4 s4d hqlt hBt
  have HT8 : Hid (XT W8 T (some ⟨b, 0, none⟩) c1 os) := HT7.out.next hB8
  have HP8 : Hid (OpsAt W8 0 T la m ops) := HP7.out.below hB8 (Nat.le_of_lt HT7.out.lt)
  have HX8 : Hid (XT W8 X x3 c3 r1) := HX7.out.next hB8
  have HB8 : Hid (Below w.heap.size w W8) := HB7.out.trans (hB8.mono HB7.out.size)
  obtain ⟨b1, bc, bp, hb⟩ : ∃ b1 bc bp, (b1, bc, bp) = allR a1 (ops.drop kk) := ⟨_, _, _, rfl⟩
  have e1 : a1 = (allR os (ops.take kk)).1 := congrArg Prod.fst ha
  have er1 : r1 = (allR os ops).1 := congrArg Prod.fst HR.out
  have erc : rc = (allR os ops).2.1 := congrArg (fun r => r.2.1) HR.out
  have eb1 : b1 = (allR a1 (ops.drop kk)).1 := congrArg Prod.fst hb
  obtain rfl : bc = rc := by have := HSPL.out.code; rw [← e1, ← hb, ← HR.out] at this; exact this
  have HBP : Hid (bp + kk = rp) := by have := HSPL.out.place; rw [← e1, ← hb, ← HR.out] at this; exact this
  have HS1' : Hid (specOk a1 = true ∧ specOk r1 = true) := by have := HSPL.out.ok H8.out; rw [← e1, ← er1] at this; exact ⟨this.2.1, this.2.2⟩
  have HBAD : Hid (bc ≠ 0 → r1 = os ∧ b1 = a1) := fun h => by
    have h1 := HSPL.out.bad1 (by rw [← erc]; exact h)
    have h2 := HSPL.out.bad2 (by rw [← erc]; exact h)
    rw [← er1] at h1
    rw [← e1, ← eb1] at h2
    exact ⟨h1, h2⟩
  have HGOOD : Hid (bc = 0 → b1 = r1 ∧ rp = m) := fun h => by
    have h1 := HSPL.out.good (by rw [← erc]; exact h)
    have h2 := HSPL.out.all (by rw [← erc]; exact h)
    rw [← e1, ← eb1, ← er1] at h1
    exact ⟨h1, by rw [HPL.out, h2, HM.out]⟩
  have hJ2 := fun la2 lc2 (HD8 : OpsAt W8 0 T la2 (m - kk) (ops.drop kk)) (Wx : World) (hbx : Below W8.heap.size W8 Wx) => implActAll sa U0 x14 la2 a1.length c14 (m - kk) lc2 a1 (ops.drop kk) 0 W8.heap.size 0 T Wx (Nat.le_trans hU0 (Nat.le_trans HB8.out.size hbx.size)) (HS.below (HB8.out.trans (hbx.mono HB8.out.size)) hU0) (ok_sizes HS1'.out.1) hbx.size (HA.out.at_.below hbx (Nat.le_refl _)) (by have := HT8.out.lt; have := hbx.size; omega) (HD8.below hbx (by have := HT8.out.lt; omega))
  rw [← hb] at hJ2
  have hqlt : Hid (q14 < W8.heap.size) := HA.out.lt
  have s4 : Hid (W8.cell? ⟨q14, 0, none⟩ = some (.slice x14 a1.length c14)) := HA.out.box
  have hBt : Below W8.heap.size W8 W8.drew := (Below.refl _ _).drew
  have s4d : W8.drew.cell? ⟨q14, 0, none⟩ = some (.slice x14 a1.length c14) := by rw [hBt.cell hqlt.out]; exact s4.out
  have HLAY : Hid ((la = none ∧ lc = 0) ∨ ∃ g, la = some ⟨g, 0, none⟩) := hlay
  have hkm : kk ≤ m := by have := HK.out; have := HPB.out; omega
  clear hlay ha hb e1 er1 erc eb1 HR H8 HPL HSPL HRK HJ1
  go_upto_region 12 with fail
  go_cut [17, 18, 19] (fun s17 s18 s19 wx => ∃ q x c, s17 = .pointer (some ⟨q, 0, none⟩) ∧ s18 = .int .i64 bc ∧ s19 = .int .i64 (bp : Nat) ∧ Hid (XV wx q x c b1) ∧ Below W8.heap.size W8 wx)
  case first =>
    rcases HLAY.out with ⟨rfl, rfl⟩ | ⟨g, rfl⟩
    · obtain rfl : m = 0 := by omega
      obtain rfl : kk = 0 := by omega
      have HJ2 : Hid (∀ Wx, Below W8.heap.size W8 Wx → Calls Tryz.prog 29 #[.agg #[.slice x14 a1.length c14], .slice none 0 0] Wx fun e w' => AllEnd Wx (b1, bc, bp) e w') := fun Wx hbx => hJ2 none 0 (by simpa using HP8.out) Wx hbx
      clear hJ2 hkI hkm hkc hcap
      clear HT8 HP8 HX8 HB8 HA HBP HS1' HBAD HGOOD HT7 HP7 HX7 HB7 HK HPB HRP HM HS hS1 hU0 t8 tq hml hc hcb hcb' hn' hB8 HLAY
      refine wp_region_held_drew (S := (fun W => W.cell? ⟨q14, 0, none⟩ = some (.slice x14 a1.length c14))) (by kernel_rfl) ?_ (fun hHeld => ?_)
      · exact s4d
      refine listH (l2 := #[false, false, false, false, false, false, false, false, false, false, false, false, false]) (by kernel_rfl) ?_
      refine takeH (i := 0) (oi := _) (v := ?vk13) 78 #[true, false, false, false, false, false, false, false, false, false, false, false, false] rfl (by kernel_rfl) (by kernel_rfl) (by kernel_rfl) rfl (by kernel_rfl) (fun _ _ _ h => h) (Or.inl ⟨by rfl, ?yk13⟩) (by assumption) ?rk13
      case yk13 => (intro w' hSw; go_simp; try with_reducible rfl)
      simp only [Act.put, List.setIfInBounds_toArray, List.set_cons_succ, List.set_cons_zero]
      refine takeH (i := 1) (oi := _) (v := ?vk14) 79 #[true, true, false, false, false, false, false, false, false, false, false, false, false] rfl (by kernel_rfl) (by kernel_rfl) (by kernel_rfl) rfl (by kernel_rfl) (fun _ _ _ h => h) (Or.inl ⟨by rfl, ?yk14⟩) (by assumption) ?rk14
      case yk14 => (intro w' hSw; go_simp; try with_reducible rfl)
      simp only [Act.put, List.setIfInBounds_toArray, List.set_cons_succ, List.set_cons_zero]
      refine takeH (i := 2) (oi := _) (v := ?vk15) 80 #[true, true, true, false, false, false, false, false, false, false, false, false, false] rfl (by kernel_rfl) (by kernel_rfl) (by kernel_rfl) rfl (by kernel_rfl) (fun _ _ _ h => h) (Or.inl ⟨by rfl, ?yk15⟩) (by assumption) ?rk15
      case yk15 => (intro w' hSw; go_simp; try with_reducible rfl)
      simp only [Act.put, List.setIfInBounds_toArray, List.set_cons_succ, List.set_cons_zero]
      refine takeH (i := 3) (oi := _) (v := (.slice none 0 0)) 81 #[true, true, true, true, false, false, false, false, false, false, false, false, false] rfl (by kernel_rfl) (by kernel_rfl) (by kernel_rfl) rfl (by kernel_rfl) (fun _ _ _ h => h) (Or.inl ⟨by rfl, ?yk16⟩) (by assumption) ?rk16
      case yk16 => (intro w' hSw; go_simp; try simp)
      simp only [Act.put, List.setIfInBounds_toArray, List.set_cons_succ, List.set_cons_zero]
      refine wpAnyH_ready (rs := [4, 9]) (by kernel_rfl) (by simp) ?_
      refine AllReadyH.cons (o := _) rfl (fun K hK => ?_) (AllReadyH.cons (o := _) rfl (fun K hK => ?_) AllReadyH.nil)
      · go_simp
        refine (HJ2.out _ hBt).mono ?_
        rintro e V5 hE
        obtain ⟨x5, c5, rfl, ho5, hb5⟩ := hE.objs
        clear hE
        have hBt := hBt.trans (hb5.mono hBt.size)
        have hu5 : V5.heap.size ≤ V5.heap.size := Nat.le_refl _
        clear hb5
        dsimp only at ho5 ⊢
        go_wp2_with fail
        refine hK.out _ _ (by rw [hBt.cell hqlt.out]; exact s4.out) (fun hHeld => ?_)
        clear hK K
        try simp only [Act.put]
        refine listH (l2 := #[true, true, true, true, true, false, false, false, false, false, false, false, false]) (by kernel_rfl) ?_
        refine takeH (i := 5) (oi := _) (v := ?vk17) 77 #[true, true, true, true, true, true, false, false, false, false, false, false, false] rfl (by kernel_rfl) (by kernel_rfl) (by kernel_rfl) rfl (by kernel_rfl) (fun _ _ _ h => h) (Or.inl ⟨by rfl, ?yk17⟩) (by assumption) ?rk17
        case yk17 => (intro w' hSw; go_simp; try with_reducible rfl)
        simp only [Act.put, List.setIfInBounds_toArray, List.set_cons_succ, List.set_cons_zero]
        refine takeH (i := 6) (oi := _) (v := ?vk18) 83 #[true, true, true, true, true, true, true, false, false, false, false, false, false] rfl (by kernel_rfl) (by kernel_rfl) (by kernel_rfl) rfl (by kernel_rfl) (fun _ _ _ h => h) (Or.inl ⟨by rfl, ?yk18⟩) (by assumption) ?rk18
        case yk18 => (intro w' hSw; go_simp; try with_reducible rfl)
        simp only [Act.put, List.setIfInBounds_toArray, List.set_cons_succ, List.set_cons_zero]
        refine takeH (i := 7) (oi := _) (v := ?vk19) 84 #[true, true, true, true, true, true, true, true, false, false, false, false, false] rfl (by kernel_rfl) (by kernel_rfl) (by kernel_rfl) rfl (by kernel_rfl) (fun _ _ _ h => h) (Or.inl ⟨by rfl, ?yk19⟩) (by assumption) ?rk19
        case yk19 => (intro w' hSw; go_simp; try with_reducible rfl)
        simp only [Act.put, List.setIfInBounds_toArray, List.set_cons_succ, List.set_cons_zero]
        refine takeH (i := 8) (oi := _) (v := ?vk20) 85 #[true, true, true, true, true, true, true, true, true, false, false, false, false] rfl (by kernel_rfl) (by kernel_rfl) (by kernel_rfl) rfl (by kernel_rfl) (fun _ _ _ h => h) (Or.inl ⟨by rfl, ?yk20⟩) (by assumption) ?rk20
        case yk20 => (intro w' hSw; go_simp; try with_reducible rfl)
        simp only [Act.put, List.setIfInBounds_toArray, List.set_cons_succ, List.set_cons_zero]
        refine wpAnyH_ready (rs := [9]) (by kernel_rfl) (by simp) ?_
        refine AllReadyH.cons (o := _) rfl (fun K hK => ?_) AllReadyH.nil
        refine st_alloc53 _ 17 ?_
        intro q17 V9 hq9 hb9 R9
        have lo9 : W8.heap.size ≤ q17 := by have := hBt.size; rw [hq9]; exact this
        have hBt := hBt.trans (hb9.mono hBt.size)
        have ho5 := ho5.below hb9 (Nat.le_refl _)
        have hneR : V5.heap.size ≤ q17 := Nat.le_of_eq hq9.symm
        have hu5 := hb9.size
        clear hq9 hb9
        refine hK.out _ _ (by rw [hBt.cell hqlt.out]; exact s4.out) (fun hHeld => ?_)
        clear hK K
        simp only [Act.put, List.setIfInBounds_toArray, List.set_cons_succ, List.set_cons_zero]
        refine listH (l2 := #[true, true, true, true, true, true, true, true, true, true, false, false, false]) (by kernel_rfl) ?_
        refine wpAnyH_ready (rs := [10]) (by kernel_rfl) (by simp) ?_
        refine AllReadyH.cons (o := _) rfl (fun K hK => ?_) AllReadyH.nil
        refine st_store53 _ 17 83 q17 (.slice x5 b1.length c5) _ rfl x5 b1.length c5 rfl rfl R9 ?_
        intro F _ hF hc5
        have HV : Hid (XV F q17 x5 c5 b1) := XV.ofStore hF hc5 ho5 hu5 (by first | exact .inl hneL | exact .inr hneR) R9.lt
        have hBt := Below.ofStore hBt lo9 hF
        clear hF hc5 ho5 hu5 R9
        refine hK.out _ _ (by rw [hBt.cell hqlt.out]; exact s4.out) (fun hHeld => ?_)
        clear hK K
        refine listH (l2 := #[true, true, true, true, true, true, true, true, true, true, true, false, false]) (by kernel_rfl) ?_
        refine wpAnyH_ready (rs := [11]) (by kernel_rfl) (by simp) ?_
        refine AllReadyH.cons (o := _) rfl (fun K hK => ?_) AllReadyH.nil
        go_simp
        refine hK.out _ _ hHeld (fun hHeld => ?_)
        clear hK K
        try simp only [Act.put]
        refine listH (l2 := #[true, true, true, true, true, true, true, true, true, true, true, true, false]) (by kernel_rfl) ?_
        refine wpAnyH_ready (rs := [12]) (by kernel_rfl) (by simp) ?_
        refine AllReadyH.cons (o := _) rfl (fun K hK => ?_) AllReadyH.nil
        go_simp
        refine hK.out _ _ hHeld (fun hHeld => ?_)
        clear hK K
        try simp only [Act.put]
        refine wpAnyH_done (by kernel_rfl) ?_ _
        go_wp2_with fail
        go_meet
        exact ⟨q17, x5, c5, rfl, rfl, rfl, HV, hBt⟩
      · refine st_alloc53 _ 17 ?_
        intro q17 V9 hq9 hb9 R9
        have lo9 : W8.heap.size ≤ q17 := by have := hBt.size; rw [hq9]; exact this
        have hBt := hBt.trans (hb9.mono hBt.size)
        clear hq9 hb9
        refine hK.out _ _ (by rw [hBt.cell hqlt.out]; exact s4.out) (fun hHeld => ?_)
        clear hK K
        simp only [Act.put, List.setIfInBounds_toArray, List.set_cons_succ, List.set_cons_zero]
        refine listH (l2 := #[true, true, true, true, false, false, false, false, false, true, false, false, false]) (by kernel_rfl) ?_
        refine wpAnyH_ready (rs := [4]) (by kernel_rfl) (by simp) ?_
        refine AllReadyH.cons (o := _) rfl (fun K hK => ?_) AllReadyH.nil
        go_simp
        refine (HJ2.out _ hBt).mono ?_
        rintro e V5 hE
        obtain ⟨x5, c5, rfl, ho5, hb5⟩ := hE.objs
        clear hE
        have hBt := hBt.trans (hb5.mono hBt.size)
        have hneL := R9.lt
        have R9 := R9.of_block (hb5.block _ R9.lt)
        have hu5 : V5.heap.size ≤ V5.heap.size := Nat.le_refl _
        clear hb5
        dsimp only at ho5 ⊢
        go_wp2_with fail
        refine hK.out _ _ (by rw [hBt.cell hqlt.out]; exact s4.out) (fun hHeld => ?_)
        clear hK K
        try simp only [Act.put]
        refine listH (l2 := #[true, true, true, true, true, false, false, false, false, true, false, false, false]) (by kernel_rfl) ?_
        refine takeH (i := 5) (oi := _) (v := ?vk21) 77 #[true, true, true, true, true, true, false, false, false, true, false, false, false] rfl (by kernel_rfl) (by kernel_rfl) (by kernel_rfl) rfl (by kernel_rfl) (fun _ _ _ h => h) (Or.inl ⟨by rfl, ?yk21⟩) (by assumption) ?rk21
        case yk21 => (intro w' hSw; go_simp; try with_reducible rfl)
        simp only [Act.put, List.setIfInBounds_toArray, List.set_cons_succ, List.set_cons_zero]
        refine takeH (i := 6) (oi := _) (v := ?vk22) 83 #[true, true, true, true, true, true, true, false, false, true, false, false, false] rfl (by kernel_rfl) (by kernel_rfl) (by kernel_rfl) rfl (by kernel_rfl) (fun _ _ _ h => h) (Or.inl ⟨by rfl, ?yk22⟩) (by assumption) ?rk22
        case yk22 => (intro w' hSw; go_simp; try with_reducible rfl)
        simp only [Act.put, List.setIfInBounds_toArray, List.set_cons_succ, List.set_cons_zero]
        refine takeH (i := 7) (oi := _) (v := ?vk23) 84 #[true, true, true, true, true, true, true, true, false, true, false, false, false] rfl (by kernel_rfl) (by kernel_rfl) (by kernel_rfl) rfl (by kernel_rfl) (fun _ _ _ h => h) (Or.inl ⟨by rfl, ?yk23⟩) (by assumption) ?rk23
        case yk23 => (intro w' hSw; go_simp; try with_reducible rfl)
        simp only [Act.put, List.setIfInBounds_toArray, List.set_cons_succ, List.set_cons_zero]
        refine takeH (i := 8) (oi := _) (v := ?vk24) 85 #[true, true, true, true, true, true, true, true, true, true, false, false, false] rfl (by kernel_rfl) (by kernel_rfl) (by kernel_rfl) rfl (by kernel_rfl) (fun _ _ _ h => h) (Or.inl ⟨by rfl, ?yk24⟩) (by assumption) ?rk24
        case yk24 => (intro w' hSw; go_simp; try with_reducible rfl)
        simp only [Act.put, List.setIfInBounds_toArray, List.set_cons_succ, List.set_cons_zero]
        refine wpAnyH_ready (rs := [10]) (by kernel_rfl) (by simp) ?_
        refine AllReadyH.cons (o := _) rfl (fun K hK => ?_) AllReadyH.nil
        refine st_store53 _ 17 83 q17 (.slice x5 b1.length c5) _ rfl x5 b1.length c5 rfl rfl R9 ?_
        intro F _ hF hc5
        have HV : Hid (XV F q17 x5 c5 b1) := XV.ofStore hF hc5 ho5 hu5 (by first | exact .inl hneL | exact .inr hneR) R9.lt
        have hBt := Below.ofStore hBt lo9 hF
        clear hF hc5 ho5 hu5 R9
        refine hK.out _ _ (by rw [hBt.cell hqlt.out]; exact s4.out) (fun hHeld => ?_)
        clear hK K
        refine listH (l2 := #[true, true, true, true, true, true, true, true, true, true, true, false, false]) (by kernel_rfl) ?_
        refine wpAnyH_ready (rs := [11]) (by kernel_rfl) (by simp) ?_
        refine AllReadyH.cons (o := _) rfl (fun K hK => ?_) AllReadyH.nil
        go_simp
        refine hK.out _ _ hHeld (fun hHeld => ?_)
        clear hK K
        try simp only [Act.put]
        refine listH (l2 := #[true, true, true, true, true, true, true, true, true, true, true, true, false]) (by kernel_rfl) ?_
        refine wpAnyH_ready (rs := [12]) (by kernel_rfl) (by simp) ?_
        refine AllReadyH.cons (o := _) rfl (fun K hK => ?_) AllReadyH.nil
        go_simp
        refine hK.out _ _ hHeld (fun hHeld => ?_)
        clear hK K
        try simp only [Act.put]
        refine wpAnyH_done (by kernel_rfl) ?_ _
        go_wp2_with fail
        go_meet
        exact ⟨q17, x5, c5, rfl, rfl, rfl, HV, hBt⟩
    · by_cases hkc2 : kk = lc
      · obtain rfl : m = kk := by omega
        subst hkc2
        have HJ2 : Hid (∀ Wx, Below W8.heap.size W8 Wx → Calls Tryz.prog 29 #[.agg #[.slice x14 a1.length c14], .slice (some ⟨g, 0, none⟩) 0 0] Wx fun e w' => AllEnd Wx (b1, bc, bp) e w') := fun Wx hbx => by
          have h := hJ2 (some ⟨g, 0, none⟩) 0 (by rw [Nat.sub_self, List.drop_of_length_le (by have := HM.out; omega)]; exact OpsAt.none_ _ _ _ _) Wx hbx
          rw [Nat.sub_self] at h
          exact h
        clear hJ2 hkm hkc hcap
        clear HT8 HP8 HX8 HB8 HA HBP HS1' HBAD HGOOD HT7 HP7 HX7 HB7 HK HPB HRP HM HS hS1 hU0 t8 tq hml hc hcb hcb' hn' hB8 HLAY
        refine wp_region_held_drew (S := (fun W => W.cell? ⟨q14, 0, none⟩ = some (.slice x14 a1.length c14))) (by kernel_rfl) ?_ (fun hHeld => ?_)
        · exact s4d
        refine listH (l2 := #[false, false, false, false, false, false, false, false, false, false, false, false, false]) (by kernel_rfl) ?_
        refine takeH (i := 0) (oi := _) (v := ?vk25) 78 #[true, false, false, false, false, false, false, false, false, false, false, false, false] rfl (by kernel_rfl) (by kernel_rfl) (by kernel_rfl) rfl (by kernel_rfl) (fun _ _ _ h => h) (Or.inl ⟨by rfl, ?yk25⟩) (by assumption) ?rk25
        case yk25 => (intro w' hSw; go_simp; try with_reducible rfl)
        simp only [Act.put, List.setIfInBounds_toArray, List.set_cons_succ, List.set_cons_zero]
        refine takeH (i := 1) (oi := _) (v := ?vk26) 79 #[true, true, false, false, false, false, false, false, false, false, false, false, false] rfl (by kernel_rfl) (by kernel_rfl) (by kernel_rfl) rfl (by kernel_rfl) (fun _ _ _ h => h) (Or.inl ⟨by rfl, ?yk26⟩) (by assumption) ?rk26
        case yk26 => (intro w' hSw; go_simp; try with_reducible rfl)
        simp only [Act.put, List.setIfInBounds_toArray, List.set_cons_succ, List.set_cons_zero]
        refine takeH (i := 2) (oi := _) (v := ?vk27) 80 #[true, true, true, false, false, false, false, false, false, false, false, false, false] rfl (by kernel_rfl) (by kernel_rfl) (by kernel_rfl) rfl (by kernel_rfl) (fun _ _ _ h => h) (Or.inl ⟨by rfl, ?yk27⟩) (by assumption) ?rk27
        case yk27 => (intro w' hSw; go_simp; try with_reducible rfl)
        simp only [Act.put, List.setIfInBounds_toArray, List.set_cons_succ, List.set_cons_zero]
        refine takeH (i := 3) (oi := _) (v := (.slice (some ⟨g, 0, none⟩) 0 0)) 81 #[true, true, true, true, false, false, false, false, false, false, false, false, false] rfl (by kernel_rfl) (by kernel_rfl) (by kernel_rfl) rfl (by kernel_rfl) (fun _ _ _ h => h) (Or.inl ⟨by rfl, ?yk28⟩) (by assumption) ?rk28
        case yk28 => (intro w' hSw; go_simp; try simp)
        simp only [Act.put, List.setIfInBounds_toArray, List.set_cons_succ, List.set_cons_zero]
        refine wpAnyH_ready (rs := [4, 9]) (by kernel_rfl) (by simp) ?_
        refine AllReadyH.cons (o := _) rfl (fun K hK => ?_) (AllReadyH.cons (o := _) rfl (fun K hK => ?_) AllReadyH.nil)
        · go_simp
          refine (HJ2.out _ hBt).mono ?_
          rintro e V5 hE
          obtain ⟨x5, c5, rfl, ho5, hb5⟩ := hE.objs
          clear hE
          have hBt := hBt.trans (hb5.mono hBt.size)
          have hu5 : V5.heap.size ≤ V5.heap.size := Nat.le_refl _
          clear hb5
          dsimp only at ho5 ⊢
          go_wp2_with fail
          refine hK.out _ _ (by rw [hBt.cell hqlt.out]; exact s4.out) (fun hHeld => ?_)
          clear hK K
          try simp only [Act.put]
          refine listH (l2 := #[true, true, true, true, true, false, false, false, false, false, false, false, false]) (by kernel_rfl) ?_
          refine takeH (i := 5) (oi := _) (v := ?vk29) 77 #[true, true, true, true, true, true, false, false, false, false, false, false, false] rfl (by kernel_rfl) (by kernel_rfl) (by kernel_rfl) rfl (by kernel_rfl) (fun _ _ _ h => h) (Or.inl ⟨by rfl, ?yk29⟩) (by assumption) ?rk29
          case yk29 => (intro w' hSw; go_simp; try with_reducible rfl)
          simp only [Act.put, List.setIfInBounds_toArray, List.set_cons_succ, List.set_cons_zero]
          refine takeH (i := 6) (oi := _) (v := ?vk30) 83 #[true, true, true, true, true, true, true, false, false, false, false, false, false] rfl (by kernel_rfl) (by kernel_rfl) (by kernel_rfl) rfl (by kernel_rfl) (fun _ _ _ h => h) (Or.inl ⟨by rfl, ?yk30⟩) (by assumption) ?rk30
          case yk30 => (intro w' hSw; go_simp; try with_reducible rfl)
          simp only [Act.put, List.setIfInBounds_toArray, List.set_cons_succ, List.set_cons_zero]
          refine takeH (i := 7) (oi := _) (v := ?vk31) 84 #[true, true, true, true, true, true, true, true, false, false, false, false, false] rfl (by kernel_rfl) (by kernel_rfl) (by kernel_rfl) rfl (by kernel_rfl) (fun _ _ _ h => h) (Or.inl ⟨by rfl, ?yk31⟩) (by assumption) ?rk31
          case yk31 => (intro w' hSw; go_simp; try with_reducible rfl)
          simp only [Act.put, List.setIfInBounds_toArray, List.set_cons_succ, List.set_cons_zero]
          refine takeH (i := 8) (oi := _) (v := ?vk32) 85 #[true, true, true, true, true, true, true, true, true, false, false, false, false] rfl (by kernel_rfl) (by kernel_rfl) (by kernel_rfl) rfl (by kernel_rfl) (fun _ _ _ h => h) (Or.inl ⟨by rfl, ?yk32⟩) (by assumption) ?rk32
          case yk32 => (intro w' hSw; go_simp; try with_reducible rfl)
          simp only [Act.put, List.setIfInBounds_toArray, List.set_cons_succ, List.set_cons_zero]
          refine wpAnyH_ready (rs := [9]) (by kernel_rfl) (by simp) ?_
          refine AllReadyH.cons (o := _) rfl (fun K hK => ?_) AllReadyH.nil
          refine st_alloc53 _ 17 ?_
          intro q17 V9 hq9 hb9 R9
          have lo9 : W8.heap.size ≤ q17 := by have := hBt.size; rw [hq9]; exact this
          have hBt := hBt.trans (hb9.mono hBt.size)
          have ho5 := ho5.below hb9 (Nat.le_refl _)
          have hneR : V5.heap.size ≤ q17 := Nat.le_of_eq hq9.symm
          have hu5 := hb9.size
          clear hq9 hb9
          refine hK.out _ _ (by rw [hBt.cell hqlt.out]; exact s4.out) (fun hHeld => ?_)
          clear hK K
          simp only [Act.put, List.setIfInBounds_toArray, List.set_cons_succ, List.set_cons_zero]
          refine listH (l2 := #[true, true, true, true, true, true, true, true, true, true, false, false, false]) (by kernel_rfl) ?_
          refine wpAnyH_ready (rs := [10]) (by kernel_rfl) (by simp) ?_
          refine AllReadyH.cons (o := _) rfl (fun K hK => ?_) AllReadyH.nil
          refine st_store53 _ 17 83 q17 (.slice x5 b1.length c5) _ rfl x5 b1.length c5 rfl rfl R9 ?_
          intro F _ hF hc5
          have HV : Hid (XV F q17 x5 c5 b1) := XV.ofStore hF hc5 ho5 hu5 (by first | exact .inl hneL | exact .inr hneR) R9.lt
          have hBt := Below.ofStore hBt lo9 hF
          clear hF hc5 ho5 hu5 R9
          refine hK.out _ _ (by rw [hBt.cell hqlt.out]; exact s4.out) (fun hHeld => ?_)
          clear hK K
          refine listH (l2 := #[true, true, true, true, true, true, true, true, true, true, true, false, false]) (by kernel_rfl) ?_
          refine wpAnyH_ready (rs := [11]) (by kernel_rfl) (by simp) ?_
          refine AllReadyH.cons (o := _) rfl (fun K hK => ?_) AllReadyH.nil
          go_simp
          refine hK.out _ _ hHeld (fun hHeld => ?_)
          clear hK K
          try simp only [Act.put]
          refine listH (l2 := #[true, true, true, true, true, true, true, true, true, true, true, true, false]) (by kernel_rfl) ?_
          refine wpAnyH_ready (rs := [12]) (by kernel_rfl) (by simp) ?_
          refine AllReadyH.cons (o := _) rfl (fun K hK => ?_) AllReadyH.nil
          go_simp
          refine hK.out _ _ hHeld (fun hHeld => ?_)
          clear hK K
          try simp only [Act.put]
          refine wpAnyH_done (by kernel_rfl) ?_ _
          go_wp2_with fail
          go_meet
          exact ⟨q17, x5, c5, rfl, rfl, rfl, HV, hBt⟩
        · refine st_alloc53 _ 17 ?_
          intro q17 V9 hq9 hb9 R9
          have lo9 : W8.heap.size ≤ q17 := by have := hBt.size; rw [hq9]; exact this
          have hBt := hBt.trans (hb9.mono hBt.size)
          clear hq9 hb9
          refine hK.out _ _ (by rw [hBt.cell hqlt.out]; exact s4.out) (fun hHeld => ?_)
          clear hK K
          simp only [Act.put, List.setIfInBounds_toArray, List.set_cons_succ, List.set_cons_zero]
          refine listH (l2 := #[true, true, true, true, false, false, false, false, false, true, false, false, false]) (by kernel_rfl) ?_
          refine wpAnyH_ready (rs := [4]) (by kernel_rfl) (by simp) ?_
          refine AllReadyH.cons (o := _) rfl (fun K hK => ?_) AllReadyH.nil
          go_simp
          refine (HJ2.out _ hBt).mono ?_
          rintro e V5 hE
          obtain ⟨x5, c5, rfl, ho5, hb5⟩ := hE.objs
          clear hE
          have hBt := hBt.trans (hb5.mono hBt.size)
          have hneL := R9.lt
          have R9 := R9.of_block (hb5.block _ R9.lt)
          have hu5 : V5.heap.size ≤ V5.heap.size := Nat.le_refl _
          clear hb5
          dsimp only at ho5 ⊢
          go_wp2_with fail
          refine hK.out _ _ (by rw [hBt.cell hqlt.out]; exact s4.out) (fun hHeld => ?_)
          clear hK K
          try simp only [Act.put]
          refine listH (l2 := #[true, true, true, true, true, false, false, false, false, true, false, false, false]) (by kernel_rfl) ?_
          refine takeH (i := 5) (oi := _) (v := ?vk33) 77 #[true, true, true, true, true, true, false, false, false, true, false, false, false] rfl (by kernel_rfl) (by kernel_rfl) (by kernel_rfl) rfl (by kernel_rfl) (fun _ _ _ h => h) (Or.inl ⟨by rfl, ?yk33⟩) (by assumption) ?rk33
          case yk33 => (intro w' hSw; go_simp; try with_reducible rfl)
          simp only [Act.put, List.setIfInBounds_toArray, List.set_cons_succ, List.set_cons_zero]
          refine takeH (i := 6) (oi := _) (v := ?vk34) 83 #[true, true, true, true, true, true, true, false, false, true, false, false, false] rfl (by kernel_rfl) (by kernel_rfl) (by kernel_rfl) rfl (by kernel_rfl) (fun _ _ _ h => h) (Or.inl ⟨by rfl, ?yk34⟩) (by assumption) ?rk34
          case yk34 => (intro w' hSw; go_simp; try with_reducible rfl)
          simp only [Act.put, List.setIfInBounds_toArray, List.set_cons_succ, List.set_cons_zero]
          refine takeH (i := 7) (oi := _) (v := ?vk35) 84 #[true, true, true, true, true, true, true, true, false, true, false, false, false] rfl (by kernel_rfl) (by kernel_rfl) (by kernel_rfl) rfl (by kernel_rfl) (fun _ _ _ h => h) (Or.inl ⟨by rfl, ?yk35⟩) (by assumption) ?rk35
          case yk35 => (intro w' hSw; go_simp; try with_reducible rfl)
          simp only [Act.put, List.setIfInBounds_toArray, List.set_cons_succ, List.set_cons_zero]
          refine takeH (i := 8) (oi := _) (v := ?vk36) 85 #[true, true, true, true, true, true, true, true, true, true, false, false, false] rfl (by kernel_rfl) (by kernel_rfl) (by kernel_rfl) rfl (by kernel_rfl) (fun _ _ _ h => h) (Or.inl ⟨by rfl, ?yk36⟩) (by assumption) ?rk36
          case yk36 => (intro w' hSw; go_simp; try with_reducible rfl)
          simp only [Act.put, List.setIfInBounds_toArray, List.set_cons_succ, List.set_cons_zero]
          refine wpAnyH_ready (rs := [10]) (by kernel_rfl) (by simp) ?_
          refine AllReadyH.cons (o := _) rfl (fun K hK => ?_) AllReadyH.nil
          refine st_store53 _ 17 83 q17 (.slice x5 b1.length c5) _ rfl x5 b1.length c5 rfl rfl R9 ?_
          intro F _ hF hc5
          have HV : Hid (XV F q17 x5 c5 b1) := XV.ofStore hF hc5 ho5 hu5 (by first | exact .inl hneL | exact .inr hneR) R9.lt
          have hBt := Below.ofStore hBt lo9 hF
          clear hF hc5 ho5 hu5 R9
          refine hK.out _ _ (by rw [hBt.cell hqlt.out]; exact s4.out) (fun hHeld => ?_)
          clear hK K
          refine listH (l2 := #[true, true, true, true, true, true, true, true, true, true, true, false, false]) (by kernel_rfl) ?_
          refine wpAnyH_ready (rs := [11]) (by kernel_rfl) (by simp) ?_
          refine AllReadyH.cons (o := _) rfl (fun K hK => ?_) AllReadyH.nil
          go_simp
          refine hK.out _ _ hHeld (fun hHeld => ?_)
          clear hK K
          try simp only [Act.put]
          refine listH (l2 := #[true, true, true, true, true, true, true, true, true, true, true, true, false]) (by kernel_rfl) ?_
          refine wpAnyH_ready (rs := [12]) (by kernel_rfl) (by simp) ?_
          refine AllReadyH.cons (o := _) rfl (fun K hK => ?_) AllReadyH.nil
          go_simp
          refine hK.out _ _ hHeld (fun hHeld => ?_)
          clear hK K
          try simp only [Act.put]
          refine wpAnyH_done (by kernel_rfl) ?_ _
          go_wp2_with fail
          go_meet
          exact ⟨q17, x5, c5, rfl, rfl, rfl, HV, hBt⟩
      · have hkc3 : kk < lc := by omega
        have hkI2 : (kk : Int) < (lc : Int) := by omega
        have hkne : ¬ lc = kk := by omega
        have hmI2 : (kk : Int) ≤ (m : Int) := by omega
        have HJ2 : Hid (∀ Wx, Below W8.heap.size W8 Wx → Calls Tryz.prog 29 #[.agg #[.slice x14 a1.length c14], .slice (some ⟨g, kk * 7, none⟩) (m - kk) (lc - kk)] Wx fun e w' => AllEnd Wx (b1, bc, bp) e w') := fun Wx hbx => hJ2 (some ⟨g, kk * 7, none⟩) (lc - kk) (by have h := HP8.out.drop_ hkm; rw [Nat.zero_add] at h; exact h) Wx hbx
        clear hJ2 hkm hkc hcap hkI hkc2
        clear HT8 HP8 HX8 HB8 HA HBP HS1' HBAD HGOOD HT7 HP7 HX7 HB7 HK HPB HRP HM HS hS1 hU0 t8 tq hml hc hcb hcb' hn' hB8 HLAY
        refine wp_region_held_drew (S := (fun W => W.cell? ⟨q14, 0, none⟩ = some (.slice x14 a1.length c14))) (by kernel_rfl) ?_ (fun hHeld => ?_)
        · exact s4d
        refine listH (l2 := #[false, false, false, false, false, false, false, false, false, false, false, false, false]) (by kernel_rfl) ?_
        refine takeH (i := 0) (oi := _) (v := ?vk37) 78 #[true, false, false, false, false, false, false, false, false, false, false, false, false] rfl (by kernel_rfl) (by kernel_rfl) (by kernel_rfl) rfl (by kernel_rfl) (fun _ _ _ h => h) (Or.inl ⟨by rfl, ?yk37⟩) (by assumption) ?rk37
        case yk37 => (intro w' hSw; go_simp; try with_reducible rfl)
        simp only [Act.put, List.setIfInBounds_toArray, List.set_cons_succ, List.set_cons_zero]
        refine takeH (i := 1) (oi := _) (v := ?vk38) 79 #[true, true, false, false, false, false, false, false, false, false, false, false, false] rfl (by kernel_rfl) (by kernel_rfl) (by kernel_rfl) rfl (by kernel_rfl) (fun _ _ _ h => h) (Or.inl ⟨by rfl, ?yk38⟩) (by assumption) ?rk38
        case yk38 => (intro w' hSw; go_simp; try with_reducible rfl)
        simp only [Act.put, List.setIfInBounds_toArray, List.set_cons_succ, List.set_cons_zero]
        refine takeH (i := 2) (oi := _) (v := ?vk39) 80 #[true, true, true, false, false, false, false, false, false, false, false, false, false] rfl (by kernel_rfl) (by kernel_rfl) (by kernel_rfl) rfl (by kernel_rfl) (fun _ _ _ h => h) (Or.inl ⟨by rfl, ?yk39⟩) (by assumption) ?rk39
        case yk39 => (intro w' hSw; go_simp; try with_reducible rfl)
        simp only [Act.put, List.setIfInBounds_toArray, List.set_cons_succ, List.set_cons_zero]
        refine takeH (i := 3) (oi := _) (v := (.slice (some ⟨g, kk * 7, none⟩) (m - kk) (lc - kk))) 81 #[true, true, true, true, false, false, false, false, false, false, false, false, false] rfl (by kernel_rfl) (by kernel_rfl) (by kernel_rfl) rfl (by kernel_rfl) (fun _ _ _ h => h) (Or.inl ⟨by rfl, ?yk40⟩) (by assumption) ?rk40
        case yk40 => (intro w' hSw; go_simp; try simp [hkne])
        simp only [Act.put, List.setIfInBounds_toArray, List.set_cons_succ, List.set_cons_zero]
        refine wpAnyH_ready (rs := [4, 9]) (by kernel_rfl) (by simp) ?_
        refine AllReadyH.cons (o := _) rfl (fun K hK => ?_) (AllReadyH.cons (o := _) rfl (fun K hK => ?_) AllReadyH.nil)
        · go_simp
          refine (HJ2.out _ hBt).mono ?_
          rintro e V5 hE
          obtain ⟨x5, c5, rfl, ho5, hb5⟩ := hE.objs
          clear hE
          have hBt := hBt.trans (hb5.mono hBt.size)
          have hu5 : V5.heap.size ≤ V5.heap.size := Nat.le_refl _
          clear hb5
          dsimp only at ho5 ⊢
          go_wp2_with fail
          refine hK.out _ _ (by rw [hBt.cell hqlt.out]; exact s4.out) (fun hHeld => ?_)
          clear hK K
          try simp only [Act.put]
          refine listH (l2 := #[true, true, true, true, true, false, false, false, false, false, false, false, false]) (by kernel_rfl) ?_
          refine takeH (i := 5) (oi := _) (v := ?vk41) 77 #[true, true, true, true, true, true, false, false, false, false, false, false, false] rfl (by kernel_rfl) (by kernel_rfl) (by kernel_rfl) rfl (by kernel_rfl) (fun _ _ _ h => h) (Or.inl ⟨by rfl, ?yk41⟩) (by assumption) ?rk41
          case yk41 => (intro w' hSw; go_simp; try with_reducible rfl)
          simp only [Act.put, List.setIfInBounds_toArray, List.set_cons_succ, List.set_cons_zero]
          refine takeH (i := 6) (oi := _) (v := ?vk42) 83 #[true, true, true, true, true, true, true, false, false, false, false, false, false] rfl (by kernel_rfl) (by kernel_rfl) (by kernel_rfl) rfl (by kernel_rfl) (fun _ _ _ h => h) (Or.inl ⟨by rfl, ?yk42⟩) (by assumption) ?rk42
          case yk42 => (intro w' hSw; go_simp; try with_reducible rfl)
          simp only [Act.put, List.setIfInBounds_toArray, List.set_cons_succ, List.set_cons_zero]
          refine takeH (i := 7) (oi := _) (v := ?vk43) 84 #[true, true, true, true, true, true, true, true, false, false, false, false, false] rfl (by kernel_rfl) (by kernel_rfl) (by kernel_rfl) rfl (by kernel_rfl) (fun _ _ _ h => h) (Or.inl ⟨by rfl, ?yk43⟩) (by assumption) ?rk43
          case yk43 => (intro w' hSw; go_simp; try with_reducible rfl)
          simp only [Act.put, List.setIfInBounds_toArray, List.set_cons_succ, List.set_cons_zero]
          refine takeH (i := 8) (oi := _) (v := ?vk44) 85 #[true, true, true, true, true, true, true, true, true, false, false, false, false] rfl (by kernel_rfl) (by kernel_rfl) (by kernel_rfl) rfl (by kernel_rfl) (fun _ _ _ h => h) (Or.inl ⟨by rfl, ?yk44⟩) (by assumption) ?rk44
          case yk44 => (intro w' hSw; go_simp; try with_reducible rfl)
          simp only [Act.put, List.setIfInBounds_toArray, List.set_cons_succ, List.set_cons_zero]
          refine wpAnyH_ready (rs := [9]) (by kernel_rfl) (by simp) ?_
          refine AllReadyH.cons (o := _) rfl (fun K hK => ?_) AllReadyH.nil
          refine st_alloc53 _ 17 ?_
          intro q17 V9 hq9 hb9 R9
          have lo9 : W8.heap.size ≤ q17 := by have := hBt.size; rw [hq9]; exact this
          have hBt := hBt.trans (hb9.mono hBt.size)
          have ho5 := ho5.below hb9 (Nat.le_refl _)
          have hneR : V5.heap.size ≤ q17 := Nat.le_of_eq hq9.symm
          have hu5 := hb9.size
          clear hq9 hb9
          refine hK.out _ _ (by rw [hBt.cell hqlt.out]; exact s4.out) (fun hHeld => ?_)
          clear hK K
          simp only [Act.put, List.setIfInBounds_toArray, List.set_cons_succ, List.set_cons_zero]
          refine listH (l2 := #[true, true, true, true, true, true, true, true, true, true, false, false, false]) (by kernel_rfl) ?_
          refine wpAnyH_ready (rs := [10]) (by kernel_rfl) (by simp) ?_
          refine AllReadyH.cons (o := _) rfl (fun K hK => ?_) AllReadyH.nil
          refine st_store53 _ 17 83 q17 (.slice x5 b1.length c5) _ rfl x5 b1.length c5 rfl rfl R9 ?_
          intro F _ hF hc5
          have HV : Hid (XV F q17 x5 c5 b1) := XV.ofStore hF hc5 ho5 hu5 (by first | exact .inl hneL | exact .inr hneR) R9.lt
          have hBt := Below.ofStore hBt lo9 hF
          clear hF hc5 ho5 hu5 R9
          refine hK.out _ _ (by rw [hBt.cell hqlt.out]; exact s4.out) (fun hHeld => ?_)
          clear hK K
          refine listH (l2 := #[true, true, true, true, true, true, true, true, true, true, true, false, false]) (by kernel_rfl) ?_
          refine wpAnyH_ready (rs := [11]) (by kernel_rfl) (by simp) ?_
          refine AllReadyH.cons (o := _) rfl (fun K hK => ?_) AllReadyH.nil
          go_simp
          refine hK.out _ _ hHeld (fun hHeld => ?_)
          clear hK K
          try simp only [Act.put]
          refine listH (l2 := #[true, true, true, true, true, true, true, true, true, true, true, true, false]) (by kernel_rfl) ?_
          refine wpAnyH_ready (rs := [12]) (by kernel_rfl) (by simp) ?_
          refine AllReadyH.cons (o := _) rfl (fun K hK => ?_) AllReadyH.nil
          go_simp
          refine hK.out _ _ hHeld (fun hHeld => ?_)
          clear hK K
          try simp only [Act.put]
          refine wpAnyH_done (by kernel_rfl) ?_ _
          go_wp2_with fail
          go_meet
          exact ⟨q17, x5, c5, rfl, rfl, rfl, HV, hBt⟩
        · refine st_alloc53 _ 17 ?_
          intro q17 V9 hq9 hb9 R9
          have lo9 : W8.heap.size ≤ q17 := by have := hBt.size; rw [hq9]; exact this
          have hBt := hBt.trans (hb9.mono hBt.size)
          clear hq9 hb9
          refine hK.out _ _ (by rw [hBt.cell hqlt.out]; exact s4.out) (fun hHeld => ?_)
          clear hK K
          simp only [Act.put, List.setIfInBounds_toArray, List.set_cons_succ, List.set_cons_zero]
          refine listH (l2 := #[true, true, true, true, false, false, false, false, false, true, false, false, false]) (by kernel_rfl) ?_
          refine wpAnyH_ready (rs := [4]) (by kernel_rfl) (by simp) ?_
          refine AllReadyH.cons (o := _) rfl (fun K hK => ?_) AllReadyH.nil
          go_simp
          refine (HJ2.out _ hBt).mono ?_
          rintro e V5 hE
          obtain ⟨x5, c5, rfl, ho5, hb5⟩ := hE.objs
          clear hE
          have hBt := hBt.trans (hb5.mono hBt.size)
          have hneL := R9.lt
          have R9 := R9.of_block (hb5.block _ R9.lt)
          have hu5 : V5.heap.size ≤ V5.heap.size := Nat.le_refl _
          clear hb5
          dsimp only at ho5 ⊢
          go_wp2_with fail
          refine hK.out _ _ (by rw [hBt.cell hqlt.out]; exact s4.out) (fun hHeld => ?_)
          clear hK K
          try simp only [Act.put]
          refine listH (l2 := #[true, true, true, true, true, false, false, false, false, true, false, false, false]) (by kernel_rfl) ?_
          refine takeH (i := 5) (oi := _) (v := ?vk45) 77 #[true, true, true, true, true, true, false, false, false, true, false, false, false] rfl (by kernel_rfl) (by kernel_rfl) (by kernel_rfl) rfl (by kernel_rfl) (fun _ _ _ h => h) (Or.inl ⟨by rfl, ?yk45⟩) (by assumption) ?rk45
          case yk45 => (intro w' hSw; go_simp; try with_reducible rfl)
          simp only [Act.put, List.setIfInBounds_toArray, List.set_cons_succ, List.set_cons_zero]
          refine takeH (i := 6) (oi := _) (v := ?vk46) 83 #[true, true, true, true, true, true, true, false, false, true, false, false, false] rfl (by kernel_rfl) (by kernel_rfl) (by kernel_rfl) rfl (by kernel_rfl) (fun _ _ _ h => h) (Or.inl ⟨by rfl, ?yk46⟩) (by assumption) ?rk46
          case yk46 => (intro w' hSw; go_simp; try with_reducible rfl)
          simp only [Act.put, List.setIfInBounds_toArray, List.set_cons_succ, List.set_cons_zero]
          refine takeH (i := 7) (oi := _) (v := ?vk47) 84 #[true, true, true, true, true, true, true, true, false, true, false, false, false] rfl (by kernel_rfl) (by kernel_rfl) (by kernel_rfl) rfl (by kernel_rfl) (fun _ _ _ h => h) (Or.inl ⟨by rfl, ?yk47⟩) (by assumption) ?rk47
          case yk47 => (intro w' hSw; go_simp; try with_reducible rfl)
          simp only [Act.put, List.setIfInBounds_toArray, List.set_cons_succ, List.set_cons_zero]
          refine takeH (i := 8) (oi := _) (v := ?vk48) 85 #[true, true, true, true, true, true, true, true, true, true, false, false, false] rfl (by kernel_rfl) (by kernel_rfl) (by kernel_rfl) rfl (by kernel_rfl) (fun _ _ _ h => h) (Or.inl ⟨by rfl, ?yk48⟩) (by assumption) ?rk48
          case yk48 => (intro w' hSw; go_simp; try with_reducible rfl)
          simp only [Act.put, List.setIfInBounds_toArray, List.set_cons_succ, List.set_cons_zero]
          refine wpAnyH_ready (rs := [10]) (by kernel_rfl) (by simp) ?_
          refine AllReadyH.cons (o := _) rfl (fun K hK => ?_) AllReadyH.nil
          refine st_store53 _ 17 83 q17 (.slice x5 b1.length c5) _ rfl x5 b1.length c5 rfl rfl R9 ?_
          intro F _ hF hc5
          have HV : Hid (XV F q17 x5 c5 b1) := XV.ofStore hF hc5 ho5 hu5 (by first | exact .inl hneL | exact .inr hneR) R9.lt
          have hBt := Below.ofStore hBt lo9 hF
          clear hF hc5 ho5 hu5 R9
          refine hK.out _ _ (by rw [hBt.cell hqlt.out]; exact s4.out) (fun hHeld => ?_)
          clear hK K
          refine listH (l2 := #[true, true, true, true, true, true, true, true, true, true, true, false, false]) (by kernel_rfl) ?_
          refine wpAnyH_ready (rs := [11]) (by kernel_rfl) (by simp) ?_
          refine AllReadyH.cons (o := _) rfl (fun K hK => ?_) AllReadyH.nil
          go_simp
          refine hK.out _ _ hHeld (fun hHeld => ?_)
          clear hK K
          try simp only [Act.put]
          refine listH (l2 := #[true, true, true, true, true, true, true, true, true, true, true, true, false]) (by kernel_rfl) ?_
          refine wpAnyH_ready (rs := [12]) (by kernel_rfl) (by simp) ?_
          refine AllReadyH.cons (o := _) rfl (fun K hK => ?_) AllReadyH.nil
          go_simp
          refine hK.out _ _ hHeld (fun hHeld => ?_)
          clear hK K
          try simp only [Act.put]
          refine wpAnyH_done (by kernel_rfl) ?_ _
          go_wp2_with fail
          go_meet
          exact ⟨q17, x5, c5, rfl, rfl, rfl, HV, hBt⟩
  obtain ⟨q17, x17, c17, rfl, rfl, rfl, HBT, hB9⟩ := hcut
  obtain ⟨W9, hW9⟩ : ∃ W9, W9 = wc := ⟨_, rfl⟩
  rw [← hW9] at HBT hB9 ⊢
  clear hW9 s4 s4d hqlt hBt
  have HT9 : Hid (XT W9 T (some ⟨b, 0, none⟩) c1 os) := HT8.out.next hB9
  have HX9 : Hid (XT W9 X x3 c3 r1) := HX8.out.next hB9
  have HA9 : Hid (XV W9 q14 x14 c14 a1) := HA.out.next hB9
  have HB9 : Hid (Below w.heap.size w W9) := HB8.out.trans (hB9.mono HB8.out.size)
  have tn : (wrap64 ((bp : Int) + (kk : Int)) != (rp : Int)) = false := by
    have h1 : wrap64 ((bp : Int) + (kk : Int)) = ((rp : Nat) : Int) := by have := HBP.out; have := HRP.out; unfold wrap64; omega
    rw [h1]; simp
  have tq : (bc != bc) = false := by simp
  have xb := HX9.out.box
  have tb := HT9.out.box
  have vb := HBT.out.box
  by_cases h0 : bc = 0
  · have hg := HGOOD.out h0
    have HG : Hid (b1 = r1 ∧ rp = m) := hg
    have tl : ((rp : Int) == (m : Int)) = true := by rw [hg.2]; simp
    subst h0
    clear hg
    go_wp2_with fail
    refine (implSame x17 x3 b1.length r1.length c17 c3 b1 r1 0 W9.heap.size 0 X W9 (Nat.le_refl _) (Nat.le_of_lt HX9.out.lt) HBT.out.at_ HX9.out.at_).mono ?_
    rintro e w10 ⟨rfl, hb10⟩
    rw [show listEq oSame b1 r1 = true by rw [HG.out.1]; exact same_rfl r1]
    have HX10 : Hid (XT w10 X x3 c3 r1) := HX9.out.next hb10
    have HB10 : Hid (Below w.heap.size w w10) := HB9.out.trans (hb10.mono HB9.out.size)
    have xb := HX10.out.box
    clear hb10
    go_wp2_with fail
    refine (implTreeOk x3 r1.length c3 r1 0 X w10 (Nat.le_of_lt HX10.out.lt) HX10.out.at_).mono ?_
    rintro e w11 ⟨rfl, hb11⟩
    rw [HS1'.out.2]
    have HB11 : Hid (Below w.heap.size w w11) := HB10.out.trans (hb11.mono HB10.out.size)
    go_wp2_with fail
    go_ret
    exact ⟨ret_bool (by simp), HB11.out⟩
  · have t0 : (bc != 0) = true := by simpa using h0
    have HG := Hid.mk' (HBAD.out h0)
    have ab := HA9.out.box
    clear h0
    go_wp2_with fail
    refine (implSame x3 (some ⟨b, 0, none⟩) r1.length os.length c3 c1 r1 os 0 X 0 T W9 (Nat.le_of_lt HX9.out.lt) (Nat.le_of_lt HT9.out.lt) HX9.out.at_ HT9.out.at_).mono ?_
    rintro e w10 ⟨rfl, hb10⟩
    rw [show listEq oSame r1 os = true by rw [HG.out.1]; exact same_rfl os]
    have HA10 : Hid (XV w10 q14 x14 c14 a1) := HA9.out.next hb10
    have HV10 : Hid (XV w10 q17 x17 c17 b1) := HBT.out.next hb10
    have HB10 : Hid (Below w.heap.size w w10) := HB9.out.trans (hb10.mono HB9.out.size)
    have ab := HA10.out.box
    have vb := HV10.out.box
    clear hb10
    go_wp2_with fail
    refine (implSame x17 x14 b1.length a1.length c17 c14 b1 a1 0 w10.heap.size 0 w10.heap.size w10 (Nat.le_refl _) (Nat.le_refl _) HV10.out.at_ HA10.out.at_).mono ?_
    rintro e w11 ⟨rfl, hb11⟩
    rw [show listEq oSame b1 a1 = true by rw [HG.out.2]; exact same_rfl a1]
    have HB11 : Hid (Below w.heap.size w w11) := HB10.out.trans (hb11.mono HB10.out.size)
    go_wp2_with fail
    go_ret
    exact ⟨ret_bool (by simp), HB11.out⟩
end Go.Proofs.YtnolbfijcnldjaaGreatDoor
