/-
  At every tree and everything done the call of laws.FnExactActDo returns true.
-/
import Derived.Test.YtnolbfijcnldjaaGreatDoorU24
import Derived.Deep.RegionWith
import Derived.RowKitTokens
namespace Go.Proofs.YtnolbfijcnldjaaGreatDoor
open Go.RowKit

/-- What is wanted from the second call on. -/
structure FX (w W : World) (ta : Option Addr) (tn tc : Nat) (o : LOp) (hi g : Nat) (x : Option Addr) (c : Nat) (l : List LObj) (lo g9 : Nat) (x9 : Option Addr) (c9 : Nat) (vs9 : Nat → Value) : Prop where
  ab : AB w W ta tn tc o
  tb : TB W hi g x c l
  hh : HeldAt W lo x9 c9 vs9 l
  bx : W.cell? ⟨g9, 0, none⟩ = some (.slice x9 l.length c9)
  lt : g9 < W.heap.size
theorem FX.next {w W W' : World} {ta : Option Addr} {tn tc : Nat} {o : LOp} {hi g : Nat} {x : Option Addr} {c : Nat} {l : List LObj} {lo g9 : Nat} {x9 : Option Addr} {c9 : Nat} {vs9 : Nat → Value} (h : FX w W ta tn tc o hi g x c l lo g9 x9 c9 vs9) (hb : Below W.heap.size W W') : FX w W' ta tn tc o hi g x c l lo g9 x9 c9 vs9 :=
  ⟨h.ab.next hb, h.tb.next hb, h.hh.next hb, by rw [hb.cell (by simpa using h.lt)]; exact h.bx, by have := hb.size; have := h.lt; omega⟩
theorem FX.put {w W W' : World} {ta : Option Addr} {tn tc : Nat} {o : LOp} {hi g : Nat} {x : Option Addr} {c : Nat} {l : List LObj} {lo g9 q : Nat} {x9 : Option Addr} {c9 : Nat} {vs9 : Nat → Value} {f : Nat → Value} {v : Value} (h : FX w W ta tn tc o hi g x c l lo g9 x9 c9 vs9) (hR : W.rowIs q 25 1 f) (hB : But q W W') (hE : W' = W.setCell ⟨q, 0, none⟩ v) (hq : g9 < q ∧ hi ≤ q ∧ w.heap.size + 1 < q) : FX w W' ta tn tc o hi g x c l lo g9 x9 c9 vs9 :=
  ⟨h.ab.but hB hq.2.2, h.tb.under hB.below hq.2.1, by rw [hE]; exact h.hh.setBox ⟨_, hR⟩ v, by rw [hB.cell (by simp; omega) (by simpa using h.lt)]; exact h.bx, by have := hB.below.size; have := h.lt; omega⟩

set_option maxHeartbeats 16000000 in
set_option maxRecDepth 20000 in
theorem walkActDo (a : Nat → Addr) (U0 : Nat) (ta : Option Addr) (tn tc : Nat) (os : List LObj) (o : LOp) (w : World) (hU0 : U0 ≤ w.heap.size) (HS : Sents w U0 a) (H : ObjsAt w 0 w.heap.size ta tn os) (hz : OpSz o) :
    Calls Tryz.prog 15 #[.agg #[.slice ta tn tc], .agg #[.int .i64 o.kind, .int .i64 o.dir, .string o.name, .int .i64 o.dir2, .string o.name2, .int .i64 o.id, .string o.text]] w fun e w' => e = .returned (.bool true) ∧ Below w.heap.size w w' := by
  have hA : AB w ((w.alloc (Obj.cells #[.slice ta tn tc] 67)).alloc (Obj.cells #[.int .i64 o.kind, .int .i64 o.dir, .string o.name, .int .i64 o.dir2, .string o.name2, .int .i64 o.id, .string o.text] 68)) ta tn tc o := ⟨((Below.refl _ _).alloc (Nat.le_refl _) _).alloc (by simp) _, by simp [go_sem], by simp [go_sem], by simp [go_sem], by simp [go_sem], by simp [go_sem], by simp [go_sem], by simp [go_sem], by simp [go_sem], by simp⟩
  have hTO := toOp_any o
  have hSZ := fun left w h0 h1 => szOp_any o left w h0 h1 hz
  simp only [LOp.val] at hTO hSZ
  have HTN : Hid (tn = os.length) := H.len
  go_enter Tryz.func15, Tryz.ntmps15
  go_wp2_with fail
  refine (szTree_any _ _ _ os 0 w.heap.size _ _ (by omega) (by omega) hA.below.size (H.below hA.below (Nat.le_refl _))).mono ?_
  rintro x w1 ⟨⟨r1, rfl, hr⟩, hb1⟩
  have HR : Hid (r1 = -1 ∨ 0 ≤ r1 ∧ r1 = 1048576 - tn - totT os) := hr
  have h1 := hA.next hb1
  clear hr hb1 hA
  by_cases hneg : r1 < 0
  · go_wp2_with fail
    go_ret
    exact ⟨rfl, h1.below⟩
  have e0 := h1.k0
  have e1 := h1.k1
  have e2 := h1.k2
  have e3 := h1.k3
  have e4 := h1.k4
  have e5 := h1.k5
  have e6 := h1.k6
  go_wp2_with fail
  refine (hSZ _ _ (by omega) (by have := HR.out; omega)).mono ?_
  rintro x w2 ⟨⟨r2, rfl, hr2⟩, hb2⟩
  have h2 := h1.next hb2
  clear hr2 hb2 h1 e0 e1 e2 e3 e4 e5 e6 hSZ
  by_cases hneg2 : r2 < 0
  · go_wp2_with fail
    go_ret
    exact ⟨rfl, h2.below⟩
  have htn : tn ≤ 1048576 := by have := HR.out; omega
  have htot : tn + totT os ≤ 1048576 := by have := HR.out; omega
  have hS1 : Sizes os 1048576 := sizes_of (by omega)
  have HTOT : Hid (tn + totT os ≤ 1048576) := htot
  have hSP := fun L V b (c : Nat) w hV H => specActDo L V b c tn o os w hS1 hz hV H
  have hIM := fun L V b (c : Nat) w hU HS hV H => implActDo a U0 L V b c tn o os w hU HS hS1 hz hV H
  obtain ⟨r, hr⟩ : ∃ r, r = actR os o := ⟨_, rfl⟩
  rw [← hr] at hSP hIM
  have hrl : r.1.length ≤ 32 := by rw [hr]; exact actR_len os o
  have HRS : Hid (Slim r.1.length r.1) := by show Slim _ _; rw [hr]; exact actR_slim os o (by rw [← hr]; exact hrl)
  clear HR htot hr hneg
  go_upto_region 8 with fail
  have h2d := h2.next (Below.refl _ _).drew
  have hHeld0 := h2d
  go_cut [6, 7] (fun p k wx => ∃ g x c, p = .pointer (some ⟨g, 0, none⟩) ∧ k = .int .i64 r.2 ∧ Hid (AB w wx ta tn tc o) ∧ Hid (TB wx wx.heap.size g x c r.1))
  case first =>
    refine wp_region_held_drew (S := (fun W => AB w W ta tn tc o)) (by kernel_rfl) ?_ (fun hHeld => ?_)
    · exact h2d
    refine listH (l2 := #[false, false, false, false, false, false, false, false, false, false, false]) (by kernel_rfl) ?_
    refine takeH (i := 0) (oi := _) (v := ?va0) 27 #[true, false, false, false, false, false, false, false, false, false, false] rfl (by kernel_rfl) (by kernel_rfl) (by kernel_rfl) rfl (by kernel_rfl) (fun _ _ _ h => h) (Or.inl ⟨by rfl, ?ya0⟩) (by assumption) ?ra0
    case ya0 => (intro w' hSw; (try dsimp only at hSw); have x0 := hSw.t; have x1 := hSw.k0; have x2 := hSw.k1; have x3 := hSw.k2; have x4 := hSw.k3; have x5 := hSw.k4; have x6 := hSw.k5; have x7 := hSw.k6; go_simp; try with_reducible rfl)
    simp only [Act.put, List.setIfInBounds_toArray, List.set_cons_succ, List.set_cons_zero]
    refine takeH (i := 2) (oi := _) (v := ?va2) 29 #[true, false, true, false, false, false, false, false, false, false, false] rfl (by kernel_rfl) (by kernel_rfl) (by kernel_rfl) rfl (by kernel_rfl) (fun _ _ _ h => h) (Or.inl ⟨by rfl, ?ya2⟩) (by assumption) ?ra2
    case ya2 => (intro w' hSw; (try dsimp only at hSw); have x0 := hSw.t; have x1 := hSw.k0; have x2 := hSw.k1; have x3 := hSw.k2; have x4 := hSw.k3; have x5 := hSw.k4; have x6 := hSw.k5; have x7 := hSw.k6; go_simp; try with_reducible rfl)
    simp only [Act.put, List.setIfInBounds_toArray, List.set_cons_succ, List.set_cons_zero]
    refine wpAnyH_ready (rs := [1, 8]) (by kernel_rfl) (by simp) ?_
    refine AllReadyH.cons (o := _) rfl (fun K hK => ?_) (AllReadyH.cons (o := _) rfl (fun K hK => ?_) AllReadyH.nil)
    · go_simp
      refine (toTree_any _ _ _ os 0 w.heap.size _ htn hS1 hHeld.below.size (H.below hHeld.below (Nat.le_refl _))).mono ?_
      rintro x W1 ⟨⟨b1, rfl, ho1⟩, hb1⟩
      go_wp2_with fail
      refine hK.out _ _ (hHeld.next hb1) (fun hHeld => ?_)
      clear hK K
      try simp only [Act.put]
      refine listH (l2 := #[true, true, true, false, false, false, false, false, false, false, false]) (by kernel_rfl) ?_
      have hzhb1 := hb1.size
      refine wpAnyH_ready (rs := [3, 8]) (by kernel_rfl) (by simp) ?_
      refine AllReadyH.cons (o := _) rfl (fun K hK => ?_) (AllReadyH.cons (o := _) rfl (fun K hK => ?_) AllReadyH.nil)
      · go_simp
        refine (hTO _).mono ?_
        rintro x W2 ⟨rfl, hb2⟩
        go_wp2_with fail
        refine hK.out _ _ (hHeld.next hb2) (fun hHeld => ?_)
        clear hK K
        try simp only [Act.put]
        refine listH (l2 := #[true, true, true, true, false, false, false, false, false, false, false]) (by kernel_rfl) ?_
        have hzhb2 := hb2.size
        have ho1 := ho1.below hb2 (by omega)
        refine wpAnyH_ready (rs := [4, 8]) (by kernel_rfl) (by simp) ?_
        refine AllReadyH.cons (o := _) rfl (fun K hK => ?_) (AllReadyH.cons (o := _) rfl (fun K hK => ?_) AllReadyH.nil)
        · go_simp
          refine (hSP _ _ b1 tn _ (by omega) ho1).mono ?_
          rintro x W3 hD
          obtain ⟨x3, c3, rfl, ho3, hb3⟩ := hD.objs
          go_wp2_with fail
          refine hK.out _ _ (hHeld.next hb3) (fun hHeld => ?_)
          clear hK K
          try simp only [Act.put]
          refine listH (l2 := #[true, true, true, true, true, false, false, false, false, false, false]) (by kernel_rfl) ?_
          have hzhb3 := hb3.size
          have ho1 := ho1.below hb3 (by omega)
          skip
          refine takeH (i := 5) (oi := _) (v := ?vaL1) 26 #[true, true, true, true, true, true, false, false, false, false, false] rfl (by kernel_rfl) (by kernel_rfl) (by kernel_rfl) rfl (by kernel_rfl) (fun _ _ _ h => h) (Or.inl ⟨by rfl, ?yaL1⟩) (by assumption) ?raL1
          case yaL1 => (intro w' hSw; go_simp; try with_reducible rfl)
          simp only [Act.put, List.setIfInBounds_toArray, List.set_cons_succ, List.set_cons_zero]
          refine takeH (i := 6) (oi := _) (v := ?vaL2) 32 #[true, true, true, true, true, true, true, false, false, false, false] rfl (by kernel_rfl) (by kernel_rfl) (by kernel_rfl) rfl (by kernel_rfl) (fun _ _ _ h => h) (Or.inl ⟨by rfl, ?yaL2⟩) (by assumption) ?raL2
          case yaL2 => (intro w' hSw; go_simp; try with_reducible rfl)
          simp only [Act.put, List.setIfInBounds_toArray, List.set_cons_succ, List.set_cons_zero]
          refine takeH (i := 7) (oi := _) (v := ?vaL3) 33 #[true, true, true, true, true, true, true, true, false, false, false] rfl (by kernel_rfl) (by kernel_rfl) (by kernel_rfl) rfl (by kernel_rfl) (fun _ _ _ h => h) (Or.inl ⟨by rfl, ?yaL3⟩) (by assumption) ?raL3
          case yaL3 => (intro w' hSw; go_simp; try with_reducible rfl)
          simp only [Act.put, List.setIfInBounds_toArray, List.set_cons_succ, List.set_cons_zero]
          refine wpAnyH_ready (rs := [8]) (by kernel_rfl) (by simp) ?_
          refine AllReadyH.cons (o := _) rfl (fun K hK => ?_) AllReadyH.nil
          refine st_alloc31 _ 6 ?_
          intro q6 V6 hq6 hb6 R6
          refine hK.out _ _ (hHeld.next hb6) (fun hHeld => ?_)
          clear hK K
          simp only [Act.put, List.setIfInBounds_toArray, List.set_cons_succ, List.set_cons_zero]
          refine listH (l2 := #[true, true, true, true, true, true, true, true, true, false, false]) (by kernel_rfl) ?_
          have hz6 := hb6.size
          have lo6 : w.heap.size + 1 < q6 := by have := hHeld0.sz; omega
          have hi6 := Nat.le_of_eq hq6.symm
          have lt6 := R6.lt
          clear hq6
          have ho1 := ho1.below hb6 (by omega)
          skip
          have ho3 := ho3.below hb6 (by omega)
          refine wpAnyH_ready (rs := [9]) (by kernel_rfl) (by simp) ?_
          refine AllReadyH.cons (o := _) rfl (fun K hK => ?_) AllReadyH.nil
          refine st_store31 _ 6 32 q6 _ _ _ rfl rfl R6 ?_
          intro V7 hB7 g7 hE7
          refine hK.out _ _ (hHeld.but hB7 lo6) (fun hHeld => ?_)
          clear hK K
          refine listH (l2 := #[true, true, true, true, true, true, true, true, true, true, false]) (by kernel_rfl) ?_
          refine wpAnyH_ready (rs := [10]) (by kernel_rfl) (by simp) ?_
          refine AllReadyH.cons (o := _) rfl (fun K hK => ?_) AllReadyH.nil
          go_simp
          refine hK.out _ _ hHeld (fun hHeld => ?_)
          clear hK K
          try simp only [Act.put]
          refine listH (l2 := #[true, true, true, true, true, true, true, true, true, true, true]) (by kernel_rfl) ?_
          refine wpAnyH_done (by kernel_rfl) ?_ _
          go_wp2_with fail
          go_meet
          have hz7 := hB7.below.size
          have ho7 : ObjsAt V7 0 V7.heap.size x3 r.1.length r.1 := by first | exact (ho3.but_ hB7 (by omega)).wide (Nat.zero_le _) (by omega) | exact (ho3.but hB7 (by omega) (by omega)).wide (Nat.zero_le _) (by omega)
          exact ⟨q6, x3, c3, rfl, rfl, hHeld, ⟨g7, ho7, by have := R6.lt; omega, Nat.le_refl _⟩⟩
        · refine st_alloc31 _ 6 ?_
          intro q6 V6 hq6 hb6 R6
          refine hK.out _ _ (hHeld.next hb6) (fun hHeld => ?_)
          clear hK K
          simp only [Act.put, List.setIfInBounds_toArray, List.set_cons_succ, List.set_cons_zero]
          refine listH (l2 := #[true, true, true, true, false, false, false, false, true, false, false]) (by kernel_rfl) ?_
          have hz6 := hb6.size
          have lo6 : w.heap.size + 1 < q6 := by have := hHeld0.sz; omega
          have hi6 := Nat.le_of_eq hq6.symm
          have lt6 := R6.lt
          clear hq6
          have ho1 := ho1.below hb6 (by omega)
          skip
          refine wpAnyH_ready (rs := [4]) (by kernel_rfl) (by simp) ?_
          refine AllReadyH.cons (o := _) rfl (fun K hK => ?_) AllReadyH.nil
          go_simp
          refine (hSP _ _ b1 tn _ (by omega) ho1).mono ?_
          rintro x W3 hD
          obtain ⟨x3, c3, rfl, ho3, hb3⟩ := hD.objs
          go_wp2_with fail
          refine hK.out _ _ (hHeld.next hb3) (fun hHeld => ?_)
          clear hK K
          try simp only [Act.put]
          refine listH (l2 := #[true, true, true, true, true, false, false, false, true, false, false]) (by kernel_rfl) ?_
          have hzhb3 := hb3.size
          have R6 := R6.of_block (hb3.block q6 R6.lt)
          have ho1 := ho1.below hb3 (by omega)
          skip
          refine takeH (i := 5) (oi := _) (v := ?vaL4) 26 #[true, true, true, true, true, true, false, false, true, false, false] rfl (by kernel_rfl) (by kernel_rfl) (by kernel_rfl) rfl (by kernel_rfl) (fun _ _ _ h => h) (Or.inl ⟨by rfl, ?yaL4⟩) (by assumption) ?raL4
          case yaL4 => (intro w' hSw; go_simp; try with_reducible rfl)
          simp only [Act.put, List.setIfInBounds_toArray, List.set_cons_succ, List.set_cons_zero]
          refine takeH (i := 6) (oi := _) (v := ?vaL5) 32 #[true, true, true, true, true, true, true, false, true, false, false] rfl (by kernel_rfl) (by kernel_rfl) (by kernel_rfl) rfl (by kernel_rfl) (fun _ _ _ h => h) (Or.inl ⟨by rfl, ?yaL5⟩) (by assumption) ?raL5
          case yaL5 => (intro w' hSw; go_simp; try with_reducible rfl)
          simp only [Act.put, List.setIfInBounds_toArray, List.set_cons_succ, List.set_cons_zero]
          refine takeH (i := 7) (oi := _) (v := ?vaL6) 33 #[true, true, true, true, true, true, true, true, true, false, false] rfl (by kernel_rfl) (by kernel_rfl) (by kernel_rfl) rfl (by kernel_rfl) (fun _ _ _ h => h) (Or.inl ⟨by rfl, ?yaL6⟩) (by assumption) ?raL6
          case yaL6 => (intro w' hSw; go_simp; try with_reducible rfl)
          simp only [Act.put, List.setIfInBounds_toArray, List.set_cons_succ, List.set_cons_zero]
          refine wpAnyH_ready (rs := [9]) (by kernel_rfl) (by simp) ?_
          refine AllReadyH.cons (o := _) rfl (fun K hK => ?_) AllReadyH.nil
          refine st_store31 _ 6 32 q6 _ _ _ rfl rfl R6 ?_
          intro V7 hB7 g7 hE7
          refine hK.out _ _ (hHeld.but hB7 lo6) (fun hHeld => ?_)
          clear hK K
          refine listH (l2 := #[true, true, true, true, true, true, true, true, true, true, false]) (by kernel_rfl) ?_
          refine wpAnyH_ready (rs := [10]) (by kernel_rfl) (by simp) ?_
          refine AllReadyH.cons (o := _) rfl (fun K hK => ?_) AllReadyH.nil
          go_simp
          refine hK.out _ _ hHeld (fun hHeld => ?_)
          clear hK K
          try simp only [Act.put]
          refine listH (l2 := #[true, true, true, true, true, true, true, true, true, true, true]) (by kernel_rfl) ?_
          refine wpAnyH_done (by kernel_rfl) ?_ _
          go_wp2_with fail
          go_meet
          have hz7 := hB7.below.size
          have ho7 : ObjsAt V7 0 V7.heap.size x3 r.1.length r.1 := by first | exact (ho3.but_ hB7 (by omega)).wide (Nat.zero_le _) (by omega) | exact (ho3.but hB7 (by omega) (by omega)).wide (Nat.zero_le _) (by omega)
          exact ⟨q6, x3, c3, rfl, rfl, hHeld, ⟨g7, ho7, by have := R6.lt; omega, Nat.le_refl _⟩⟩
      · refine st_alloc31 _ 6 ?_
        intro q6 V6 hq6 hb6 R6
        refine hK.out _ _ (hHeld.next hb6) (fun hHeld => ?_)
        clear hK K
        simp only [Act.put, List.setIfInBounds_toArray, List.set_cons_succ, List.set_cons_zero]
        refine listH (l2 := #[true, true, true, false, false, false, false, false, true, false, false]) (by kernel_rfl) ?_
        have hz6 := hb6.size
        have lo6 : w.heap.size + 1 < q6 := by have := hHeld0.sz; omega
        have hi6 := Nat.le_of_eq hq6.symm
        have lt6 := R6.lt
        clear hq6
        have ho1 := ho1.below hb6 (by omega)
        refine wpAnyH_ready (rs := [3]) (by kernel_rfl) (by simp) ?_
        refine AllReadyH.cons (o := _) rfl (fun K hK => ?_) AllReadyH.nil
        go_simp
        refine (hTO _).mono ?_
        rintro x W2 ⟨rfl, hb2⟩
        go_wp2_with fail
        refine hK.out _ _ (hHeld.next hb2) (fun hHeld => ?_)
        clear hK K
        try simp only [Act.put]
        refine listH (l2 := #[true, true, true, true, false, false, false, false, true, false, false]) (by kernel_rfl) ?_
        have hzhb2 := hb2.size
        have R6 := R6.of_block (hb2.block q6 R6.lt)
        have ho1 := ho1.below hb2 (by omega)
        refine wpAnyH_ready (rs := [4]) (by kernel_rfl) (by simp) ?_
        refine AllReadyH.cons (o := _) rfl (fun K hK => ?_) AllReadyH.nil
        go_simp
        refine (hSP _ _ b1 tn _ (by omega) ho1).mono ?_
        rintro x W3 hD
        obtain ⟨x3, c3, rfl, ho3, hb3⟩ := hD.objs
        go_wp2_with fail
        refine hK.out _ _ (hHeld.next hb3) (fun hHeld => ?_)
        clear hK K
        try simp only [Act.put]
        refine listH (l2 := #[true, true, true, true, true, false, false, false, true, false, false]) (by kernel_rfl) ?_
        have hzhb3 := hb3.size
        have R6 := R6.of_block (hb3.block q6 R6.lt)
        have ho1 := ho1.below hb3 (by omega)
        skip
        refine takeH (i := 5) (oi := _) (v := ?vaL7) 26 #[true, true, true, true, true, true, false, false, true, false, false] rfl (by kernel_rfl) (by kernel_rfl) (by kernel_rfl) rfl (by kernel_rfl) (fun _ _ _ h => h) (Or.inl ⟨by rfl, ?yaL7⟩) (by assumption) ?raL7
        case yaL7 => (intro w' hSw; go_simp; try with_reducible rfl)
        simp only [Act.put, List.setIfInBounds_toArray, List.set_cons_succ, List.set_cons_zero]
        refine takeH (i := 6) (oi := _) (v := ?vaL8) 32 #[true, true, true, true, true, true, true, false, true, false, false] rfl (by kernel_rfl) (by kernel_rfl) (by kernel_rfl) rfl (by kernel_rfl) (fun _ _ _ h => h) (Or.inl ⟨by rfl, ?yaL8⟩) (by assumption) ?raL8
        case yaL8 => (intro w' hSw; go_simp; try with_reducible rfl)
        simp only [Act.put, List.setIfInBounds_toArray, List.set_cons_succ, List.set_cons_zero]
        refine takeH (i := 7) (oi := _) (v := ?vaL9) 33 #[true, true, true, true, true, true, true, true, true, false, false] rfl (by kernel_rfl) (by kernel_rfl) (by kernel_rfl) rfl (by kernel_rfl) (fun _ _ _ h => h) (Or.inl ⟨by rfl, ?yaL9⟩) (by assumption) ?raL9
        case yaL9 => (intro w' hSw; go_simp; try with_reducible rfl)
        simp only [Act.put, List.setIfInBounds_toArray, List.set_cons_succ, List.set_cons_zero]
        refine wpAnyH_ready (rs := [9]) (by kernel_rfl) (by simp) ?_
        refine AllReadyH.cons (o := _) rfl (fun K hK => ?_) AllReadyH.nil
        refine st_store31 _ 6 32 q6 _ _ _ rfl rfl R6 ?_
        intro V7 hB7 g7 hE7
        refine hK.out _ _ (hHeld.but hB7 lo6) (fun hHeld => ?_)
        clear hK K
        refine listH (l2 := #[true, true, true, true, true, true, true, true, true, true, false]) (by kernel_rfl) ?_
        refine wpAnyH_ready (rs := [10]) (by kernel_rfl) (by simp) ?_
        refine AllReadyH.cons (o := _) rfl (fun K hK => ?_) AllReadyH.nil
        go_simp
        refine hK.out _ _ hHeld (fun hHeld => ?_)
        clear hK K
        try simp only [Act.put]
        refine listH (l2 := #[true, true, true, true, true, true, true, true, true, true, true]) (by kernel_rfl) ?_
        refine wpAnyH_done (by kernel_rfl) ?_ _
        go_wp2_with fail
        go_meet
        have hz7 := hB7.below.size
        have ho7 : ObjsAt V7 0 V7.heap.size x3 r.1.length r.1 := by first | exact (ho3.but_ hB7 (by omega)).wide (Nat.zero_le _) (by omega) | exact (ho3.but hB7 (by omega) (by omega)).wide (Nat.zero_le _) (by omega)
        exact ⟨q6, x3, c3, rfl, rfl, hHeld, ⟨g7, ho7, by have := R6.lt; omega, Nat.le_refl _⟩⟩
    · refine st_alloc31 _ 6 ?_
      intro q6 V6 hq6 hb6 R6
      refine hK.out _ _ (hHeld.next hb6) (fun hHeld => ?_)
      clear hK K
      simp only [Act.put, List.setIfInBounds_toArray, List.set_cons_succ, List.set_cons_zero]
      refine listH (l2 := #[true, false, true, false, false, false, false, false, true, false, false]) (by kernel_rfl) ?_
      have hz6 := hb6.size
      have lo6 : w.heap.size + 1 < q6 := by have := hHeld0.sz; omega
      have hi6 := Nat.le_of_eq hq6.symm
      have lt6 := R6.lt
      clear hq6
      refine wpAnyH_ready (rs := [1]) (by kernel_rfl) (by simp) ?_
      refine AllReadyH.cons (o := _) rfl (fun K hK => ?_) AllReadyH.nil
      go_simp
      refine (toTree_any _ _ _ os 0 w.heap.size _ htn hS1 hHeld.below.size (H.below hHeld.below (Nat.le_refl _))).mono ?_
      rintro x W1 ⟨⟨b1, rfl, ho1⟩, hb1⟩
      go_wp2_with fail
      refine hK.out _ _ (hHeld.next hb1) (fun hHeld => ?_)
      clear hK K
      try simp only [Act.put]
      refine listH (l2 := #[true, true, true, false, false, false, false, false, true, false, false]) (by kernel_rfl) ?_
      have hzhb1 := hb1.size
      have R6 := R6.of_block (hb1.block q6 R6.lt)
      refine wpAnyH_ready (rs := [3]) (by kernel_rfl) (by simp) ?_
      refine AllReadyH.cons (o := _) rfl (fun K hK => ?_) AllReadyH.nil
      go_simp
      refine (hTO _).mono ?_
      rintro x W2 ⟨rfl, hb2⟩
      go_wp2_with fail
      refine hK.out _ _ (hHeld.next hb2) (fun hHeld => ?_)
      clear hK K
      try simp only [Act.put]
      refine listH (l2 := #[true, true, true, true, false, false, false, false, true, false, false]) (by kernel_rfl) ?_
      have hzhb2 := hb2.size
      have R6 := R6.of_block (hb2.block q6 R6.lt)
      have ho1 := ho1.below hb2 (by omega)
      refine wpAnyH_ready (rs := [4]) (by kernel_rfl) (by simp) ?_
      refine AllReadyH.cons (o := _) rfl (fun K hK => ?_) AllReadyH.nil
      go_simp
      refine (hSP _ _ b1 tn _ (by omega) ho1).mono ?_
      rintro x W3 hD
      obtain ⟨x3, c3, rfl, ho3, hb3⟩ := hD.objs
      go_wp2_with fail
      refine hK.out _ _ (hHeld.next hb3) (fun hHeld => ?_)
      clear hK K
      try simp only [Act.put]
      refine listH (l2 := #[true, true, true, true, true, false, false, false, true, false, false]) (by kernel_rfl) ?_
      have hzhb3 := hb3.size
      have R6 := R6.of_block (hb3.block q6 R6.lt)
      have ho1 := ho1.below hb3 (by omega)
      skip
      refine takeH (i := 5) (oi := _) (v := ?vaL10) 26 #[true, true, true, true, true, true, false, false, true, false, false] rfl (by kernel_rfl) (by kernel_rfl) (by kernel_rfl) rfl (by kernel_rfl) (fun _ _ _ h => h) (Or.inl ⟨by rfl, ?yaL10⟩) (by assumption) ?raL10
      case yaL10 => (intro w' hSw; go_simp; try with_reducible rfl)
      simp only [Act.put, List.setIfInBounds_toArray, List.set_cons_succ, List.set_cons_zero]
      refine takeH (i := 6) (oi := _) (v := ?vaL11) 32 #[true, true, true, true, true, true, true, false, true, false, false] rfl (by kernel_rfl) (by kernel_rfl) (by kernel_rfl) rfl (by kernel_rfl) (fun _ _ _ h => h) (Or.inl ⟨by rfl, ?yaL11⟩) (by assumption) ?raL11
      case yaL11 => (intro w' hSw; go_simp; try with_reducible rfl)
      simp only [Act.put, List.setIfInBounds_toArray, List.set_cons_succ, List.set_cons_zero]
      refine takeH (i := 7) (oi := _) (v := ?vaL12) 33 #[true, true, true, true, true, true, true, true, true, false, false] rfl (by kernel_rfl) (by kernel_rfl) (by kernel_rfl) rfl (by kernel_rfl) (fun _ _ _ h => h) (Or.inl ⟨by rfl, ?yaL12⟩) (by assumption) ?raL12
      case yaL12 => (intro w' hSw; go_simp; try with_reducible rfl)
      simp only [Act.put, List.setIfInBounds_toArray, List.set_cons_succ, List.set_cons_zero]
      refine wpAnyH_ready (rs := [9]) (by kernel_rfl) (by simp) ?_
      refine AllReadyH.cons (o := _) rfl (fun K hK => ?_) AllReadyH.nil
      refine st_store31 _ 6 32 q6 _ _ _ rfl rfl R6 ?_
      intro V7 hB7 g7 hE7
      refine hK.out _ _ (hHeld.but hB7 lo6) (fun hHeld => ?_)
      clear hK K
      refine listH (l2 := #[true, true, true, true, true, true, true, true, true, true, false]) (by kernel_rfl) ?_
      refine wpAnyH_ready (rs := [10]) (by kernel_rfl) (by simp) ?_
      refine AllReadyH.cons (o := _) rfl (fun K hK => ?_) AllReadyH.nil
      go_simp
      refine hK.out _ _ hHeld (fun hHeld => ?_)
      clear hK K
      try simp only [Act.put]
      refine listH (l2 := #[true, true, true, true, true, true, true, true, true, true, true]) (by kernel_rfl) ?_
      refine wpAnyH_done (by kernel_rfl) ?_ _
      go_wp2_with fail
      go_meet
      have hz7 := hB7.below.size
      have ho7 : ObjsAt V7 0 V7.heap.size x3 r.1.length r.1 := by first | exact (ho3.but_ hB7 (by omega)).wide (Nat.zero_le _) (by omega) | exact (ho3.but hB7 (by omega) (by omega)).wide (Nat.zero_le _) (by omega)
      exact ⟨q6, x3, c3, rfl, rfl, hHeld, ⟨g7, ho7, by have := R6.lt; omega, Nat.le_refl _⟩⟩
  obtain ⟨g6, x6, c6, rfl, rfl, HA6, HT6⟩ := hcut
  obtain ⟨W6, rfl⟩ : ∃ W6, W6 = wc := ⟨_, rfl⟩
  have e0 := HA6.out.t
  have s6 := HA6.out.sz
  clear h2d hHeld0 h2 hSP hneg2
  go_wp2_with fail
  refine (toTree_u _ _ _ os 0 w.heap.size _ htn hS1 HA6.out.below.size (H.below HA6.out.below (Nat.le_refl _))).mono ?_
  rintro x w7 ⟨⟨b7, rfl, ho7⟩, hb7, hu7⟩
  have hal : Below w7.heap.size w7 (w7.alloc (.cells #[.slice (some ⟨b7, 0, none⟩) tn tn] 25)) := (Below.refl _ _).alloc (Nat.le_refl _) _
  have HC8 : Hid (CD w (w7.alloc (.cells #[.slice (some ⟨b7, 0, none⟩) tn tn] 25)) ta tn tc o W6.heap.size g6 x6 c6 r.1 W6.heap.size w7.heap.size b7 os) :=
    ⟨(HA6.out.next hb7).next hal, (HT6.out.next hb7).next hal, ⟨by simp [go_sem], (ho7.typed (Nat.le_refl _) hu7).under hal, ho7.below hal (Nat.le_refl _), by simp⟩, s6, Nat.le_refl _, hb7.size⟩
  clear e0 s6 HA6 HT6 ho7 hb7 hu7 hal
  obtain ⟨L8, hL8⟩ : ∃ L8, W6.heap.size = L8 := ⟨_, rfl⟩
  obtain ⟨U8, hU8⟩ : ∃ U8, w7.heap.size = U8 := ⟨_, rfl⟩
  have HC : Hid (CD w (w7.alloc (.cells #[.slice (some ⟨b7, 0, none⟩) tn tn] 25)) ta tn tc o L8 g6 x6 c6 r.1 L8 U8 b7 os) := by have h9 := HC8.out; rw [hL8, hU8] at h9; exact h9
  clear HC8 hL8
  go_upto_region 10 with fail
  have h8d := HC.out.next (Below.refl _ _).drew
  have hHeld0 := h8d
  clear hU8
  go_cut [9, 10] (fun p k wx => ∃ g x c vs lo, p = .pointer (some ⟨g, 0, none⟩) ∧ k = .int .i64 r.2 ∧ Hid (CD w wx ta tn tc o L8 g6 x6 c6 r.1 L8 U8 b7 os) ∧ Hid (GB wx lo g x c vs r.1) ∧ U8 < lo ∧ U8 < g ∧ lo ≤ wx.heap.size)
  case first =>
    refine wp_region_held_drew (S := (fun W => CD w W ta tn tc o L8 g6 x6 c6 r.1 L8 U8 b7 os)) (by kernel_rfl) ?_ (fun hHeld => ?_)
    · exact h8d
    refine listH (l2 := #[false, false, false, false, false, false, false, false, false, false]) (by kernel_rfl) ?_
    refine takeH (i := 0) (oi := _) (v := ?vb0) 37 #[true, false, false, false, false, false, false, false, false, false] rfl (by kernel_rfl) (by kernel_rfl) (by kernel_rfl) rfl (by kernel_rfl) (fun _ _ _ h => h) (Or.inl ⟨by rfl, ?yb0⟩) (by assumption) ?rb0
    case yb0 => (intro w' hSw; (try dsimp only at hSw); have x0 := hSw.xb.box; have x1 := hSw.ab.k0; have x2 := hSw.ab.k1; have x3 := hSw.ab.k2; have x4 := hSw.ab.k3; have x5 := hSw.ab.k4; have x6 := hSw.ab.k5; have x7 := hSw.ab.k6; go_simp; try with_reducible rfl)
    simp only [Act.put, List.setIfInBounds_toArray, List.set_cons_succ, List.set_cons_zero]
    refine takeH (i := 1) (oi := _) (v := ?vb1) 38 #[true, true, false, false, false, false, false, false, false, false] rfl (by kernel_rfl) (by kernel_rfl) (by kernel_rfl) rfl (by kernel_rfl) (fun _ _ _ h => h) (Or.inl ⟨by rfl, ?yb1⟩) (by assumption) ?rb1
    case yb1 => (intro w' hSw; (try dsimp only at hSw); have x0 := hSw.xb.box; have x1 := hSw.ab.k0; have x2 := hSw.ab.k1; have x3 := hSw.ab.k2; have x4 := hSw.ab.k3; have x5 := hSw.ab.k4; have x6 := hSw.ab.k5; have x7 := hSw.ab.k6; go_simp; try with_reducible rfl)
    simp only [Act.put, List.setIfInBounds_toArray, List.set_cons_succ, List.set_cons_zero]
    refine wpAnyH_ready (rs := [2, 7]) (by kernel_rfl) (by simp) ?_
    refine AllReadyH.cons (o := _) rfl (fun K hK => ?_) (AllReadyH.cons (o := _) rfl (fun K hK => ?_) AllReadyH.nil)
    · go_simp
      refine (hTO _).mono ?_
      rintro x W1 ⟨rfl, hb1⟩
      go_wp2_with fail
      refine hK.out _ _ (hHeld.next hb1) (fun hHeld => ?_)
      clear hK K
      try simp only [Act.put]
      refine listH (l2 := #[true, true, true, false, false, false, false, false, false, false]) (by kernel_rfl) ?_
      have hzhb1 := hb1.size
      refine wpAnyH_ready (rs := [3, 7]) (by kernel_rfl) (by simp) ?_
      refine AllReadyH.cons (o := _) rfl (fun K hK => ?_) (AllReadyH.cons (o := _) rfl (fun K hK => ?_) AllReadyH.nil)
      · go_simp
        have lt10 := hHeld.xb.lt
        refine (hIM _ _ b7 tn _ (Nat.le_trans hU0 hHeld.ab.below.size) (HS.below hHeld.ab.below hU0) (by have := hHeld.xb.lt; omega) hHeld.xb.obj).mono ?_
        rintro x W3 hD
        obtain ⟨x3, c3, vs3, rfl, ho3, hb3⟩ := hD.ans
        go_wp2_with fail
        refine hK.out _ _ (hHeld.next hb3) (fun hHeld => ?_)
        clear hK K
        try simp only [Act.put]
        refine listH (l2 := #[true, true, true, true, false, false, false, false, false, false]) (by kernel_rfl) ?_
        have hzhb3 := hb3.size
        skip
        refine takeH (i := 4) (oi := _) (v := ?vbL1) 36 #[true, true, true, true, true, false, false, false, false, false] rfl (by kernel_rfl) (by kernel_rfl) (by kernel_rfl) rfl (by kernel_rfl) (fun _ _ _ h => h) (Or.inl ⟨by rfl, ?ybL1⟩) (by assumption) ?rbL1
        case ybL1 => (intro w' hSw; go_simp; try with_reducible rfl)
        simp only [Act.put, List.setIfInBounds_toArray, List.set_cons_succ, List.set_cons_zero]
        refine takeH (i := 5) (oi := _) (v := ?vbL2) 41 #[true, true, true, true, true, true, false, false, false, false] rfl (by kernel_rfl) (by kernel_rfl) (by kernel_rfl) rfl (by kernel_rfl) (fun _ _ _ h => h) (Or.inl ⟨by rfl, ?ybL2⟩) (by assumption) ?rbL2
        case ybL2 => (intro w' hSw; go_simp; try with_reducible rfl)
        simp only [Act.put, List.setIfInBounds_toArray, List.set_cons_succ, List.set_cons_zero]
        refine takeH (i := 6) (oi := _) (v := ?vbL3) 42 #[true, true, true, true, true, true, true, false, false, false] rfl (by kernel_rfl) (by kernel_rfl) (by kernel_rfl) rfl (by kernel_rfl) (fun _ _ _ h => h) (Or.inl ⟨by rfl, ?ybL3⟩) (by assumption) ?rbL3
        case ybL3 => (intro w' hSw; go_simp; try with_reducible rfl)
        simp only [Act.put, List.setIfInBounds_toArray, List.set_cons_succ, List.set_cons_zero]
        refine wpAnyH_ready (rs := [7]) (by kernel_rfl) (by simp) ?_
        refine AllReadyH.cons (o := _) rfl (fun K hK => ?_) AllReadyH.nil
        refine st_alloc31 _ 9 ?_
        intro q6 V6 hq6 hb6 R6
        refine hK.out _ _ (hHeld.next hb6) (fun hHeld => ?_)
        clear hK K
        simp only [Act.put, List.setIfInBounds_toArray, List.set_cons_succ, List.set_cons_zero]
        refine listH (l2 := #[true, true, true, true, true, true, true, true, false, false]) (by kernel_rfl) ?_
        have hz6 := hb6.size
        have lo6 : U8 < q6 := by have := hHeld0.xb.lt; omega
        have hi6 := Nat.le_of_eq hq6.symm
        have lt6 := R6.lt
        clear hq6
        skip
        have ho3 := ho3.next hb6
        refine wpAnyH_ready (rs := [8]) (by kernel_rfl) (by simp) ?_
        refine AllReadyH.cons (o := _) rfl (fun K hK => ?_) AllReadyH.nil
        refine st_store31 _ 9 41 q6 _ _ _ rfl rfl R6 ?_
        intro V7 hB7 g7 hE7
        refine hK.out _ _ (hHeld.but hB7 lo6) (fun hHeld => ?_)
        clear hK K
        refine listH (l2 := #[true, true, true, true, true, true, true, true, true, false]) (by kernel_rfl) ?_
        refine wpAnyH_ready (rs := [9]) (by kernel_rfl) (by simp) ?_
        refine AllReadyH.cons (o := _) rfl (fun K hK => ?_) AllReadyH.nil
        go_simp
        refine hK.out _ _ hHeld (fun hHeld => ?_)
        clear hK K
        try simp only [Act.put]
        refine listH (l2 := #[true, true, true, true, true, true, true, true, true, true]) (by kernel_rfl) ?_
        refine wpAnyH_done (by kernel_rfl) ?_ _
        go_wp2_with fail
        go_meet
        refine ⟨q6, x3, c3, vs3, _, rfl, rfl, hHeld, ⟨g7, ?_, ?_⟩, lt10, lo6, by have := hB7.below.size; omega⟩
        · rw [hE7.out]; exact ⟨_, R6.set 0 _⟩
        · rw [hE7.out]; exact ho3.setBox ⟨_, R6⟩ _
      · refine st_alloc31 _ 9 ?_
        intro q6 V6 hq6 hb6 R6
        refine hK.out _ _ (hHeld.next hb6) (fun hHeld => ?_)
        clear hK K
        simp only [Act.put, List.setIfInBounds_toArray, List.set_cons_succ, List.set_cons_zero]
        refine listH (l2 := #[true, true, true, false, false, false, false, true, false, false]) (by kernel_rfl) ?_
        have hz6 := hb6.size
        have lo6 : U8 < q6 := by have := hHeld0.xb.lt; omega
        have hi6 := Nat.le_of_eq hq6.symm
        have lt6 := R6.lt
        clear hq6
        skip
        refine wpAnyH_ready (rs := [3]) (by kernel_rfl) (by simp) ?_
        refine AllReadyH.cons (o := _) rfl (fun K hK => ?_) AllReadyH.nil
        go_simp
        have lt10 := hHeld.xb.lt
        refine (hIM _ _ b7 tn _ (Nat.le_trans hU0 hHeld.ab.below.size) (HS.below hHeld.ab.below hU0) (by have := hHeld.xb.lt; omega) hHeld.xb.obj).mono ?_
        rintro x W3 hD
        obtain ⟨x3, c3, vs3, rfl, ho3, hb3⟩ := hD.ans
        go_wp2_with fail
        refine hK.out _ _ (hHeld.next hb3) (fun hHeld => ?_)
        clear hK K
        try simp only [Act.put]
        refine listH (l2 := #[true, true, true, true, false, false, false, true, false, false]) (by kernel_rfl) ?_
        have hzhb3 := hb3.size
        have R6 := R6.of_block (hb3.block q6 R6.lt)
        skip
        refine takeH (i := 4) (oi := _) (v := ?vbL4) 36 #[true, true, true, true, true, false, false, true, false, false] rfl (by kernel_rfl) (by kernel_rfl) (by kernel_rfl) rfl (by kernel_rfl) (fun _ _ _ h => h) (Or.inl ⟨by rfl, ?ybL4⟩) (by assumption) ?rbL4
        case ybL4 => (intro w' hSw; go_simp; try with_reducible rfl)
        simp only [Act.put, List.setIfInBounds_toArray, List.set_cons_succ, List.set_cons_zero]
        refine takeH (i := 5) (oi := _) (v := ?vbL5) 41 #[true, true, true, true, true, true, false, true, false, false] rfl (by kernel_rfl) (by kernel_rfl) (by kernel_rfl) rfl (by kernel_rfl) (fun _ _ _ h => h) (Or.inl ⟨by rfl, ?ybL5⟩) (by assumption) ?rbL5
        case ybL5 => (intro w' hSw; go_simp; try with_reducible rfl)
        simp only [Act.put, List.setIfInBounds_toArray, List.set_cons_succ, List.set_cons_zero]
        refine takeH (i := 6) (oi := _) (v := ?vbL6) 42 #[true, true, true, true, true, true, true, true, false, false] rfl (by kernel_rfl) (by kernel_rfl) (by kernel_rfl) rfl (by kernel_rfl) (fun _ _ _ h => h) (Or.inl ⟨by rfl, ?ybL6⟩) (by assumption) ?rbL6
        case ybL6 => (intro w' hSw; go_simp; try with_reducible rfl)
        simp only [Act.put, List.setIfInBounds_toArray, List.set_cons_succ, List.set_cons_zero]
        refine wpAnyH_ready (rs := [8]) (by kernel_rfl) (by simp) ?_
        refine AllReadyH.cons (o := _) rfl (fun K hK => ?_) AllReadyH.nil
        refine st_store31 _ 9 41 q6 _ _ _ rfl rfl R6 ?_
        intro V7 hB7 g7 hE7
        refine hK.out _ _ (hHeld.but hB7 lo6) (fun hHeld => ?_)
        clear hK K
        refine listH (l2 := #[true, true, true, true, true, true, true, true, true, false]) (by kernel_rfl) ?_
        refine wpAnyH_ready (rs := [9]) (by kernel_rfl) (by simp) ?_
        refine AllReadyH.cons (o := _) rfl (fun K hK => ?_) AllReadyH.nil
        go_simp
        refine hK.out _ _ hHeld (fun hHeld => ?_)
        clear hK K
        try simp only [Act.put]
        refine listH (l2 := #[true, true, true, true, true, true, true, true, true, true]) (by kernel_rfl) ?_
        refine wpAnyH_done (by kernel_rfl) ?_ _
        go_wp2_with fail
        go_meet
        refine ⟨q6, x3, c3, vs3, _, rfl, rfl, hHeld, ⟨g7, ?_, ?_⟩, lt10, lo6, by have := hB7.below.size; omega⟩
        · rw [hE7.out]; exact ⟨_, R6.set 0 _⟩
        · rw [hE7.out]; exact ho3.setBox ⟨_, R6⟩ _
    · refine st_alloc31 _ 9 ?_
      intro q6 V6 hq6 hb6 R6
      refine hK.out _ _ (hHeld.next hb6) (fun hHeld => ?_)
      clear hK K
      simp only [Act.put, List.setIfInBounds_toArray, List.set_cons_succ, List.set_cons_zero]
      refine listH (l2 := #[true, true, false, false, false, false, false, true, false, false]) (by kernel_rfl) ?_
      have hz6 := hb6.size
      have lo6 : U8 < q6 := by have := hHeld0.xb.lt; omega
      have hi6 := Nat.le_of_eq hq6.symm
      have lt6 := R6.lt
      clear hq6
      refine wpAnyH_ready (rs := [2]) (by kernel_rfl) (by simp) ?_
      refine AllReadyH.cons (o := _) rfl (fun K hK => ?_) AllReadyH.nil
      go_simp
      refine (hTO _).mono ?_
      rintro x W1 ⟨rfl, hb1⟩
      go_wp2_with fail
      refine hK.out _ _ (hHeld.next hb1) (fun hHeld => ?_)
      clear hK K
      try simp only [Act.put]
      refine listH (l2 := #[true, true, true, false, false, false, false, true, false, false]) (by kernel_rfl) ?_
      have hzhb1 := hb1.size
      have R6 := R6.of_block (hb1.block q6 R6.lt)
      refine wpAnyH_ready (rs := [3]) (by kernel_rfl) (by simp) ?_
      refine AllReadyH.cons (o := _) rfl (fun K hK => ?_) AllReadyH.nil
      go_simp
      have lt10 := hHeld.xb.lt
      refine (hIM _ _ b7 tn _ (Nat.le_trans hU0 hHeld.ab.below.size) (HS.below hHeld.ab.below hU0) (by have := hHeld.xb.lt; omega) hHeld.xb.obj).mono ?_
      rintro x W3 hD
      obtain ⟨x3, c3, vs3, rfl, ho3, hb3⟩ := hD.ans
      go_wp2_with fail
      refine hK.out _ _ (hHeld.next hb3) (fun hHeld => ?_)
      clear hK K
      try simp only [Act.put]
      refine listH (l2 := #[true, true, true, true, false, false, false, true, false, false]) (by kernel_rfl) ?_
      have hzhb3 := hb3.size
      have R6 := R6.of_block (hb3.block q6 R6.lt)
      skip
      refine takeH (i := 4) (oi := _) (v := ?vbL7) 36 #[true, true, true, true, true, false, false, true, false, false] rfl (by kernel_rfl) (by kernel_rfl) (by kernel_rfl) rfl (by kernel_rfl) (fun _ _ _ h => h) (Or.inl ⟨by rfl, ?ybL7⟩) (by assumption) ?rbL7
      case ybL7 => (intro w' hSw; go_simp; try with_reducible rfl)
      simp only [Act.put, List.setIfInBounds_toArray, List.set_cons_succ, List.set_cons_zero]
      refine takeH (i := 5) (oi := _) (v := ?vbL8) 41 #[true, true, true, true, true, true, false, true, false, false] rfl (by kernel_rfl) (by kernel_rfl) (by kernel_rfl) rfl (by kernel_rfl) (fun _ _ _ h => h) (Or.inl ⟨by rfl, ?ybL8⟩) (by assumption) ?rbL8
      case ybL8 => (intro w' hSw; go_simp; try with_reducible rfl)
      simp only [Act.put, List.setIfInBounds_toArray, List.set_cons_succ, List.set_cons_zero]
      refine takeH (i := 6) (oi := _) (v := ?vbL9) 42 #[true, true, true, true, true, true, true, true, false, false] rfl (by kernel_rfl) (by kernel_rfl) (by kernel_rfl) rfl (by kernel_rfl) (fun _ _ _ h => h) (Or.inl ⟨by rfl, ?ybL9⟩) (by assumption) ?rbL9
      case ybL9 => (intro w' hSw; go_simp; try with_reducible rfl)
      simp only [Act.put, List.setIfInBounds_toArray, List.set_cons_succ, List.set_cons_zero]
      refine wpAnyH_ready (rs := [8]) (by kernel_rfl) (by simp) ?_
      refine AllReadyH.cons (o := _) rfl (fun K hK => ?_) AllReadyH.nil
      refine st_store31 _ 9 41 q6 _ _ _ rfl rfl R6 ?_
      intro V7 hB7 g7 hE7
      refine hK.out _ _ (hHeld.but hB7 lo6) (fun hHeld => ?_)
      clear hK K
      refine listH (l2 := #[true, true, true, true, true, true, true, true, true, false]) (by kernel_rfl) ?_
      refine wpAnyH_ready (rs := [9]) (by kernel_rfl) (by simp) ?_
      refine AllReadyH.cons (o := _) rfl (fun K hK => ?_) AllReadyH.nil
      go_simp
      refine hK.out _ _ hHeld (fun hHeld => ?_)
      clear hK K
      try simp only [Act.put]
      refine listH (l2 := #[true, true, true, true, true, true, true, true, true, true]) (by kernel_rfl) ?_
      refine wpAnyH_done (by kernel_rfl) ?_ _
      go_wp2_with fail
      go_meet
      refine ⟨q6, x3, c3, vs3, _, rfl, rfl, hHeld, ⟨g7, ?_, ?_⟩, lt10, lo6, by have := hB7.below.size; omega⟩
      · rw [hE7.out]; exact ⟨_, R6.set 0 _⟩
      · rw [hE7.out]; exact ho3.setBox ⟨_, R6⟩ _
  obtain ⟨g9, x9, c9, vs9, lo9, rfl, rfl, HC9, HG9, hlo9, hg9, hle9⟩ := hcut
  obtain ⟨W9, rfl⟩ : ∃ W9, W9 = wc := ⟨_, rfl⟩
  clear h8d hHeld0 HC
  have y0 := HG9.out.box
  have y1 := HC9.out.tb.box
  have n1 := HC9.out.n1
  have n3 := HC9.out.n3
  go_wp2_with fail
  refine (eqTree_same _ _ _ _ _ _ lo9 _ 0 L8 _ (Nat.le_refl _) HC9.out.tb.le HG9.out.ans.objs HC9.out.tb.obj).mono ?_
  rintro e w11 ⟨rfl, hb11⟩
  have HC11 : Hid (CD w w11 ta tn tc o L8 g6 x6 c6 r.1 L8 U8 b7 os) := HC9.out.next hb11
  have HG11 : Hid (GB w11 lo9 g9 x9 c9 vs9 r.1) := HG9.out.next hb11
  have hle11 := Nat.le_trans hle9 hb11.size
  clear y0 y1 HC9 HG9 hb11 hle9
  go_upto_region 13 with fail
  have hC := HC11.out.next (Below.refl _ _).drew
  have hG := HG11.out.next (Below.refl _ _).drew
  go_cut [56] (fun s wx => s = .bool false ∧ Hid (CD w wx ta tn tc o L8 g6 x6 c6 r.1 L8 U8 b7 os) ∧ Hid (GB wx lo9 g9 x9 c9 vs9 r.1) ∧ lo9 ≤ wx.heap.size)
  case first =>
    have f0 := hC.xb.box
    have f1 := hC.ab.t
    go_region_with (first
      | (go_at_call 49; go_must (refine (toTree_any _ _ _ os 0 w.heap.size _ htn hS1 hC.ab.below.size (H.below hC.ab.below (Nat.le_refl _))).mono ?_; rintro x w12 ⟨⟨b12, rfl, h12⟩, hb12⟩; have hC12 := hC.next hb12; have hG12 := hG.next hb12; have f0' := hC12.xb.box))
      | (go_at_call 51; go_must (refine (eqTree_same _ _ _ _ _ _ L8 U8 _ _ _ (Nat.le_of_lt hC12.xb.lt) (Nat.le_refl _) hC12.xb.obj h12).mono ?_; rintro x w13 ⟨rfl, hb13⟩)))
    all_goals
      go_wp2_with fail
      go_meet
      exact ⟨rfl, hC12.next hb13, hG12.next hb13, by have := hb12.size; have := hb13.size; simp at *; omega⟩
  obtain ⟨rfl, HC13, HG13, hle13⟩ := hcut
  obtain ⟨W13, rfl⟩ : ∃ W13, W13 = wc := ⟨_, rfl⟩
  clear hC hG HC11 HG11 hle11
  have y0 := HC13.out.xb.box
  go_wp2_with fail
  refine (markTree_w 1 _ _ _ L8 U8 os _ (by omega) (by omega) HTN.out HTOT.out (by omega) HC13.out.xb.ty).mono ?_
  rintro e w15 ⟨⟨k15, rfl, hk1, hk2⟩, -, hO⟩
  have HA15 : Hid (AB w w15 ta tn tc o) := HC13.out.ab.under hO.1 (by omega)
  have HT15 : Hid (TB w15 L8 g6 x6 c6 r.1) := HC13.out.tb.under hO.1 (Nat.le_refl _)
  have HG15 : Hid (GB w15 lo9 g9 x9 c9 vs9 r.1) := HG13.out.only hO (by omega) (by omega)
  have hle15 : lo9 ≤ w15.heap.size := Nat.le_trans hle13 hO.1.size
  clear y0 HC13 HG13 hO hle13 hk2
  have y0 := HG15.out.box
  have y1 := HT15.out.box
  have hk15 : ¬ ((k15 : Int) < 0) := by omega
  go_wp2_with fail
  refine (eqTree_same _ _ _ _ _ _ lo9 _ 0 L8 _ (Nat.le_refl _) HT15.out.le HG15.out.ans.objs HT15.out.obj).mono ?_
  rintro e w17 ⟨rfl, hb17⟩
  have HA17 : Hid (AB w w17 ta tn tc o) := HA15.out.next hb17
  have HT17 : Hid (TB w17 L8 g6 x6 c6 r.1) := HT15.out.next hb17
  have HG17 : Hid (GB w17 lo9 g9 x9 c9 vs9 r.1) := HG15.out.next hb17
  have hle17 : lo9 ≤ w17.heap.size := Nat.le_trans hle15 hb17.size
  clear y0 y1 HA15 HT15 HG15 hb17 hle15
  obtain ⟨K, hK⟩ : ∃ K : Nat, K = kAt 1 r.1 r.1.length := ⟨_, rfl⟩
  have HMK := markAns lo9 g9 x9 c9 vs9 r.1
  have HHD := heldAns lo9 x9 c9 vs9 r.1
  rw [← hK] at HMK HHD
  clear hK hk15 hk1
  have y0 := HG17.out.box
  go_wp2_with fail
  refine (HMK _ hle17 HRS.out HG17.out).mono ?_
  rintro e w20 ⟨rfl, hH20, hbx20, hrw20, hb20⟩
  have HA20 : Hid (AB w w20 ta tn tc o) := HA17.out.under hb20 (by omega)
  have HT20 : Hid (TB w20 L8 g6 x6 c6 r.1) := HT17.out.under hb20 (by omega)
  have HH20 : Hid (HeldAt w20 lo9 x9 c9 vs9 r.1 ∧ ∃ f, w20.rowIs g9 25 1 f) := ⟨hH20, hrw20⟩
  clear y0 HA17 HT17 HG17 hb20 hle17 hH20 hrw20
  go_wp2_with fail
  refine (HHD _ HRS.out HH20.out.1).mono ?_
  rintro e w22 ⟨rfl, hb22⟩
  have HA22 : Hid (AB w w22 ta tn tc o) := HA20.out.next hb22
  have HT22 : Hid (TB w22 L8 g6 x6 c6 r.1) := HT20.out.next hb22
  have HH22 : Hid (HeldAt w22 lo9 x9 c9 vs9 r.1) := HH20.out.1.next hb22
  have HX22 : Hid (w22.cell? ⟨g9, 0, none⟩ = some (.slice x9 r.1.length c9) ∧ g9 < w22.heap.size) := by
    obtain ⟨f, hf⟩ := HH20.out.2
    exact ⟨by rw [hb22.cell (by simpa using hf.lt)]; exact hbx20, by have := hf.lt; have := hb22.size; omega⟩
  clear HA20 HT20 HH20 hb22 hbx20
  have hk22 : ¬ ((K : Int) < 0) := by omega
  go_upto_region 27 with fail
  have hf22 : FX w w22 ta tn tc o L8 g6 x6 c6 r.1 lo9 g9 x9 c9 vs9 := ⟨HA22.out, HT22.out, HH22.out, HX22.out.1, HX22.out.2⟩
  have hf27 := hf22.next (Below.refl _ _).drew
  have hHeld0 := hf27
  clear HA22 HT22 HH22 HX22 hf22 HMK hk22 n1 n3 hlo9 hg9
  go_cut [14, 15] (fun p k wx => ∃ g x c vs lo, p = .pointer (some ⟨g, 0, none⟩) ∧ k = .int .i64 r.2 ∧ Hid (FX w wx ta tn tc o L8 g6 x6 c6 r.1 lo9 g9 x9 c9 vs9) ∧ Hid (GB wx lo g x c vs r.1))
  case first =>
    refine wp_region_held_drew (S := (fun W => FX w W ta tn tc o L8 g6 x6 c6 r.1 lo9 g9 x9 c9 vs9)) (by kernel_rfl) ?_ (fun hHeld => ?_)
    · exact hf27
    refine listH (l2 := #[false, false, false, false, false, false, false, false, false, false, false]) (by kernel_rfl) ?_
    refine takeH (i := 0) (oi := _) (v := ?vc0) 85 #[true, false, false, false, false, false, false, false, false, false, false] rfl (by kernel_rfl) (by kernel_rfl) (by kernel_rfl) rfl (by kernel_rfl) (fun _ _ _ h => h) (Or.inl ⟨by rfl, ?yc0⟩) (by assumption) ?rc0
    case yc0 => (intro w' hSw; (try dsimp only at hSw); have x0 := hSw.ab.t; have x1 := hSw.ab.k0; have x2 := hSw.ab.k1; have x3 := hSw.ab.k2; have x4 := hSw.ab.k3; have x5 := hSw.ab.k4; have x6 := hSw.ab.k5; have x7 := hSw.ab.k6; go_simp; try with_reducible rfl)
    simp only [Act.put, List.setIfInBounds_toArray, List.set_cons_succ, List.set_cons_zero]
    refine takeH (i := 2) (oi := _) (v := ?vc2) 87 #[true, false, true, false, false, false, false, false, false, false, false] rfl (by kernel_rfl) (by kernel_rfl) (by kernel_rfl) rfl (by kernel_rfl) (fun _ _ _ h => h) (Or.inl ⟨by rfl, ?yc2⟩) (by assumption) ?rc2
    case yc2 => (intro w' hSw; (try dsimp only at hSw); have x0 := hSw.ab.t; have x1 := hSw.ab.k0; have x2 := hSw.ab.k1; have x3 := hSw.ab.k2; have x4 := hSw.ab.k3; have x5 := hSw.ab.k4; have x6 := hSw.ab.k5; have x7 := hSw.ab.k6; go_simp; try with_reducible rfl)
    simp only [Act.put, List.setIfInBounds_toArray, List.set_cons_succ, List.set_cons_zero]
    refine wpAnyH_ready (rs := [1, 8]) (by kernel_rfl) (by simp) ?_
    refine AllReadyH.cons (o := _) rfl (fun K hK => ?_) (AllReadyH.cons (o := _) rfl (fun K hK => ?_) AllReadyH.nil)
    · go_simp
      refine (toTree_any _ _ _ os 0 w.heap.size _ htn hS1 hHeld.ab.below.size (H.below hHeld.ab.below (Nat.le_refl _))).mono ?_
      rintro x W1 ⟨⟨b1, rfl, ho1⟩, hb1⟩
      go_wp2_with fail
      refine hK.out _ _ (hHeld.next hb1) (fun hHeld => ?_)
      clear hK K
      try simp only [Act.put]
      refine listH (l2 := #[true, true, true, false, false, false, false, false, false, false, false]) (by kernel_rfl) ?_
      have hzhb1 := hb1.size
      refine wpAnyH_ready (rs := [3, 8]) (by kernel_rfl) (by simp) ?_
      refine AllReadyH.cons (o := _) rfl (fun K hK => ?_) (AllReadyH.cons (o := _) rfl (fun K hK => ?_) AllReadyH.nil)
      · go_simp
        refine (hTO _).mono ?_
        rintro x W2 ⟨rfl, hb2⟩
        go_wp2_with fail
        refine hK.out _ _ (hHeld.next hb2) (fun hHeld => ?_)
        clear hK K
        try simp only [Act.put]
        refine listH (l2 := #[true, true, true, true, false, false, false, false, false, false, false]) (by kernel_rfl) ?_
        have hzhb2 := hb2.size
        have ho1 := ho1.below hb2 (by omega)
        refine wpAnyH_ready (rs := [4, 8]) (by kernel_rfl) (by simp) ?_
        refine AllReadyH.cons (o := _) rfl (fun K hK => ?_) (AllReadyH.cons (o := _) rfl (fun K hK => ?_) AllReadyH.nil)
        · go_simp
          refine (hIM _ _ b1 tn _ (Nat.le_trans hU0 hHeld.ab.below.size) (HS.below hHeld.ab.below hU0) (by omega) ho1).mono ?_
          rintro x W3 hD
          obtain ⟨x3, c3, vs3, rfl, ho3, hb3⟩ := hD.ans
          go_wp2_with fail
          refine hK.out _ _ (hHeld.next hb3) (fun hHeld => ?_)
          clear hK K
          try simp only [Act.put]
          refine listH (l2 := #[true, true, true, true, true, false, false, false, false, false, false]) (by kernel_rfl) ?_
          have hzhb3 := hb3.size
          have ho1 := ho1.below hb3 (by omega)
          skip
          refine takeH (i := 5) (oi := _) (v := ?vcL1) 84 #[true, true, true, true, true, true, false, false, false, false, false] rfl (by kernel_rfl) (by kernel_rfl) (by kernel_rfl) rfl (by kernel_rfl) (fun _ _ _ h => h) (Or.inl ⟨by rfl, ?ycL1⟩) (by assumption) ?rcL1
          case ycL1 => (intro w' hSw; go_simp; try with_reducible rfl)
          simp only [Act.put, List.setIfInBounds_toArray, List.set_cons_succ, List.set_cons_zero]
          refine takeH (i := 6) (oi := _) (v := ?vcL2) 90 #[true, true, true, true, true, true, true, false, false, false, false] rfl (by kernel_rfl) (by kernel_rfl) (by kernel_rfl) rfl (by kernel_rfl) (fun _ _ _ h => h) (Or.inl ⟨by rfl, ?ycL2⟩) (by assumption) ?rcL2
          case ycL2 => (intro w' hSw; go_simp; try with_reducible rfl)
          simp only [Act.put, List.setIfInBounds_toArray, List.set_cons_succ, List.set_cons_zero]
          refine takeH (i := 7) (oi := _) (v := ?vcL3) 91 #[true, true, true, true, true, true, true, true, false, false, false] rfl (by kernel_rfl) (by kernel_rfl) (by kernel_rfl) rfl (by kernel_rfl) (fun _ _ _ h => h) (Or.inl ⟨by rfl, ?ycL3⟩) (by assumption) ?rcL3
          case ycL3 => (intro w' hSw; go_simp; try with_reducible rfl)
          simp only [Act.put, List.setIfInBounds_toArray, List.set_cons_succ, List.set_cons_zero]
          refine wpAnyH_ready (rs := [8]) (by kernel_rfl) (by simp) ?_
          refine AllReadyH.cons (o := _) rfl (fun K hK => ?_) AllReadyH.nil
          refine st_alloc31 _ 14 ?_
          intro q6 V6 hq6 hb6 R6
          refine hK.out _ _ (hHeld.next hb6) (fun hHeld => ?_)
          clear hK K
          simp only [Act.put, List.setIfInBounds_toArray, List.set_cons_succ, List.set_cons_zero]
          refine listH (l2 := #[true, true, true, true, true, true, true, true, true, false, false]) (by kernel_rfl) ?_
          have hz6 := hb6.size
          have lo6 : g9 < q6 ∧ L8 ≤ q6 ∧ w.heap.size + 1 < q6 := by have := hHeld0.lt; have := hHeld0.tb.le; have := hHeld0.ab.sz; omega
          have hi6 := Nat.le_of_eq hq6.symm
          have lt6 := R6.lt
          clear hq6
          have ho1 := ho1.below hb6 (by omega)
          skip
          have ho3 := ho3.next hb6
          refine wpAnyH_ready (rs := [9]) (by kernel_rfl) (by simp) ?_
          refine AllReadyH.cons (o := _) rfl (fun K hK => ?_) AllReadyH.nil
          refine st_store31 _ 14 90 q6 _ _ _ rfl rfl R6 ?_
          intro V7 hB7 g7 hE7
          refine hK.out _ _ (hHeld.put R6 hB7 hE7.out lo6) (fun hHeld => ?_)
          clear hK K
          refine listH (l2 := #[true, true, true, true, true, true, true, true, true, true, false]) (by kernel_rfl) ?_
          refine wpAnyH_ready (rs := [10]) (by kernel_rfl) (by simp) ?_
          refine AllReadyH.cons (o := _) rfl (fun K hK => ?_) AllReadyH.nil
          go_simp
          refine hK.out _ _ hHeld (fun hHeld => ?_)
          clear hK K
          try simp only [Act.put]
          refine listH (l2 := #[true, true, true, true, true, true, true, true, true, true, true]) (by kernel_rfl) ?_
          refine wpAnyH_done (by kernel_rfl) ?_ _
          go_wp2_with fail
          go_meet
          have ho7 := ho3.setBox ⟨_, R6⟩ (.slice x3 r.1.length c3)
          rw [← hE7.out] at ho7
          have hr7 : ∃ f, V7.rowIs q6 25 1 f := by rw [hE7.out]; exact ⟨_, R6.set 0 _⟩
          exact ⟨q6, x3, c3, vs3, _, rfl, rfl, hHeld, ⟨g7, hr7, ho7⟩⟩
        · refine st_alloc31 _ 14 ?_
          intro q6 V6 hq6 hb6 R6
          refine hK.out _ _ (hHeld.next hb6) (fun hHeld => ?_)
          clear hK K
          simp only [Act.put, List.setIfInBounds_toArray, List.set_cons_succ, List.set_cons_zero]
          refine listH (l2 := #[true, true, true, true, false, false, false, false, true, false, false]) (by kernel_rfl) ?_
          have hz6 := hb6.size
          have lo6 : g9 < q6 ∧ L8 ≤ q6 ∧ w.heap.size + 1 < q6 := by have := hHeld0.lt; have := hHeld0.tb.le; have := hHeld0.ab.sz; omega
          have hi6 := Nat.le_of_eq hq6.symm
          have lt6 := R6.lt
          clear hq6
          have ho1 := ho1.below hb6 (by omega)
          skip
          refine wpAnyH_ready (rs := [4]) (by kernel_rfl) (by simp) ?_
          refine AllReadyH.cons (o := _) rfl (fun K hK => ?_) AllReadyH.nil
          go_simp
          refine (hIM _ _ b1 tn _ (Nat.le_trans hU0 hHeld.ab.below.size) (HS.below hHeld.ab.below hU0) (by omega) ho1).mono ?_
          rintro x W3 hD
          obtain ⟨x3, c3, vs3, rfl, ho3, hb3⟩ := hD.ans
          go_wp2_with fail
          refine hK.out _ _ (hHeld.next hb3) (fun hHeld => ?_)
          clear hK K
          try simp only [Act.put]
          refine listH (l2 := #[true, true, true, true, true, false, false, false, true, false, false]) (by kernel_rfl) ?_
          have hzhb3 := hb3.size
          have R6 := R6.of_block (hb3.block q6 R6.lt)
          have ho1 := ho1.below hb3 (by omega)
          skip
          refine takeH (i := 5) (oi := _) (v := ?vcL4) 84 #[true, true, true, true, true, true, false, false, true, false, false] rfl (by kernel_rfl) (by kernel_rfl) (by kernel_rfl) rfl (by kernel_rfl) (fun _ _ _ h => h) (Or.inl ⟨by rfl, ?ycL4⟩) (by assumption) ?rcL4
          case ycL4 => (intro w' hSw; go_simp; try with_reducible rfl)
          simp only [Act.put, List.setIfInBounds_toArray, List.set_cons_succ, List.set_cons_zero]
          refine takeH (i := 6) (oi := _) (v := ?vcL5) 90 #[true, true, true, true, true, true, true, false, true, false, false] rfl (by kernel_rfl) (by kernel_rfl) (by kernel_rfl) rfl (by kernel_rfl) (fun _ _ _ h => h) (Or.inl ⟨by rfl, ?ycL5⟩) (by assumption) ?rcL5
          case ycL5 => (intro w' hSw; go_simp; try with_reducible rfl)
          simp only [Act.put, List.setIfInBounds_toArray, List.set_cons_succ, List.set_cons_zero]
          refine takeH (i := 7) (oi := _) (v := ?vcL6) 91 #[true, true, true, true, true, true, true, true, true, false, false] rfl (by kernel_rfl) (by kernel_rfl) (by kernel_rfl) rfl (by kernel_rfl) (fun _ _ _ h => h) (Or.inl ⟨by rfl, ?ycL6⟩) (by assumption) ?rcL6
          case ycL6 => (intro w' hSw; go_simp; try with_reducible rfl)
          simp only [Act.put, List.setIfInBounds_toArray, List.set_cons_succ, List.set_cons_zero]
          refine wpAnyH_ready (rs := [9]) (by kernel_rfl) (by simp) ?_
          refine AllReadyH.cons (o := _) rfl (fun K hK => ?_) AllReadyH.nil
          refine st_store31 _ 14 90 q6 _ _ _ rfl rfl R6 ?_
          intro V7 hB7 g7 hE7
          refine hK.out _ _ (hHeld.put R6 hB7 hE7.out lo6) (fun hHeld => ?_)
          clear hK K
          refine listH (l2 := #[true, true, true, true, true, true, true, true, true, true, false]) (by kernel_rfl) ?_
          refine wpAnyH_ready (rs := [10]) (by kernel_rfl) (by simp) ?_
          refine AllReadyH.cons (o := _) rfl (fun K hK => ?_) AllReadyH.nil
          go_simp
          refine hK.out _ _ hHeld (fun hHeld => ?_)
          clear hK K
          try simp only [Act.put]
          refine listH (l2 := #[true, true, true, true, true, true, true, true, true, true, true]) (by kernel_rfl) ?_
          refine wpAnyH_done (by kernel_rfl) ?_ _
          go_wp2_with fail
          go_meet
          have ho7 := ho3.setBox ⟨_, R6⟩ (.slice x3 r.1.length c3)
          rw [← hE7.out] at ho7
          have hr7 : ∃ f, V7.rowIs q6 25 1 f := by rw [hE7.out]; exact ⟨_, R6.set 0 _⟩
          exact ⟨q6, x3, c3, vs3, _, rfl, rfl, hHeld, ⟨g7, hr7, ho7⟩⟩
      · refine st_alloc31 _ 14 ?_
        intro q6 V6 hq6 hb6 R6
        refine hK.out _ _ (hHeld.next hb6) (fun hHeld => ?_)
        clear hK K
        simp only [Act.put, List.setIfInBounds_toArray, List.set_cons_succ, List.set_cons_zero]
        refine listH (l2 := #[true, true, true, false, false, false, false, false, true, false, false]) (by kernel_rfl) ?_
        have hz6 := hb6.size
        have lo6 : g9 < q6 ∧ L8 ≤ q6 ∧ w.heap.size + 1 < q6 := by have := hHeld0.lt; have := hHeld0.tb.le; have := hHeld0.ab.sz; omega
        have hi6 := Nat.le_of_eq hq6.symm
        have lt6 := R6.lt
        clear hq6
        have ho1 := ho1.below hb6 (by omega)
        refine wpAnyH_ready (rs := [3]) (by kernel_rfl) (by simp) ?_
        refine AllReadyH.cons (o := _) rfl (fun K hK => ?_) AllReadyH.nil
        go_simp
        refine (hTO _).mono ?_
        rintro x W2 ⟨rfl, hb2⟩
        go_wp2_with fail
        refine hK.out _ _ (hHeld.next hb2) (fun hHeld => ?_)
        clear hK K
        try simp only [Act.put]
        refine listH (l2 := #[true, true, true, true, false, false, false, false, true, false, false]) (by kernel_rfl) ?_
        have hzhb2 := hb2.size
        have R6 := R6.of_block (hb2.block q6 R6.lt)
        have ho1 := ho1.below hb2 (by omega)
        refine wpAnyH_ready (rs := [4]) (by kernel_rfl) (by simp) ?_
        refine AllReadyH.cons (o := _) rfl (fun K hK => ?_) AllReadyH.nil
        go_simp
        refine (hIM _ _ b1 tn _ (Nat.le_trans hU0 hHeld.ab.below.size) (HS.below hHeld.ab.below hU0) (by omega) ho1).mono ?_
        rintro x W3 hD
        obtain ⟨x3, c3, vs3, rfl, ho3, hb3⟩ := hD.ans
        go_wp2_with fail
        refine hK.out _ _ (hHeld.next hb3) (fun hHeld => ?_)
        clear hK K
        try simp only [Act.put]
        refine listH (l2 := #[true, true, true, true, true, false, false, false, true, false, false]) (by kernel_rfl) ?_
        have hzhb3 := hb3.size
        have R6 := R6.of_block (hb3.block q6 R6.lt)
        have ho1 := ho1.below hb3 (by omega)
        skip
        refine takeH (i := 5) (oi := _) (v := ?vcL7) 84 #[true, true, true, true, true, true, false, false, true, false, false] rfl (by kernel_rfl) (by kernel_rfl) (by kernel_rfl) rfl (by kernel_rfl) (fun _ _ _ h => h) (Or.inl ⟨by rfl, ?ycL7⟩) (by assumption) ?rcL7
        case ycL7 => (intro w' hSw; go_simp; try with_reducible rfl)
        simp only [Act.put, List.setIfInBounds_toArray, List.set_cons_succ, List.set_cons_zero]
        refine takeH (i := 6) (oi := _) (v := ?vcL8) 90 #[true, true, true, true, true, true, true, false, true, false, false] rfl (by kernel_rfl) (by kernel_rfl) (by kernel_rfl) rfl (by kernel_rfl) (fun _ _ _ h => h) (Or.inl ⟨by rfl, ?ycL8⟩) (by assumption) ?rcL8
        case ycL8 => (intro w' hSw; go_simp; try with_reducible rfl)
        simp only [Act.put, List.setIfInBounds_toArray, List.set_cons_succ, List.set_cons_zero]
        refine takeH (i := 7) (oi := _) (v := ?vcL9) 91 #[true, true, true, true, true, true, true, true, true, false, false] rfl (by kernel_rfl) (by kernel_rfl) (by kernel_rfl) rfl (by kernel_rfl) (fun _ _ _ h => h) (Or.inl ⟨by rfl, ?ycL9⟩) (by assumption) ?rcL9
        case ycL9 => (intro w' hSw; go_simp; try with_reducible rfl)
        simp only [Act.put, List.setIfInBounds_toArray, List.set_cons_succ, List.set_cons_zero]
        refine wpAnyH_ready (rs := [9]) (by kernel_rfl) (by simp) ?_
        refine AllReadyH.cons (o := _) rfl (fun K hK => ?_) AllReadyH.nil
        refine st_store31 _ 14 90 q6 _ _ _ rfl rfl R6 ?_
        intro V7 hB7 g7 hE7
        refine hK.out _ _ (hHeld.put R6 hB7 hE7.out lo6) (fun hHeld => ?_)
        clear hK K
        refine listH (l2 := #[true, true, true, true, true, true, true, true, true, true, false]) (by kernel_rfl) ?_
        refine wpAnyH_ready (rs := [10]) (by kernel_rfl) (by simp) ?_
        refine AllReadyH.cons (o := _) rfl (fun K hK => ?_) AllReadyH.nil
        go_simp
        refine hK.out _ _ hHeld (fun hHeld => ?_)
        clear hK K
        try simp only [Act.put]
        refine listH (l2 := #[true, true, true, true, true, true, true, true, true, true, true]) (by kernel_rfl) ?_
        refine wpAnyH_done (by kernel_rfl) ?_ _
        go_wp2_with fail
        go_meet
        have ho7 := ho3.setBox ⟨_, R6⟩ (.slice x3 r.1.length c3)
        rw [← hE7.out] at ho7
        have hr7 : ∃ f, V7.rowIs q6 25 1 f := by rw [hE7.out]; exact ⟨_, R6.set 0 _⟩
        exact ⟨q6, x3, c3, vs3, _, rfl, rfl, hHeld, ⟨g7, hr7, ho7⟩⟩
    · refine st_alloc31 _ 14 ?_
      intro q6 V6 hq6 hb6 R6
      refine hK.out _ _ (hHeld.next hb6) (fun hHeld => ?_)
      clear hK K
      simp only [Act.put, List.setIfInBounds_toArray, List.set_cons_succ, List.set_cons_zero]
      refine listH (l2 := #[true, false, true, false, false, false, false, false, true, false, false]) (by kernel_rfl) ?_
      have hz6 := hb6.size
      have lo6 : g9 < q6 ∧ L8 ≤ q6 ∧ w.heap.size + 1 < q6 := by have := hHeld0.lt; have := hHeld0.tb.le; have := hHeld0.ab.sz; omega
      have hi6 := Nat.le_of_eq hq6.symm
      have lt6 := R6.lt
      clear hq6
      refine wpAnyH_ready (rs := [1]) (by kernel_rfl) (by simp) ?_
      refine AllReadyH.cons (o := _) rfl (fun K hK => ?_) AllReadyH.nil
      go_simp
      refine (toTree_any _ _ _ os 0 w.heap.size _ htn hS1 hHeld.ab.below.size (H.below hHeld.ab.below (Nat.le_refl _))).mono ?_
      rintro x W1 ⟨⟨b1, rfl, ho1⟩, hb1⟩
      go_wp2_with fail
      refine hK.out _ _ (hHeld.next hb1) (fun hHeld => ?_)
      clear hK K
      try simp only [Act.put]
      refine listH (l2 := #[true, true, true, false, false, false, false, false, true, false, false]) (by kernel_rfl) ?_
      have hzhb1 := hb1.size
      have R6 := R6.of_block (hb1.block q6 R6.lt)
      refine wpAnyH_ready (rs := [3]) (by kernel_rfl) (by simp) ?_
      refine AllReadyH.cons (o := _) rfl (fun K hK => ?_) AllReadyH.nil
      go_simp
      refine (hTO _).mono ?_
      rintro x W2 ⟨rfl, hb2⟩
      go_wp2_with fail
      refine hK.out _ _ (hHeld.next hb2) (fun hHeld => ?_)
      clear hK K
      try simp only [Act.put]
      refine listH (l2 := #[true, true, true, true, false, false, false, false, true, false, false]) (by kernel_rfl) ?_
      have hzhb2 := hb2.size
      have R6 := R6.of_block (hb2.block q6 R6.lt)
      have ho1 := ho1.below hb2 (by omega)
      refine wpAnyH_ready (rs := [4]) (by kernel_rfl) (by simp) ?_
      refine AllReadyH.cons (o := _) rfl (fun K hK => ?_) AllReadyH.nil
      go_simp
      refine (hIM _ _ b1 tn _ (Nat.le_trans hU0 hHeld.ab.below.size) (HS.below hHeld.ab.below hU0) (by omega) ho1).mono ?_
      rintro x W3 hD
      obtain ⟨x3, c3, vs3, rfl, ho3, hb3⟩ := hD.ans
      go_wp2_with fail
      refine hK.out _ _ (hHeld.next hb3) (fun hHeld => ?_)
      clear hK K
      try simp only [Act.put]
      refine listH (l2 := #[true, true, true, true, true, false, false, false, true, false, false]) (by kernel_rfl) ?_
      have hzhb3 := hb3.size
      have R6 := R6.of_block (hb3.block q6 R6.lt)
      have ho1 := ho1.below hb3 (by omega)
      skip
      refine takeH (i := 5) (oi := _) (v := ?vcL10) 84 #[true, true, true, true, true, true, false, false, true, false, false] rfl (by kernel_rfl) (by kernel_rfl) (by kernel_rfl) rfl (by kernel_rfl) (fun _ _ _ h => h) (Or.inl ⟨by rfl, ?ycL10⟩) (by assumption) ?rcL10
      case ycL10 => (intro w' hSw; go_simp; try with_reducible rfl)
      simp only [Act.put, List.setIfInBounds_toArray, List.set_cons_succ, List.set_cons_zero]
      refine takeH (i := 6) (oi := _) (v := ?vcL11) 90 #[true, true, true, true, true, true, true, false, true, false, false] rfl (by kernel_rfl) (by kernel_rfl) (by kernel_rfl) rfl (by kernel_rfl) (fun _ _ _ h => h) (Or.inl ⟨by rfl, ?ycL11⟩) (by assumption) ?rcL11
      case ycL11 => (intro w' hSw; go_simp; try with_reducible rfl)
      simp only [Act.put, List.setIfInBounds_toArray, List.set_cons_succ, List.set_cons_zero]
      refine takeH (i := 7) (oi := _) (v := ?vcL12) 91 #[true, true, true, true, true, true, true, true, true, false, false] rfl (by kernel_rfl) (by kernel_rfl) (by kernel_rfl) rfl (by kernel_rfl) (fun _ _ _ h => h) (Or.inl ⟨by rfl, ?ycL12⟩) (by assumption) ?rcL12
      case ycL12 => (intro w' hSw; go_simp; try with_reducible rfl)
      simp only [Act.put, List.setIfInBounds_toArray, List.set_cons_succ, List.set_cons_zero]
      refine wpAnyH_ready (rs := [9]) (by kernel_rfl) (by simp) ?_
      refine AllReadyH.cons (o := _) rfl (fun K hK => ?_) AllReadyH.nil
      refine st_store31 _ 14 90 q6 _ _ _ rfl rfl R6 ?_
      intro V7 hB7 g7 hE7
      refine hK.out _ _ (hHeld.put R6 hB7 hE7.out lo6) (fun hHeld => ?_)
      clear hK K
      refine listH (l2 := #[true, true, true, true, true, true, true, true, true, true, false]) (by kernel_rfl) ?_
      refine wpAnyH_ready (rs := [10]) (by kernel_rfl) (by simp) ?_
      refine AllReadyH.cons (o := _) rfl (fun K hK => ?_) AllReadyH.nil
      go_simp
      refine hK.out _ _ hHeld (fun hHeld => ?_)
      clear hK K
      try simp only [Act.put]
      refine listH (l2 := #[true, true, true, true, true, true, true, true, true, true, true]) (by kernel_rfl) ?_
      refine wpAnyH_done (by kernel_rfl) ?_ _
      go_wp2_with fail
      go_meet
      have ho7 := ho3.setBox ⟨_, R6⟩ (.slice x3 r.1.length c3)
      rw [← hE7.out] at ho7
      have hr7 : ∃ f, V7.rowIs q6 25 1 f := by rw [hE7.out]; exact ⟨_, R6.set 0 _⟩
      exact ⟨q6, x3, c3, vs3, _, rfl, rfl, hHeld, ⟨g7, hr7, ho7⟩⟩
  obtain ⟨g14, x14, c14, vs14, lo14, rfl, rfl, HF27, HG27⟩ := hcut
  obtain ⟨W27, rfl⟩ : ∃ W27, W27 = wc := ⟨_, rfl⟩
  clear hf27 hHeld0
  have y0 := HG27.out.box
  have y1 := HF27.out.tb.box
  go_wp2_with fail
  refine (eqTree_same _ _ _ _ _ _ lo14 _ 0 L8 _ (Nat.le_refl _) HF27.out.tb.le HG27.out.ans.objs HF27.out.tb.obj).mono ?_
  rintro e w28 ⟨rfl, hb28⟩
  have HF28 : Hid (FX w w28 ta tn tc o L8 g6 x6 c6 r.1 lo9 g9 x9 c9 vs9) := HF27.out.next hb28
  clear y0 y1 HF27 HG27 hb28
  have y0 := HF28.out.bx
  go_wp2_with fail
  refine (HHD _ HRS.out HF28.out.hh).mono ?_
  rintro e w31 ⟨rfl, hb31⟩
  have HF31 : Hid (FX w w31 ta tn tc o L8 g6 x6 c6 r.1 lo9 g9 x9 c9 vs9) := HF28.out.next hb31
  clear y0 HF28 hb31
  go_wp2_with fail
  go_ret
  exact ⟨rfl, HF31.out.ab.below⟩
end Go.Proofs.YtnolbfijcnldjaaGreatDoor
