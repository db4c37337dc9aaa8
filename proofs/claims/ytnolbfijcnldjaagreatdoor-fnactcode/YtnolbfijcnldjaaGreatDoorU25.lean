/- Lemmas that the proofs of this seat share: DrawAct. -/
import Derived.Test.YtnolbfijcnldjaaGreatDoorU16
import Derived.Test.YtnolbfijcnldjaaGreatDoorU14
import Derived.Test.YtnolbfijcnldjaaGreatDoorU24
import Derived.Deep.RegionWith
import Derived.RowKitTokens
/- What a code draws: a tree and something to be done (DrawActDo). -/
namespace Go.Proofs.YtnolbfijcnldjaaGreatDoor
open Go.RowKit

/-- What a code draws: a tree that is small, and something short. -/
structure DrawnAct (w w' : World) (b n : Nat) (os : List LObj) (o : LOp) : Prop where
  at_ : ObjsAt w' w.heap.size w'.heap.size (some ⟨b, 0, none⟩) n os
  le : n ≤ 32
  bn : Bn os
  op : OpB o
def DrawActEnd (w : World) (e : Ending) (w' : World) : Prop := (∃ b n c os o, e = .returned (.tuple #[.agg #[.slice (some ⟨b, 0, none⟩) n c], .agg o.val]) ∧ DrawnAct w w' b n os o) ∧ Below w.heap.size w w'
/-- The boxes of the answer, the box of the tree that was drawn first. -/
structure DA (w W : World) (T b c : Nat) : Prop where
  below : Below w.heap.size w W
  r1 : W.rowIs w.heap.size 25 1 (zrow #[.slice none 0 0])
  r2 : W.rowIs (w.heap.size + 1) 27 7 (zrow #[.int .i64 0, .int .i64 0, .string ⟨#[]⟩, .int .i64 0, .string ⟨#[]⟩, .int .i64 0, .string ⟨#[]⟩])
  rlt2 : w.heap.size + 1 + 1 < W.heap.size
  t : W.cell? ⟨T, 0, none⟩ = some (.slice (some ⟨b, 0, none⟩) 32 c)
  tlo : w.heap.size + 1 + 1 < T
  tlt : T < W.heap.size
theorem DA.but {w W W' : World} {T b c : Nat} (h : DA w W T b c) (hb : But (w.heap.size + 1 + 1) W W') : DA w W' T b c :=
  ⟨h.below.trans (hb.below.mono (by omega)), h.r1.of_block (hb.block _ (by omega) (by have := h.rlt2; omega)), h.r2.of_block (hb.block _ (by omega) (by have := h.rlt2; omega)), by have := hb.below.size; have := h.rlt2; omega,
    by rw [hb.cell (by have := h.tlo; simp; omega) (by simpa using h.tlt)]; exact h.t, h.tlo, by have := hb.below.size; have := h.tlt; omega⟩

theorem DA.next {w W W' : World} {T b c : Nat} (h : DA w W T b c) (hb : Below W.heap.size W W') : DA w W' T b c :=
  ⟨h.below.trans (hb.mono h.below.size), h.r1.of_block (hb.block _ (by have := h.rlt2; omega)), h.r2.of_block (hb.block _ (by have := h.rlt2; omega)), by have := hb.size; have := h.rlt2; omega,
    by rw [hb.cell (by simpa using h.tlt)]; exact h.t, h.tlo, by have := hb.size; have := h.tlt; omega⟩
theorem opb_sz {o : LOp} (h : OpB o) : OpSz o := ⟨Nat.le_trans h.1 (by simp [maxLen]), Nat.le_trans h.2.1 (by simp [maxLen]), Nat.le_trans h.2.2 (by simp [maxLen])⟩

set_option maxHeartbeats 4000000 in
set_option maxRecDepth 20000 in
theorem drawAct (a : Option Addr) (n c : Nat) (zs : List Int) (w : World) (hn : n ≤ 1048576) (hc : n ≤ c) (H : BytesAt w w.heap.size a n zs) :
    Calls Tryz.prog 17 #[.slice a n c] w fun e w' => DrawActEnd w e w' := by
  obtain ⟨W0, hW0⟩ : ∃ W0, W0 = ((w.alloc (Obj.cells #[.slice none 0 0] 25)).alloc (Obj.cells #[.int .i64 0, .int .i64 0, .string ⟨#[]⟩, .int .i64 0, .string ⟨#[]⟩, .int .i64 0, .string ⟨#[]⟩] 27)) := ⟨_, rfl⟩
  have hA : Below w.heap.size w W0 := by rw [hW0]; exact ((Below.refl _ _).alloc (Nat.le_refl _) _).alloc (by simp) _
  have hs0 : W0.heap.size = w.heap.size + 1 + 1 := by rw [hW0]; simp
  have h1 : W0.rowIs w.heap.size 25 1 (zrow #[.slice none 0 0]) := by
    rw [hW0]
    exact World.rowIs.alloc (zrow_new w #[.slice none 0 0] 25) _
  have h2 : W0.rowIs (w.heap.size + 1) 27 7 (zrow #[.int .i64 0, .int .i64 0, .string ⟨#[]⟩, .int .i64 0, .string ⟨#[]⟩, .int .i64 0, .string ⟨#[]⟩]) := by
    rw [hW0]
    have := zrow_new (w.alloc (Obj.cells #[.slice none 0 0] 25)) #[.int .i64 0, .int .i64 0, .string ⟨#[]⟩, .int .i64 0, .string ⟨#[]⟩, .int .i64 0, .string ⟨#[]⟩] 27
    simpa using this
  have HBY : Hid (BytesAt W0 (w.heap.size + 1 + 1) a n zs) := (H.below hA (Nat.le_refl _)).wide (by omega)
  have HH : Hid (Below w.heap.size w W0 ∧ W0.rowIs w.heap.size 25 1 (zrow #[.slice none 0 0]) ∧ W0.rowIs (w.heap.size + 1) 27 7 (zrow #[.int .i64 0, .int .i64 0, .string ⟨#[]⟩, .int .i64 0, .string ⟨#[]⟩, .int .i64 0, .string ⟨#[]⟩])) := ⟨hA, h1, h2⟩
  clear h1 h2 hA H
  go_enter Tryz.func17, Tryz.ntmps17
  go_wp2_with fail
  rw [← hW0]
  clear hW0
  refine (open16 a n c zs (w.heap.size + 1 + 1) W0 hn hc HBY.out).mono ?_
  rintro e W1 ⟨m, c', ys, rfl, hm, hm0, hB, rfl⟩
  rw [hs0]
  have R0 : RdTo (W0.alloc (.cells #[.slice a m c', .int .i64 0] 135)) (w.heap.size + 1 + 1) 0 := ⟨0, Nat.le_refl _, by have := rd_start (c := c') hm (by omega) hB; rw [hs0] at this; exact this⟩
  have hal : Below W0.heap.size W0 (W0.alloc (.cells #[.slice a m c', .int .i64 0] 135)) := (Below.refl _ _).alloc (Nat.le_refl _) _
  have hsz : (W0.alloc (.cells #[.slice a m c', .int .i64 0] 135)).heap.size = w.heap.size + 1 + 1 + 1 := by simp [hs0]
  generalize W0.alloc (.cells #[.slice a m c', .int .i64 0] 135) = W1 at *
  go_wp2_with fail
  refine (tree_any (w.heap.size + 1 + 1) 0 W1 (by omega) (by omega) R0).mono ?_
  rintro e W2 ⟨b, c1, os, vs, rfl, hT, hlen, HSM, hr2, hb2⟩
  have hO2 : ObjsAt W2 W1.heap.size W2.heap.size (some ⟨b, 0, none⟩) 32 os := by
    have h9 := hT.to_objs
    rwa [hlen] at h9
  have hz2 := hb2.below.size
  have hB2 : Below w.heap.size w W2 := HH.out.1.trans ((hal.mono (by omega)).trans (hb2.below.mono (by omega)))
  have k1 : W2.rowIs w.heap.size 25 1 (zrow #[.slice none 0 0]) := (HH.out.2.1.of_block (hal.block _ (by omega))).of_block (hb2.block _ (by omega) (by omega))
  have k2 : W2.rowIs (w.heap.size + 1) 27 7 (zrow #[.int .i64 0, .int .i64 0, .string ⟨#[]⟩, .int .i64 0, .string ⟨#[]⟩, .int .i64 0, .string ⟨#[]⟩]) := (HH.out.2.2.of_block (hal.block _ (by omega))).of_block (hb2.block _ (by omega) (by omega))
  have hal2 : Below W2.heap.size W2 (W2.alloc (.cells #[.slice (some ⟨b, 0, none⟩) 32 c1] 25)) := (Below.refl _ _).alloc (Nat.le_refl _) _
  have SH : Hid (DA w (W2.alloc (.cells #[.slice (some ⟨b, 0, none⟩) 32 c1] 25)) W2.heap.size b c1) :=
    ⟨hB2.trans (hal2.mono hB2.size), k1.of_block (hal2.block _ (by omega)), k2.of_block (hal2.block _ (by omega)), by simp; omega, by simp [go_sem], by omega, by simp⟩
  have hr3 : RdTo (W2.alloc (.cells #[.slice (some ⟨b, 0, none⟩) 32 c1] 25)) (w.heap.size + 1 + 1) 150 := hr2.but hal2 (by omega)
  have HO3 : Hid (ObjsAt (W2.alloc (.cells #[.slice (some ⟨b, 0, none⟩) 32 c1] 25)) W1.heap.size W2.heap.size (some ⟨b, 0, none⟩) 32 os) := hO2.below hal2 (Nat.le_refl _)
  have hL1 : w.heap.size + 1 + 1 < W1.heap.size := by omega
  have hU1 : W2.heap.size ≤ (W2.alloc (.cells #[.slice (some ⟨b, 0, none⟩) 32 c1] 25)).heap.size := by simp
  clear hT hlen hr2 hb2 hO2 hB2 k1 k2 hal2 HH HBY hm hm0 hB R0 hal hsz hs0 hz2
  go_wp2_with fail
  generalize hW3 : W2.alloc (.cells #[.slice (some ⟨b, 0, none⟩) 32 c1] 25) = W3 at *
  generalize hT : W2.heap.size = T at *
  generalize hL : W1.heap.size = L at *
  clear hW3 hL
  refine (pick_to (w.heap.size + 1 + 1) 150 16 W3 (by omega) (by omega) (by omega) hr3).mono ?_
  rintro e W4 ⟨⟨x, rfl, hx⟩, hr4, hb4⟩
  have S4h : Hid (DA w W4 T b c1) := SH.out.but hb4
  have HO4 : Hid (ObjsAt W4 L T (some ⟨b, 0, none⟩) 32 os) := HO3.out.but hb4 hL1 hU1
  have hU4 : T ≤ W4.heap.size := by have := hb4.below.size; omega
  clear SH HO3 hr3 hb4 hU1
  by_cases hx0 : x = 0
  · subst hx0
    go_upto_region 4 with fail
    have S4 := S4h.out.next (Below.refl _ _).drew
    have HR4 : RdTo W4.drew (w.heap.size + 1 + 1) 151 := hr4.but (Below.refl _ _).drew (by have := S4h.out.rlt2; omega)
    have HO4d : Hid (ObjsAt W4.drew L T (some ⟨b, 0, none⟩) 32 os) := HO4.out.below (Below.refl _ _).drew (by simpa using hU4)
    clear S4h HO4 hr4
    refine wp_region_held_drew (S := (fun W => W.cell? ⟨T, 0, none⟩ = some (.slice (some ⟨b, 0, none⟩) 32 c1))) (by kernel_rfl) ?_ (fun hHeld => ?_)
    · exact S4.t
    refine listH (l2 := #[false, false, false, false, false, false, false]) (by kernel_rfl) ?_
    refine takeH (i := 0) (oi := _) (v := ?vf0) 13 #[true, false, false, false, false, false, false] rfl (by kernel_rfl) (by kernel_rfl) (by kernel_rfl) rfl (by kernel_rfl) (fun _ _ _ h => h) (Or.inl ⟨by rfl, ?yf0⟩) (by assumption) ?rf0
    case yf0 => (intro w' hSw; (try dsimp only at hSw); have x0 := hSw; go_simp; try with_reducible rfl)
    simp only [Act.put, List.setIfInBounds_toArray, List.set_cons_succ, List.set_cons_zero]
    refine takeH (i := 2) (oi := _) (v := ?vf2) 15 #[true, false, true, false, false, false, false] rfl (by kernel_rfl) (by kernel_rfl) (by kernel_rfl) rfl (by kernel_rfl) (fun _ _ _ h => h) (Or.inl ⟨by rfl, ?yf2⟩) (by assumption) ?rf2
    case yf2 => (intro w' hSw; (try dsimp only at hSw); have x0 := hSw; go_simp; try with_reducible rfl)
    simp only [Act.put, List.setIfInBounds_toArray, List.set_cons_succ, List.set_cons_zero]
    refine takeH (i := 3) (oi := _) (v := ?vf3) 16 #[true, false, true, true, false, false, false] rfl (by kernel_rfl) (by kernel_rfl) (by kernel_rfl) rfl (by kernel_rfl) (fun _ _ _ h => h) (Or.inl ⟨by rfl, ?yf3⟩) (by assumption) ?rf3
    case yf3 => (intro w' hSw; (try dsimp only at hSw); have x0 := hSw; go_simp; try with_reducible rfl)
    simp only [Act.put, List.setIfInBounds_toArray, List.set_cons_succ, List.set_cons_zero]
    refine wpAnyH_ready (rs := [1]) (by kernel_rfl) (by simp) ?_
    refine AllReadyH.cons (o := _) rfl (fun K hK => ?_) AllReadyH.nil
    go_simp
    refine (bent_any (w.heap.size + 1 + 1) 151 _ (by omega) S4.rlt2 HR4).mono ?_
    rintro e W5 ⟨b2, n2, c2, os2, vs2, rfl, hn2, hn32, hT2, hB2, hr5, hb5⟩
    subst hn2
    have S5 := S4.but hb5
    have HO5 : Hid (ObjsAt W5 L T (some ⟨b, 0, none⟩) 32 os) := HO4d.out.but hb5 hL1 (by simpa using hU4)
    have hz5 : W4.heap.size ≤ W5.heap.size := by have := hb5.below.size; simpa using this
    go_wp2_with fail
    refine hK.out _ _ S5.t (fun hHeld => ?_)
    clear hK K
    try simp only [Act.put]
    refine listH (l2 := #[true, true, true, true, false, false, false]) (by kernel_rfl) ?_
    refine wpAnyH_ready (rs := [4]) (by kernel_rfl) (by simp) ?_
    refine AllReadyH.cons (o := _) rfl (fun K hK => ?_) AllReadyH.nil
    go_simp
    refine (opBent_any (w.heap.size + 1 + 1) 311 _ _ os L _ (by omega) S5.rlt2 hL1 (HSM.few (by omega)) (HO5.out.wide (Nat.le_refl _) (by omega)) hr5).mono ?_
    rintro e W6 ⟨⟨o, rfl, ho⟩, hr6, hb6⟩
    have S6 := S5.but hb6
    have hz6 := hb6.below.size
    have hO2 : ObjsAt W6 (w.heap.size + 1 + 1 + 1) W6.heap.size (some ⟨b2, 0, none⟩) os2.length os2 := by
      have h9 := hT2.to_objs
      exact (h9.but hb6 (by have := S4.rlt2; simpa using this) (Nat.le_refl _)).wide (by have := S4.rlt2; simp at this; simp; omega) hz6
    simp only [LOp.val]
    go_wp2_with fail
    refine hK.out _ _ S6.t (fun hHeld => ?_)
    clear hK K
    try simp only [Act.put]
    refine listH (l2 := #[true, true, true, true, true, false, false]) (by kernel_rfl) ?_
    refine wpAnyH_ready (rs := [5]) (by kernel_rfl) (by simp) ?_
    refine AllReadyH.cons (o := _) rfl (fun K hK => ?_) AllReadyH.nil
    refine st_store31 _ 2 14 w.heap.size _ _ _ rfl rfl S6.r1 ?_
    intro V7 hB7 g7 _
    have k7 : V7.rowIs (w.heap.size + 1) 27 7 (zrow #[.int .i64 0, .int .i64 0, .string ⟨#[]⟩, .int .i64 0, .string ⟨#[]⟩, .int .i64 0, .string ⟨#[]⟩]) := S6.r2.of_block (hB7.block _ (by omega) (by have := S6.rlt2; omega))
    have hO7 := hO2.but hB7 (by omega) (Nat.le_refl _)
    have hz7 := hB7.below.size
    have hw7 := S6.below.trans hB7.below
    have hT7 : V7.cell? ⟨T, 0, none⟩ = some (.slice (some ⟨b, 0, none⟩) 32 c1) := by rw [hB7.cell (by have := S6.tlo; simp; omega) (by simpa using S6.tlt)]; exact S6.t
    refine hK.out _ _ hT7 (fun hHeld => ?_)
    clear hK K
    try simp only [Act.put]
    refine listH (l2 := #[true, true, true, true, true, true, false]) (by kernel_rfl) ?_
    refine wpAnyH_ready (rs := [6]) (by kernel_rfl) (by simp) ?_
    refine AllReadyH.cons (o := _) rfl (fun K hK => ?_) AllReadyH.nil
    refine st_store30 _ 3 17 (w.heap.size + 1) 0 o 7 _ rfl rfl k7 (by omega) ⟨⟨0, 0, ⟨#[]⟩, 0, ⟨#[]⟩, 0, ⟨#[]⟩⟩, rfl, rfl, rfl, rfl, rfl, rfl, rfl⟩ ?_
    intro V8 hB8 k8
    have hz8 := hB8.below.size
    have hO8 := hO7.but hB8 (by omega) (by omega)
    have g8 : V8.cell? ⟨w.heap.size, 0, none⟩ = some (.slice (some ⟨b2, 0, none⟩) os2.length c2) := by rw [hB8.cell (by simp) (by simp; have := S6.rlt2; omega)]; exact g7
    have hw8 : Below w.heap.size w V8 := hw7.trans (hB8.below.mono (by omega))
    have hT8 : V8.cell? ⟨T, 0, none⟩ = some (.slice (some ⟨b, 0, none⟩) 32 c1) := by rw [hB8.cell (by have := S6.tlo; simp; omega) (by have := S6.tlt; simp; omega)]; exact hT7
    refine hK.out _ _ hT8 (fun hHeld => ?_)
    clear hK K
    try simp only [Act.put]
    refine listH (l2 := #[true, true, true, true, true, true, true]) (by kernel_rfl) ?_
    refine wpAnyH_done (by kernel_rfl) ?_ _
    have m0 := (k8.cell (i := 0) (by omega)).trans (show some _ = some (.int .i64 o.kind) from rfl)
    have m1 := (k8.cell (i := 1) (by omega)).trans (show some _ = some (.int .i64 o.dir) from rfl)
    have m2 := (k8.cell (i := 2) (by omega)).trans (show some _ = some (.string o.name) from rfl)
    have m3 := (k8.cell (i := 3) (by omega)).trans (show some _ = some (.int .i64 o.dir2) from rfl)
    have m4 := (k8.cell (i := 4) (by omega)).trans (show some _ = some (.string o.name2) from rfl)
    have m5 := (k8.cell (i := 5) (by omega)).trans (show some _ = some (.int .i64 o.id) from rfl)
    have m6 := (k8.cell (i := 6) (by omega)).trans (show some _ = some (.string o.text) from rfl)
    clear k8 k7 hB8 hB7 hHeld hT7 hT8
    go_wp2_with fail
    refine bodyPost_ret (v := Value.tuple #[.agg #[.slice (some ⟨b2, 0, none⟩) os2.length c2], .agg o.val]) (by rw [results, Tryz.results17]; simp [go_sem, LOp.val, g8, m0, m1, m2, m3, m4, m5, m6]) rfl ⟨⟨b2, os2.length, c2, os2, o, rfl, ⟨hO8.wide (by omega) (by omega), hn32, hB2, ho⟩⟩, hw8⟩
  · have hx1 : ((x : Int) == 0) = false := by simp; omega
    go_upto_region 5 with fail
    have S4 := S4h.out.next (Below.refl _ _).drew
    have HR4 : RdTo W4.drew (w.heap.size + 1 + 1) 151 := hr4.but (Below.refl _ _).drew (by have := S4h.out.rlt2; omega)
    have HO4d : Hid (ObjsAt W4.drew L T (some ⟨b, 0, none⟩) 32 os) := HO4.out.below (Below.refl _ _).drew (by simpa using hU4)
    clear S4h HO4 hr4
    refine wp_region_held_drew (S := (fun W => W.cell? ⟨T, 0, none⟩ = some (.slice (some ⟨b, 0, none⟩) 32 c1))) (by kernel_rfl) ?_ (fun hHeld => ?_)
    · exact S4.t
    refine listH (l2 := #[false, false, false, false, false, false]) (by kernel_rfl) ?_
    refine takeH (i := 0) (oi := _) (v := ?vh0) 18 #[true, false, false, false, false, false] rfl (by kernel_rfl) (by kernel_rfl) (by kernel_rfl) rfl (by kernel_rfl) (fun _ _ _ h => h) (Or.inl ⟨by rfl, ?yh0⟩) (by assumption) ?rh0
    case yh0 => (intro w' hSw; (try dsimp only at hSw); have x0 := hSw; go_simp; try with_reducible rfl)
    simp only [Act.put, List.setIfInBounds_toArray, List.set_cons_succ, List.set_cons_zero]
    refine takeH (i := 1) (oi := _) (v := ?vh1) 19 #[true, true, false, false, false, false] rfl (by kernel_rfl) (by kernel_rfl) (by kernel_rfl) rfl (by kernel_rfl) (fun _ _ _ h => h) (Or.inl ⟨by rfl, ?yh1⟩) (by assumption) ?rh1
    case yh1 => (intro w' hSw; (try dsimp only at hSw); have x0 := hSw; go_simp; try with_reducible rfl)
    simp only [Act.put, List.setIfInBounds_toArray, List.set_cons_succ, List.set_cons_zero]
    refine takeH (i := 2) (oi := _) (v := ?vh2) 20 #[true, true, true, false, false, false] rfl (by kernel_rfl) (by kernel_rfl) (by kernel_rfl) rfl (by kernel_rfl) (fun _ _ _ h => h) (Or.inl ⟨by rfl, ?yh2⟩) (by assumption) ?rh2
    case yh2 => (intro w' hSw; (try dsimp only at hSw); have x0 := hSw; go_simp; try with_reducible rfl)
    simp only [Act.put, List.setIfInBounds_toArray, List.set_cons_succ, List.set_cons_zero]
    refine wpAnyH_ready (rs := [3]) (by kernel_rfl) (by simp) ?_
    refine AllReadyH.cons (o := _) rfl (fun K hK => ?_) AllReadyH.nil
    go_simp
    refine (opBent_any (w.heap.size + 1 + 1) 151 _ _ os L _ (by omega) S4.rlt2 hL1 (HSM.few (by omega)) (HO4d.out.wide (Nat.le_refl _) (by simpa using hU4)) HR4).mono ?_
    rintro e W6 ⟨⟨o, rfl, ho⟩, hr6, hb6⟩
    have S6 := S4.but hb6
    have hz6 := hb6.below.size
    have hO2 : ObjsAt W6 (w.heap.size + 1 + 1 + 1) W6.heap.size (some ⟨b, 0, none⟩) 32 os := (HO4d.out.but hb6 hL1 (by simpa using hU4)).wide (by omega) (by simp at hz6; omega)
    simp only [LOp.val]
    go_wp2_with fail
    refine hK.out _ _ S6.t (fun hHeld => ?_)
    clear hK K
    try simp only [Act.put]
    refine listH (l2 := #[true, true, true, true, false, false]) (by kernel_rfl) ?_
    refine wpAnyH_ready (rs := [4]) (by kernel_rfl) (by simp) ?_
    refine AllReadyH.cons (o := _) rfl (fun K hK => ?_) AllReadyH.nil
    refine st_store31 _ 2 18 w.heap.size _ _ _ rfl rfl S6.r1 ?_
    intro V7 hB7 g7 _
    have k7 : V7.rowIs (w.heap.size + 1) 27 7 (zrow #[.int .i64 0, .int .i64 0, .string ⟨#[]⟩, .int .i64 0, .string ⟨#[]⟩, .int .i64 0, .string ⟨#[]⟩]) := S6.r2.of_block (hB7.block _ (by omega) (by have := S6.rlt2; omega))
    have hO7 := hO2.but hB7 (by omega) (Nat.le_refl _)
    have hz7 := hB7.below.size
    have hw7 := S6.below.trans hB7.below
    have hT7 : V7.cell? ⟨T, 0, none⟩ = some (.slice (some ⟨b, 0, none⟩) 32 c1) := by rw [hB7.cell (by have := S6.tlo; simp; omega) (by simpa using S6.tlt)]; exact S6.t
    refine hK.out _ _ hT7 (fun hHeld => ?_)
    clear hK K
    try simp only [Act.put]
    refine listH (l2 := #[true, true, true, true, true, false]) (by kernel_rfl) ?_
    refine wpAnyH_ready (rs := [5]) (by kernel_rfl) (by simp) ?_
    refine AllReadyH.cons (o := _) rfl (fun K hK => ?_) AllReadyH.nil
    refine st_store30 _ 3 21 (w.heap.size + 1) 0 o 7 _ rfl rfl k7 (by omega) ⟨⟨0, 0, ⟨#[]⟩, 0, ⟨#[]⟩, 0, ⟨#[]⟩⟩, rfl, rfl, rfl, rfl, rfl, rfl, rfl⟩ ?_
    intro V8 hB8 k8
    have hz8 := hB8.below.size
    have hO8 := hO7.but hB8 (by omega) (by omega)
    have g8 : V8.cell? ⟨w.heap.size, 0, none⟩ = some (.slice (some ⟨b, 0, none⟩) 32 c1) := by rw [hB8.cell (by simp) (by simp; have := S6.rlt2; omega)]; exact g7
    have hw8 : Below w.heap.size w V8 := hw7.trans (hB8.below.mono (by omega))
    have hT8 : V8.cell? ⟨T, 0, none⟩ = some (.slice (some ⟨b, 0, none⟩) 32 c1) := by rw [hB8.cell (by have := S6.tlo; simp; omega) (by have := S6.tlt; simp; omega)]; exact hT7
    refine hK.out _ _ hT8 (fun hHeld => ?_)
    clear hK K
    try simp only [Act.put]
    refine listH (l2 := #[true, true, true, true, true, true]) (by kernel_rfl) ?_
    refine wpAnyH_done (by kernel_rfl) ?_ _
    have m0 := (k8.cell (i := 0) (by omega)).trans (show some _ = some (.int .i64 o.kind) from rfl)
    have m1 := (k8.cell (i := 1) (by omega)).trans (show some _ = some (.int .i64 o.dir) from rfl)
    have m2 := (k8.cell (i := 2) (by omega)).trans (show some _ = some (.string o.name) from rfl)
    have m3 := (k8.cell (i := 3) (by omega)).trans (show some _ = some (.int .i64 o.dir2) from rfl)
    have m4 := (k8.cell (i := 4) (by omega)).trans (show some _ = some (.string o.name2) from rfl)
    have m5 := (k8.cell (i := 5) (by omega)).trans (show some _ = some (.int .i64 o.id) from rfl)
    have m6 := (k8.cell (i := 6) (by omega)).trans (show some _ = some (.string o.text) from rfl)
    clear k8 k7 hB8 hB7 hHeld hT7 hT8
    go_wp2_with fail
    refine bodyPost_ret (v := Value.tuple #[.agg #[.slice (some ⟨b, 0, none⟩) 32 c1], .agg o.val]) (by rw [results, Tryz.results17]; simp [go_sem, LOp.val, g8, m0, m1, m2, m3, m4, m5, m6]) rfl ⟨⟨b, 32, c1, os, o, rfl, ⟨hO8.wide (by omega) (by omega), (Nat.le_refl _), (HSM.bn (by omega)), ho⟩⟩, hw8⟩
end Go.Proofs.YtnolbfijcnldjaaGreatDoor
