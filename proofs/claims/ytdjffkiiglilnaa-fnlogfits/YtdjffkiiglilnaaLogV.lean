/- A tree and a log as the laws draw them. -/
import Derived.Test.YtdjffkiiglilnaaLogU
namespace Go.Proofs.Ytdjffkiiglilnaa
open Go.RowKit

/-- A tree and a log are drawn. -/
def DrawnTL (w : World) (e : Ending) (w' : World) : Prop :=
  (∃ b c os x1 y1 a1 n1 k1 a1' n1' k1' l1, e = .returned (.tuple #[.agg #[.slice (some ⟨b, 0, none⟩) 32 c], .agg #[.int .i64 x1, .int .i64 y1, .slice a1 n1 k1, .slice a1' n1' k1']]) ∧ ObjsAt w' w.heap.size w'.heap.size (some ⟨b, 0, none⟩) 32 os ∧ Sizes os 1048576 ∧ LogAt w' w.heap.size w'.heap.size x1 y1 a1 n1 a1' n1' l1 ∧ n1 ≤ 40 ∧ n1' ≤ k1' ∧ k1' ≤ maxLen) ∧ Below w.heap.size w w'
/-- In the midst of it. -/
structure FSt (w W : World) (rb P T5 T6 b c : Nat) (os : List LObj) (vs : Nat → Value) (x1 y1 : Int) (a1 : Option Addr) (n1 k1 : Nat) (a1' : Option Addr) (n1' k1' : Nat) (l1 : LLog) : Prop where
  below : Below w.heap.size w W
  r2 : W.rowIs w.heap.size 25 1 (fun _ => .slice none 0 0)
  r3 : W.rowIs (w.heap.size + 1) 29 4 (zrow #[.int .i64 0, .int .i64 0, .slice none 0 0, .slice none 0 0])
  lo : w.heap.size + 2 ≤ rb
  l5 : rb < T5
  l6 : T5 < T6
  sz : T6 < W.heap.size
  rd : RdTo W rb P
  q5 : W.rowIs T5 25 1 (fun _ => .slice (some ⟨b, 0, none⟩) 32 c)
  q6 : LogBox W T6 x1 y1 a1 n1 k1 a1' n1' k1'
  tree : OwnT W (rb + 1) b c os vs
  len : os.length = 32
  sm : Sm os 72
  log : LogAt W (rb + 1) T5 x1 y1 a1 n1 a1' n1' l1
section
variable {w W W' : World} {rb P P' T5 T6 b c : Nat} {os : List LObj} {vs : Nat → Value} {x1 y1 : Int} {a1 : Option Addr} {n1 k1 : Nat} {a1' : Option Addr} {n1' k1' : Nat} {l1 : LLog}
theorem FSt.szr (h : FSt w W rb P T5 T6 b c os vs x1 y1 a1 n1 k1 a1' n1' k1' l1) : rb + 1 ≤ W.heap.size := by have := h.l5; have := h.l6; have := h.sz; omega
theorem FSt.c5 (h : FSt w W rb P T5 T6 b c os vs x1 y1 a1 n1 k1 a1' n1' k1' l1) : W.cell? ⟨T5, 0, none⟩ = some (.slice (some ⟨b, 0, none⟩) 32 c) := h.q5.cell (by omega)
theorem FSt.next (h : FSt w W rb P T5 T6 b c os vs x1 y1 a1 n1 k1 a1' n1' k1' l1) (hb : But rb W W') (hr : RdTo W' rb P') : FSt w W' rb P' T5 T6 b c os vs x1 y1 a1 n1 k1 a1' n1' k1' l1 := by
  have h1 := h.lo
  have h2 := h.l5
  have h3 := h.l6
  have h4 := h.sz
  exact ⟨h.below.trans (hb.below.mono (by omega)), h.r2.of_block (hb.block _ (by omega) h.r2.lt), h.r3.of_block (hb.block _ (by omega) h.r3.lt), h1, h2, h3, by have := hb.below.size; omega, hr, h.q5.of_block (hb.block _ (by omega) h.q5.lt), h.q6.of (hb.block _ (by omega) h4), h.tree.but hb (by omega), h.len, h.sm, h.log.blocks fun i hi hj => hb.block i (by omega) (by omega)⟩
theorem FSt.on (h : FSt w W rb P T5 T6 b c os vs x1 y1 a1 n1 k1 a1' n1' k1' l1) (hP : P ≤ P') : FSt w W rb P' T5 T6 b c os vs x1 y1 a1 n1 k1 a1' n1' k1' l1 := ⟨h.below, h.r2, h.r3, h.lo, h.l5, h.l6, h.sz, h.rd.on hP, h.q5, h.q6, h.tree, h.len, h.sm, h.log⟩
theorem FSt.drew (h : FSt w W rb P T5 T6 b c os vs x1 y1 a1 n1 k1 a1' n1' k1' l1) : FSt w W.drew rb P T5 T6 b c os vs x1 y1 a1 n1 k1 a1' n1' k1' l1 := h.next (But.of_below (by have := h.szr; omega) (Below.refl _ _).drew) (h.rd.but (Below.refl _ _).drew (by have := h.szr; omega))
theorem FSt.store {b' c' : Nat} {os' : List LObj} {vs' : Nat → Value} (h : FSt w W rb P T5 T6 b c os vs x1 y1 a1 n1 k1 a1' n1' k1' l1) (hT : OwnT W (rb + 1) b' c' os' vs') (hl : os'.length = 32) (hs : Sm os' 72) (F : World) (hb : But T5 W F) (hF : F = W.setCell ⟨T5, 0, none⟩ (.slice (some ⟨b', 0, none⟩) 32 c')) : FSt w F rb P T5 T6 b' c' os' vs' x1 y1 a1 n1 k1 a1' n1' k1' l1 := by
  have h1 := h.lo
  have h2 := h.l5
  have h3 := h.l6
  have h4 := h.sz
  refine ⟨h.below.trans (hb.below.mono (by omega)), h.r2.of_block (hb.block _ (by omega) h.r2.lt), h.r3.of_block (hb.block _ (by omega) h.r3.lt), h1, h2, h3, by have := hb.below.size; omega, h.rd.both hb h2, ?_, h.q6.of (hb.block _ (by omega) h4), hT.other hb h.q5 (by decide) (by decide), hl, hs, h.log.blocks fun i hi hj => hb.block i (by omega) (by omega)⟩
  rw [hF]
  refine (h.q5.set 0 _).congr fun i hi => ?_
  have : i = 0 := by omega
  subst this
  rfl
end

set_option maxHeartbeats 4000000 in
set_option maxRecDepth 20000 in
theorem drawLogFits (a : Option Addr) (n c : Nat) (zs : List Int) (w : World) (hn : n ≤ 1048576) (hc : n ≤ c) (H : BytesAt w w.heap.size a n zs) :
    Calls Try.prog 9 #[.slice a n c] w fun e w' => DrawnTL w e w' := by
  go_enter Try.func9, Try.ntmps9
  go_wp2_with fail
  have hA0 : Below w.heap.size w ((w.alloc (Obj.cells #[.slice none 0 0] 25)).alloc (Obj.cells #[.int .i64 0, .int .i64 0, .slice none 0 0, .slice none 0 0] 29)) := ((Below.refl _ _).alloc (Nat.le_refl _) _).alloc (by simp) _
  have r2 : ((w.alloc (Obj.cells #[.slice none 0 0] 25)).alloc (Obj.cells #[.int .i64 0, .int .i64 0, .slice none 0 0, .slice none 0 0] 29)).rowIs w.heap.size 25 1 (fun _ => .slice none 0 0) := (row1 w _ 25).alloc _
  have r3 : ((w.alloc (Obj.cells #[.slice none 0 0] 25)).alloc (Obj.cells #[.int .i64 0, .int .i64 0, .slice none 0 0, .slice none 0 0] 29)).rowIs (w.heap.size + 1) 29 4 (zrow #[.int .i64 0, .int .i64 0, .slice none 0 0, .slice none 0 0]) := by
    have := zrow_new (w.alloc (Obj.cells #[.slice none 0 0] 25)) #[.int .i64 0, .int .i64 0, .slice none 0 0, .slice none 0 0] 29
    simpa using this
  have hz0 : w.heap.size + 2 ≤ ((w.alloc (Obj.cells #[.slice none 0 0] 25)).alloc (Obj.cells #[.int .i64 0, .int .i64 0, .slice none 0 0, .slice none 0 0] 29)).heap.size := by simp
  generalize hW0 : (w.alloc (Obj.cells #[.slice none 0 0] 25)).alloc (Obj.cells #[.int .i64 0, .int .i64 0, .slice none 0 0, .slice none 0 0] 29) = W0 at *
  clear hW0
  refine (open16 a n c zs w.heap.size _ hn hc (H.below hA0 (Nat.le_refl _))).mono ?_
  rintro e W1 ⟨m1, d1, ys1, rfl, hm1, _, hB1, rfl⟩
  have R1 : RdTo (W0.alloc (.cells #[.slice a m1 d1, .int .i64 0] 118)) W0.heap.size 0 := ⟨0, Nat.le_refl _, rd_start hm1 (by omega) hB1⟩
  clear hB1
  go_wp2_with fail
  refine (l5_any W0.heap.size 0 _ (by omega) (by simp) R1).mono ?_
  rintro e W2 ⟨b1, c1, os1, vs1, x1, y1, a1, n1, k1, a1', n1', k1', l1, rfl, hT1, hlen1, hsm1, hL1, hbd1, hr2, hb2⟩
  have hs2 : W0.heap.size + 1 ≤ W2.heap.size := by have := hb2.below.size; simpa using this
  have HF0 : Hid (FSt w ((W2.alloc (Obj.cells #[.slice (some ⟨b1, 0, none⟩) 32 c1] 25)).alloc (Obj.cells #[.int .i64 x1, .int .i64 y1, .slice a1 n1 k1, .slice a1' n1' k1'] 29)) W0.heap.size 300 W2.heap.size (W2.heap.size + 1) b1 c1 os1 vs1 x1 y1 a1 n1 k1 a1' n1' k1' l1) := by
    have hA2 : Below w.heap.size w W2 := (hA0.alloc (by omega) _).trans (hb2.below.mono (by omega))
    have hk : ∀ i, i < W0.heap.size → W2.heap[i]? = W0.heap[i]? := fun i hi => (hb2.block i (by omega) (by simp; omega)).trans (((Below.refl W0.heap.size W0).alloc (Nat.le_refl _) _).block i hi)
    have hal : Below W2.heap.size W2 ((W2.alloc (Obj.cells #[.slice (some ⟨b1, 0, none⟩) 32 c1] 25)).alloc (Obj.cells #[.int .i64 x1, .int .i64 y1, .slice a1 n1 k1, .slice a1' n1' k1'] 29)) := ((Below.refl _ _).alloc (Nat.le_refl _) _).alloc (by simp) _
    have e1 : W0.heap.size + 1 = (W0.alloc (.cells #[.slice a m1 d1, .int .i64 0] 118)).heap.size := by simp
    refine ⟨hA2.trans (hal.mono (by omega)), (r2.of_block (hk _ (by omega))).of_block (hal.block _ (by omega)), (r3.of_block (hk _ (by omega))).of_block (hal.block _ (by omega)), hz0, by omega, by omega, by simp, hr2.but hal (by omega), (row1 W2 _ 25).alloc _, ⟨by simp [go_sem], by simp [go_sem], by simp [go_sem], by simp [go_sem]⟩, (by rw [e1]; exact hT1.below hal), hlen1, hsm1.mono (by omega), ?_⟩
    exact (hL1.wide (by omega) (Nat.le_refl _)).below hal (Nat.le_refl _)
  have hz2 : W0.heap.size < W2.heap.size := by omega
  have HSM1 : Hid (Sm os1 60) := hsm1
  clear hT1 hlen1 hsm1 hL1 hr2 hb2 R1 r2 r3 hs2
  go_wp2_with fail
  generalize hW3 : (W2.alloc (Obj.cells #[.slice (some ⟨b1, 0, none⟩) 32 c1] 25)).alloc (Obj.cells #[.int .i64 x1, .int .i64 y1, .slice a1 n1 k1, .slice a1' n1' k1'] 29) = W3 at *
  obtain ⟨T6, hT6⟩ : ∃ t, t = W2.heap.size + 1 := ⟨_, rfl⟩
  rw [← hT6] at HF0 ⊢
  generalize hT5 : W2.heap.size = T5 at *
  generalize hrb : W0.heap.size = rb at *
  have h56 : T5 < T6 := by omega
  clear hW3 hT6 hT5 hrb
  refine (pick_to rb 300 2 _ (by omega) (by omega) (by omega) HF0.out.rd).mono ?_
  rintro e W4 ⟨⟨d, rfl, hd⟩, hr4, hb4⟩
  have HF : Hid (FSt w W4 rb 301 T5 T6 b1 c1 os1 vs1 x1 y1 a1 n1 k1 a1' n1' k1' l1) := HF0.out.next hb4 hr4
  clear HF0 hr4 hb4 hA0 H
  have hl1 := HF.out.lo
  have hl2 := HF.out.l5
  have hl3 := HF.out.sz
  by_cases hd0 : d = 0
  · subst hd0
    go_upto_region 4 with fail
    have hBt : But rb W4 W4.drew := But.of_below (by omega) (Below.refl _ _).drew
    have hRd : RdTo W4.drew rb 301 := HF.out.rd.but (Below.refl _ _).drew (by omega)
    have c5 := HF.out.c5
    go_cut [] (fun wx => ∃ b2 c2 os2 vs2, FSt w wx rb 400 T5 T6 b2 c2 os2 vs2 x1 y1 a1 n1 k1 a1' n1' k1' l1)
    case first =>
      refine wp_region_held_drew (S := (fun _ => True)) (by kernel_rfl) ?_ (fun hHeld => ?_)
      · trivial
      refine listH (l2 := #[false, false, false, false, false, false, false, false, false]) (by kernel_rfl) ?_
      refine takeH (i := 0) (oi := _) (v := ?vk41) 18 #[true, false, false, false, false, false, false, false, false] rfl (by kernel_rfl) (by kernel_rfl) (by kernel_rfl) rfl (by kernel_rfl) (fun _ _ _ h => h) (Or.inl ⟨by rfl, ?yk41⟩) (by assumption) ?rk41
      case yk41 => (intro w' hSw; go_simp; try with_reducible rfl)
      simp only [Act.put, List.setIfInBounds_toArray, List.set_cons_succ, List.set_cons_zero]
      refine takeH (i := 2) (oi := _) (v := ?vk42) 20 #[true, false, true, false, false, false, false, false, false] rfl (by kernel_rfl) (by kernel_rfl) (by kernel_rfl) rfl (by kernel_rfl) (fun _ _ _ h => h) (Or.inl ⟨by rfl, ?yk42⟩) (by assumption) ?rk42
      case yk42 => (intro w' hSw; go_simp; try with_reducible rfl)
      simp only [Act.put, List.setIfInBounds_toArray, List.set_cons_succ, List.set_cons_zero]
      refine wpAnyH_ready (rs := [1, 3]) (by kernel_rfl) (by simp) ?_
      refine AllReadyH.cons (o := _) rfl (fun K hK => ?_) (AllReadyH.cons (o := _) rfl (fun K hK => ?_) AllReadyH.nil)
      · go_simp
        refine hK.out _ _ trivial (fun hHeld => ?_)
        clear hK K
        try simp only [Act.put]
        refine listH (l2 := #[true, true, true, false, false, false, false, false, false]) (by kernel_rfl) ?_
        refine wpAnyH_ready (rs := [3]) (by kernel_rfl) (by simp) ?_
        refine AllReadyH.cons (o := _) rfl (fun K hK => ?_) AllReadyH.nil
        go_simp
        refine (pick_to rb 301 4 _ (by omega) (by omega) (by omega) hRd).mono ?_
        rintro e V3 ⟨⟨j, rfl, hj⟩, hRd, hb3⟩
        have hBt := hBt.trans hb3
        clear hb3
        go_wp2_with fail
        refine hK.out _ _ trivial (fun hHeld => ?_)
        clear hK K
        try simp only [Act.put]
        refine listH (l2 := #[true, true, true, true, false, false, false, false, false]) (by kernel_rfl) ?_
        refine wpAnyH_ready (rs := [4]) (by kernel_rfl) (by simp) ?_
        refine AllReadyH.cons (o := _) rfl (fun K hK => ?_) AllReadyH.nil
        go_simp
        have HN := HF.out.next hBt hRd
        refine (grow_any rb 302 (rb + 1) b1 c1 j 60 os1 vs1 0 _ (by omega) (by omega) (by omega) (by have := HN.szr; omega) (by omega) HN.len HSM1.out HN.tree HN.rd).mono ?_
        clear HN
        rintro e V5 ⟨b2, c2, os2, vs2, l2, ops2, rfl, hT2, hl2, hs2, _, _, hRd, hb5⟩
        have hBt := hBt.trans hb5
        clear hb5
        go_wp2_with fail
        refine hK.out _ _ trivial (fun hHeld => ?_)
        clear hK K
        try simp only [Act.put]
        refine listH (l2 := #[true, true, true, true, true, false, false, false, false]) (by kernel_rfl) ?_
        refine takeH (i := 5) (oi := _) (v := ?vk35) 17 #[true, true, true, true, true, true, false, false, false] rfl (by kernel_rfl) (by kernel_rfl) (by kernel_rfl) rfl (by kernel_rfl) (fun _ _ _ h => h) (Or.inl ⟨by rfl, ?yk35⟩) (by assumption) ?rk35
        case yk35 => (intro w' hSw; go_simp; try with_reducible rfl)
        simp only [Act.put, List.setIfInBounds_toArray, List.set_cons_succ, List.set_cons_zero]
        refine takeH (i := 6) (oi := _) (v := ?vk36) 23 #[true, true, true, true, true, true, true, false, false] rfl (by kernel_rfl) (by kernel_rfl) (by kernel_rfl) rfl (by kernel_rfl) (fun _ _ _ h => h) (Or.inl ⟨by rfl, ?yk36⟩) (by assumption) ?rk36
        case yk36 => (intro w' hSw; go_simp; try with_reducible rfl)
        simp only [Act.put, List.setIfInBounds_toArray, List.set_cons_succ, List.set_cons_zero]
        refine takeH (i := 7) (oi := _) (v := ?vk37) 24 #[true, true, true, true, true, true, true, true, false] rfl (by kernel_rfl) (by kernel_rfl) (by kernel_rfl) rfl (by kernel_rfl) (fun _ _ _ h => h) (Or.inl ⟨by rfl, ?yk37⟩) (by assumption) ?rk37
        case yk37 => (intro w' hSw; go_simp; try with_reducible rfl)
        simp only [Act.put, List.setIfInBounds_toArray, List.set_cons_succ, List.set_cons_zero]
        have HN := HF.out.next hBt hRd
        have R5 := HN.q5
        refine wpAnyH_ready (rs := [8]) (by kernel_rfl) (by simp) ?_
        refine AllReadyH.cons (o := _) rfl (fun K hK => ?_) AllReadyH.nil
        refine st_store53 _ 5 23 T5 (.slice (some ⟨b2, 0, none⟩) 32 c2) _ rfl (some ⟨b2, 0, none⟩) 32 c2 rfl rfl R5 ?_
        intro F hbF hF _
        have HS := HN.store hT2 hl2 (hs2.mono (by omega)) F hbF hF
        clear hF
        refine hK.out _ _ trivial (fun hHeld => ?_)
        clear hK K
        refine listH (l2 := #[true, true, true, true, true, true, true, true, true]) (by kernel_rfl) ?_
        refine wpAnyH_done (by kernel_rfl) ?_ _
        go_wp2_with fail
        go_meet
        exact ⟨b2, c2, os2, vs2, HS.on (by omega)⟩
      · go_simp
        refine (pick_to rb 301 4 _ (by omega) (by omega) (by omega) hRd).mono ?_
        rintro e V3 ⟨⟨j, rfl, hj⟩, hRd, hb3⟩
        have hBt := hBt.trans hb3
        clear hb3
        go_wp2_with fail
        have c5 := (HF.out.next hBt hRd).c5
        refine hK.out _ _ trivial (fun hHeld => ?_)
        clear hK K
        try simp only [Act.put]
        refine listH (l2 := #[true, false, true, true, false, false, false, false, false]) (by kernel_rfl) ?_
        refine wpAnyH_ready (rs := [1]) (by kernel_rfl) (by simp) ?_
        refine AllReadyH.cons (o := _) rfl (fun K hK => ?_) AllReadyH.nil
        go_simp
        refine hK.out _ _ trivial (fun hHeld => ?_)
        clear hK K
        try simp only [Act.put]
        refine listH (l2 := #[true, true, true, true, false, false, false, false, false]) (by kernel_rfl) ?_
        refine wpAnyH_ready (rs := [4]) (by kernel_rfl) (by simp) ?_
        refine AllReadyH.cons (o := _) rfl (fun K hK => ?_) AllReadyH.nil
        go_simp
        have HN := HF.out.next hBt hRd
        refine (grow_any rb 302 (rb + 1) b1 c1 j 60 os1 vs1 0 _ (by omega) (by omega) (by omega) (by have := HN.szr; omega) (by omega) HN.len HSM1.out HN.tree HN.rd).mono ?_
        clear HN
        rintro e V5 ⟨b2, c2, os2, vs2, l2, ops2, rfl, hT2, hl2, hs2, _, _, hRd, hb5⟩
        have hBt := hBt.trans hb5
        clear hb5
        go_wp2_with fail
        refine hK.out _ _ trivial (fun hHeld => ?_)
        clear hK K
        try simp only [Act.put]
        refine listH (l2 := #[true, true, true, true, true, false, false, false, false]) (by kernel_rfl) ?_
        refine takeH (i := 5) (oi := _) (v := ?vk38) 17 #[true, true, true, true, true, true, false, false, false] rfl (by kernel_rfl) (by kernel_rfl) (by kernel_rfl) rfl (by kernel_rfl) (fun _ _ _ h => h) (Or.inl ⟨by rfl, ?yk38⟩) (by assumption) ?rk38
        case yk38 => (intro w' hSw; go_simp; try with_reducible rfl)
        simp only [Act.put, List.setIfInBounds_toArray, List.set_cons_succ, List.set_cons_zero]
        refine takeH (i := 6) (oi := _) (v := ?vk39) 23 #[true, true, true, true, true, true, true, false, false] rfl (by kernel_rfl) (by kernel_rfl) (by kernel_rfl) rfl (by kernel_rfl) (fun _ _ _ h => h) (Or.inl ⟨by rfl, ?yk39⟩) (by assumption) ?rk39
        case yk39 => (intro w' hSw; go_simp; try with_reducible rfl)
        simp only [Act.put, List.setIfInBounds_toArray, List.set_cons_succ, List.set_cons_zero]
        refine takeH (i := 7) (oi := _) (v := ?vk40) 24 #[true, true, true, true, true, true, true, true, false] rfl (by kernel_rfl) (by kernel_rfl) (by kernel_rfl) rfl (by kernel_rfl) (fun _ _ _ h => h) (Or.inl ⟨by rfl, ?yk40⟩) (by assumption) ?rk40
        case yk40 => (intro w' hSw; go_simp; try with_reducible rfl)
        simp only [Act.put, List.setIfInBounds_toArray, List.set_cons_succ, List.set_cons_zero]
        have HN := HF.out.next hBt hRd
        have R5 := HN.q5
        refine wpAnyH_ready (rs := [8]) (by kernel_rfl) (by simp) ?_
        refine AllReadyH.cons (o := _) rfl (fun K hK => ?_) AllReadyH.nil
        refine st_store53 _ 5 23 T5 (.slice (some ⟨b2, 0, none⟩) 32 c2) _ rfl (some ⟨b2, 0, none⟩) 32 c2 rfl rfl R5 ?_
        intro F hbF hF _
        have HS := HN.store hT2 hl2 (hs2.mono (by omega)) F hbF hF
        clear hF
        refine hK.out _ _ trivial (fun hHeld => ?_)
        clear hK K
        refine listH (l2 := #[true, true, true, true, true, true, true, true, true]) (by kernel_rfl) ?_
        refine wpAnyH_done (by kernel_rfl) ?_ _
        go_wp2_with fail
        go_meet
        exact ⟨b2, c2, os2, vs2, HS.on (by omega)⟩
    obtain ⟨b, c9, os, vs, h9⟩ := hcut
    clear HF hBt hRd c5
    rename World => X
    have h9d := h9.drew
    go_upto_region 5 with fail
    have R2 := h9d.r2
    have R3 := h9d.r3
    have s5 := h9d.c5
    have bx := h9d.q6
    have HT : Hid (OwnT _ (rb + 1) b c9 os vs) := h9d.tree
    have HLEN : Hid (os.length = 32) := h9d.len
    have HSM : Hid (Sm os 72) := h9d.sm
    have HBL : Hid (Below w.heap.size w _) := h9d.below
    have HLOG : Hid (LogAt _ (rb + 1) T5 x1 y1 a1 n1 a1' n1' l1) := h9d.log
    have hszX := h9d.sz
    clear h9d
    clear h9
    refine wp_region_held_drew (S := (fun W => W.cell? ⟨T5, 0, none⟩ = some (.slice (some ⟨b, 0, none⟩) 32 c9) ∧ LogBox W T6 x1 y1 a1 n1 k1 a1' n1' k1')) (by kernel_rfl) ?_ (fun hHeld => ?_)
    · exact ⟨s5, bx⟩
    refine listH (l2 := #[false, false, false, false]) (by kernel_rfl) ?_
    refine takeH (i := 0) (oi := _) (v := ?vk43) 25 #[true, false, false, false] rfl (by kernel_rfl) (by kernel_rfl) (by kernel_rfl) rfl (by kernel_rfl) (fun _ _ _ h => h) (Or.inl ⟨by rfl, ?yk43⟩) (by assumption) ?rk43
    case yk43 => (intro w' hSw; obtain ⟨u1, _⟩ := hSw; go_simp; try with_reducible rfl)
    simp only [Act.put, List.setIfInBounds_toArray, List.set_cons_succ, List.set_cons_zero]
    refine takeH (i := 1) (oi := _) (v := ?vk44) 26 #[true, true, false, false] rfl (by kernel_rfl) (by kernel_rfl) (by kernel_rfl) rfl (by kernel_rfl) (fun _ _ _ h => h) (Or.inl ⟨by rfl, ?yk44⟩) (by assumption) ?rk44
    case yk44 => (intro w' hSw; obtain ⟨_, v0, v1, v2, v3⟩ := hSw; go_simp; try with_reducible rfl)
    simp only [Act.put, List.setIfInBounds_toArray, List.set_cons_succ, List.set_cons_zero]
    refine wpAnyH_ready (rs := [2]) (by kernel_rfl) (by simp) ?_
    refine AllReadyH.cons (o := _) rfl (fun K hK => ?_) AllReadyH.nil
    refine st_store53 _ 2 25 w.heap.size (.slice (some ⟨b, 0, none⟩) 32 c9) _ rfl (some ⟨b, 0, none⟩) 32 c9 rfl rfl R2 ?_
    intro F1 hb1 hE_ hc1
    clear hE_
    have T1 := HT.out.other hb1 R2 (by decide) (by decide)
    have R3 := R3.of_block (hb1.block _ (by omega) R3.lt)
    refine hK.out _ _ (⟨by rw [hb1.cell (by simp; omega) (cell_lt hHeld.1)]; exact hHeld.1, hHeld.2.of (hb1.block T6 (by omega) (cell_lt hHeld.2.c0))⟩) (fun hHeld => ?_)
    clear hK K
    refine listH (l2 := #[true, true, true, false]) (by kernel_rfl) ?_
    refine wpAnyH_ready (rs := [3]) (by kernel_rfl) (by simp) ?_
    refine AllReadyH.cons (o := _) rfl (fun K hK => ?_) AllReadyH.nil
    refine st_store29 _ 3 26 (w.heap.size + 1) x1 y1 a1 n1 k1 a1' n1' k1' _ rfl rfl R3 (LogCells.zero R3) ?_
    intro F2 hb2 hbox _ _
    have T2 := T1.other hb2 R3 (by decide) (by decide)
    have hlt2 := cell_lt hc1
    have hc1 : F2.cell? ⟨w.heap.size, 0, none⟩ = some (.slice (some ⟨b, 0, none⟩) 32 c9) := by rw [hb2.cell (by simp) (by simpa using hlt2)]; exact hc1
    refine hK.out _ _ (⟨by rw [hb2.cell (by simp; omega) (cell_lt hHeld.1)]; exact hHeld.1, hHeld.2.of (hb2.block T6 (by omega) (cell_lt hHeld.2.c0))⟩) (fun hHeld => ?_)
    clear hK K
    refine listH (l2 := #[true, true, true, true]) (by kernel_rfl) ?_
    refine wpAnyH_done (by kernel_rfl) ?_ _
    go_wp2_with fail
    refine bodyPost_ret (v := .tuple #[.agg #[.slice (some ⟨b, 0, none⟩) 32 c9], .agg #[.int .i64 x1, .int .i64 y1, .slice a1 n1 k1, .slice a1' n1' k1']]) (by simp [results, Try.results9, go_sem, hc1, hbox.c0, hbox.c1, hbox.c2, hbox.c3]) rfl ?_
    have hO := T2.to_objs
    rw [HLEN.out] at hO
    refine ⟨⟨b, c9, os, x1, y1, a1, n1, k1, a1', n1', k1', l1, rfl, hO.wide (by omega) (Nat.le_refl _), HSM.out.sizes (by omega), ?_, hbd1⟩, (HBL.out.trans (hb1.below.mono (Nat.le_refl _))).trans (hb2.below.mono (by omega))⟩
    have hz1 := hb1.below.size
    have hz2 := hb2.below.size
    refine (HLOG.out.blocks fun i h1 h2 => ?_).wide (by omega) (by omega)
    exact (hb2.block i (by omega) (by omega)).trans (hb1.block i (by omega) (by omega))
  · have t0 : ((d : Int) == 0) = false := by simp; omega
    go_upto_region 5 with fail
    have h9d := HF.out.drew
    generalize hb9 : b1 = b at *
    generalize hc9 : c1 = c9 at *
    generalize ho9 : os1 = os at *
    generalize hv9 : vs1 = vs at *
    clear hb9 hc9 ho9 hv9 HF HSM1
    have R2 := h9d.r2
    have R3 := h9d.r3
    have s5 := h9d.c5
    have bx := h9d.q6
    have HT : Hid (OwnT _ (rb + 1) b c9 os vs) := h9d.tree
    have HLEN : Hid (os.length = 32) := h9d.len
    have HSM : Hid (Sm os 72) := h9d.sm
    have HBL : Hid (Below w.heap.size w _) := h9d.below
    have HLOG : Hid (LogAt _ (rb + 1) T5 x1 y1 a1 n1 a1' n1' l1) := h9d.log
    have hszX := h9d.sz
    clear h9d
    refine wp_region_held_drew (S := (fun W => W.cell? ⟨T5, 0, none⟩ = some (.slice (some ⟨b, 0, none⟩) 32 c9) ∧ LogBox W T6 x1 y1 a1 n1 k1 a1' n1' k1')) (by kernel_rfl) ?_ (fun hHeld => ?_)
    · exact ⟨s5, bx⟩
    refine listH (l2 := #[false, false, false, false]) (by kernel_rfl) ?_
    refine takeH (i := 0) (oi := _) (v := ?vk45) 25 #[true, false, false, false] rfl (by kernel_rfl) (by kernel_rfl) (by kernel_rfl) rfl (by kernel_rfl) (fun _ _ _ h => h) (Or.inl ⟨by rfl, ?yk45⟩) (by assumption) ?rk45
    case yk45 => (intro w' hSw; obtain ⟨u1, _⟩ := hSw; go_simp; try with_reducible rfl)
    simp only [Act.put, List.setIfInBounds_toArray, List.set_cons_succ, List.set_cons_zero]
    refine takeH (i := 1) (oi := _) (v := ?vk46) 26 #[true, true, false, false] rfl (by kernel_rfl) (by kernel_rfl) (by kernel_rfl) rfl (by kernel_rfl) (fun _ _ _ h => h) (Or.inl ⟨by rfl, ?yk46⟩) (by assumption) ?rk46
    case yk46 => (intro w' hSw; obtain ⟨_, v0, v1, v2, v3⟩ := hSw; go_simp; try with_reducible rfl)
    simp only [Act.put, List.setIfInBounds_toArray, List.set_cons_succ, List.set_cons_zero]
    refine wpAnyH_ready (rs := [2]) (by kernel_rfl) (by simp) ?_
    refine AllReadyH.cons (o := _) rfl (fun K hK => ?_) AllReadyH.nil
    refine st_store53 _ 2 25 w.heap.size (.slice (some ⟨b, 0, none⟩) 32 c9) _ rfl (some ⟨b, 0, none⟩) 32 c9 rfl rfl R2 ?_
    intro F1 hb1 hE_ hc1
    clear hE_
    have T1 := HT.out.other hb1 R2 (by decide) (by decide)
    have R3 := R3.of_block (hb1.block _ (by omega) R3.lt)
    refine hK.out _ _ (⟨by rw [hb1.cell (by simp; omega) (cell_lt hHeld.1)]; exact hHeld.1, hHeld.2.of (hb1.block T6 (by omega) (cell_lt hHeld.2.c0))⟩) (fun hHeld => ?_)
    clear hK K
    refine listH (l2 := #[true, true, true, false]) (by kernel_rfl) ?_
    refine wpAnyH_ready (rs := [3]) (by kernel_rfl) (by simp) ?_
    refine AllReadyH.cons (o := _) rfl (fun K hK => ?_) AllReadyH.nil
    refine st_store29 _ 3 26 (w.heap.size + 1) x1 y1 a1 n1 k1 a1' n1' k1' _ rfl rfl R3 (LogCells.zero R3) ?_
    intro F2 hb2 hbox _ _
    have T2 := T1.other hb2 R3 (by decide) (by decide)
    have hlt2 := cell_lt hc1
    have hc1 : F2.cell? ⟨w.heap.size, 0, none⟩ = some (.slice (some ⟨b, 0, none⟩) 32 c9) := by rw [hb2.cell (by simp) (by simpa using hlt2)]; exact hc1
    refine hK.out _ _ (⟨by rw [hb2.cell (by simp; omega) (cell_lt hHeld.1)]; exact hHeld.1, hHeld.2.of (hb2.block T6 (by omega) (cell_lt hHeld.2.c0))⟩) (fun hHeld => ?_)
    clear hK K
    refine listH (l2 := #[true, true, true, true]) (by kernel_rfl) ?_
    refine wpAnyH_done (by kernel_rfl) ?_ _
    go_wp2_with fail
    refine bodyPost_ret (v := .tuple #[.agg #[.slice (some ⟨b, 0, none⟩) 32 c9], .agg #[.int .i64 x1, .int .i64 y1, .slice a1 n1 k1, .slice a1' n1' k1']]) (by simp [results, Try.results9, go_sem, hc1, hbox.c0, hbox.c1, hbox.c2, hbox.c3]) rfl ?_
    have hO := T2.to_objs
    rw [HLEN.out] at hO
    refine ⟨⟨b, c9, os, x1, y1, a1, n1, k1, a1', n1', k1', l1, rfl, hO.wide (by omega) (Nat.le_refl _), HSM.out.sizes (by omega), ?_, hbd1⟩, (HBL.out.trans (hb1.below.mono (Nat.le_refl _))).trans (hb2.below.mono (by omega))⟩
    have hz1 := hb1.below.size
    have hz2 := hb2.below.size
    refine (HLOG.out.blocks fun i h1 h2 => ?_).wide (by omega) (by omega)
    exact (hb2.block i (by omega) (by omega)).trans (hb1.block i (by omega) (by omega))
end Go.Proofs.Ytdjffkiiglilnaa
