/- Lemmas that the proofs of this seat share: LogV, Path, Facts2, CloneA, InsA. -/
import Derived.Test.YtnolbfijcnldjaaGreatDoorV16
import Derived.Test.YtnolbfijcnldjaaGreatDoorV07
import Derived.Test.YtnolbfijcnldjaaGreatDoorV08
import Derived.Test.YtnolbfijcnldjaaGreatDoorV03
import Derived.Deep.Upon
import Derived.Laws.CopyRow
import Derived.Lib.AppendZerosOnto
import Derived.Lib.Overlaps
/- A tree and a log as the laws draw them. -/
namespace Go.Proofs.YtnolbfijcnldjaaGreatDoor
open Go.RowKit

/-- A tree and a log are drawn. -/
def DrawnTL (w : World) (e : Ending) (w' : World) : Prop :=
  (∃ b c os x1 y1 a1 n1 k1 a1' n1' k1' l1, e = .returned (.tuple #[.agg #[.slice (some ⟨b, 0, none⟩) 32 c], .agg #[.int .i64 x1, .int .i64 y1, .slice a1 n1 k1, .slice a1' n1' k1']]) ∧ ObjsAt w' w.heap.size w'.heap.size (some ⟨b, 0, none⟩) 32 os ∧ Sizes os 1048576 ∧ LogAt w' w.heap.size w'.heap.size x1 y1 a1 n1 a1' n1' l1 ∧ n1 ≤ 40 ∧ n1' ≤ k1' ∧ k1' ≤ maxLen) ∧ Below w.heap.size w w'
/-- In the midst of it. -/
structure FSt (w W : World) (rb P T5 T6 b c : Nat) (os : List LObj) (vs : Nat → Value) (x1 y1 : Int) (a1 : Option Addr) (n1 k1 : Nat) (a1' : Option Addr) (n1' k1' : Nat) (l1 : LLog) : Prop where
  below : Below w.heap.size w W
  r2 : W.rowIs w.heap.size 25 1 (fun _ => .slice none 0 0)
  r3 : W.rowIs (w.heap.size + 1) 58 4 (zrow #[.int .i64 0, .int .i64 0, .slice none 0 0, .slice none 0 0])
  lo : w.heap.size + 2 ≤ rb
  l5 : rb < T5
  l6 : T5 < T6
  sz : T6 < W.heap.size
  rd : RdTo W rb P
  q5 : W.rowIs T5 25 1 (fun _ => .slice (some ⟨b, 0, none⟩) 32 c)
  q6 : LogBox W T6 x1 y1 a1 n1 k1 a1' n1' k1'
  tree : OwnT W (rb + 1) b c os vs
  len : os.length = 32
  sm : Sm os 72
  log : LogAt W (rb + 1) T5 x1 y1 a1 n1 a1' n1' l1
section
variable {w W W' : World} {rb P P' T5 T6 b c : Nat} {os : List LObj} {vs : Nat → Value} {x1 y1 : Int} {a1 : Option Addr} {n1 k1 : Nat} {a1' : Option Addr} {n1' k1' : Nat} {l1 : LLog}
theorem FSt.szr (h : FSt w W rb P T5 T6 b c os vs x1 y1 a1 n1 k1 a1' n1' k1' l1) : rb + 1 ≤ W.heap.size := by have := h.l5; have := h.l6; have := h.sz; omega
theorem FSt.c5 (h : FSt w W rb P T5 T6 b c os vs x1 y1 a1 n1 k1 a1' n1' k1' l1) : W.cell? ⟨T5, 0, none⟩ = some (.slice (some ⟨b, 0, none⟩) 32 c) := h.q5.cell (by omega)
theorem FSt.next (h : FSt w W rb P T5 T6 b c os vs x1 y1 a1 n1 k1 a1' n1' k1' l1) (hb : But rb W W') (hr : RdTo W' rb P') : FSt w W' rb P' T5 T6 b c os vs x1 y1 a1 n1 k1 a1' n1' k1' l1 := by
  have h1 := h.lo
  have h2 := h.l5
  have h3 := h.l6
  have h4 := h.sz
  exact ⟨h.below.trans (hb.below.mono (by omega)), h.r2.of_block (hb.block _ (by omega) h.r2.lt), h.r3.of_block (hb.block _ (by omega) h.r3.lt), h1, h2, h3, by have := hb.below.size; omega, hr, h.q5.of_block (hb.block _ (by omega) h.q5.lt), h.q6.of (hb.block _ (by omega) h4), h.tree.but hb (by omega), h.len, h.sm, h.log.blocks fun i hi hj => hb.block i (by omega) (by omega)⟩
theorem FSt.on (h : FSt w W rb P T5 T6 b c os vs x1 y1 a1 n1 k1 a1' n1' k1' l1) (hP : P ≤ P') : FSt w W rb P' T5 T6 b c os vs x1 y1 a1 n1 k1 a1' n1' k1' l1 := ⟨h.below, h.r2, h.r3, h.lo, h.l5, h.l6, h.sz, h.rd.on hP, h.q5, h.q6, h.tree, h.len, h.sm, h.log⟩
theorem FSt.drew (h : FSt w W rb P T5 T6 b c os vs x1 y1 a1 n1 k1 a1' n1' k1' l1) : FSt w W.drew rb P T5 T6 b c os vs x1 y1 a1 n1 k1 a1' n1' k1' l1 := h.next (But.of_below (by have := h.szr; omega) (Below.refl _ _).drew) (h.rd.but (Below.refl _ _).drew (by have := h.szr; omega))
theorem FSt.store {b' c' : Nat} {os' : List LObj} {vs' : Nat → Value} (h : FSt w W rb P T5 T6 b c os vs x1 y1 a1 n1 k1 a1' n1' k1' l1) (hT : OwnT W (rb + 1) b' c' os' vs') (hl : os'.length = 32) (hs : Sm os' 72) (F : World) (hb : But T5 W F) (hF : F = W.setCell ⟨T5, 0, none⟩ (.slice (some ⟨b', 0, none⟩) 32 c')) : FSt w F rb P T5 T6 b' c' os' vs' x1 y1 a1 n1 k1 a1' n1' k1' l1 := by
  have h1 := h.lo
  have h2 := h.l5
  have h3 := h.l6
  have h4 := h.sz
  refine ⟨h.below.trans (hb.below.mono (by omega)), h.r2.of_block (hb.block _ (by omega) h.r2.lt), h.r3.of_block (hb.block _ (by omega) h.r3.lt), h1, h2, h3, by have := hb.below.size; omega, h.rd.both hb h2, ?_, h.q6.of (hb.block _ (by omega) h4), hT.other hb h.q5 (by decide) (by decide), hl, hs, h.log.blocks fun i hi hj => hb.block i (by omega) (by omega)⟩
  rw [hF]
  refine (h.q5.set 0 _).congr fun i hi => ?_
  have : i = 0 := by omega
  subst this
  rfl
end

set_option maxHeartbeats 4000000 in
set_option maxRecDepth 20000 in
theorem drawLogFits (a : Option Addr) (n c : Nat) (zs : List Int) (w : World) (hn : n ≤ 1048576) (hc : n ≤ c) (H : BytesAt w w.heap.size a n zs) :
    Calls Tryz.prog 42 #[.slice a n c] w fun e w' => DrawnTL w e w' := by
  go_enter Tryz.func42, Tryz.ntmps42
  go_wp2_with fail
  have hA0 : Below w.heap.size w ((w.alloc (Obj.cells #[.slice none 0 0] 25)).alloc (Obj.cells #[.int .i64 0, .int .i64 0, .slice none 0 0, .slice none 0 0] 58)) := ((Below.refl _ _).alloc (Nat.le_refl _) _).alloc (by simp) _
  have r2 : ((w.alloc (Obj.cells #[.slice none 0 0] 25)).alloc (Obj.cells #[.int .i64 0, .int .i64 0, .slice none 0 0, .slice none 0 0] 58)).rowIs w.heap.size 25 1 (fun _ => .slice none 0 0) := (row1 w _ 25).alloc _
  have r3 : ((w.alloc (Obj.cells #[.slice none 0 0] 25)).alloc (Obj.cells #[.int .i64 0, .int .i64 0, .slice none 0 0, .slice none 0 0] 58)).rowIs (w.heap.size + 1) 58 4 (zrow #[.int .i64 0, .int .i64 0, .slice none 0 0, .slice none 0 0]) := by
    have := zrow_new (w.alloc (Obj.cells #[.slice none 0 0] 25)) #[.int .i64 0, .int .i64 0, .slice none 0 0, .slice none 0 0] 58
    simpa using this
  have hz0 : w.heap.size + 2 ≤ ((w.alloc (Obj.cells #[.slice none 0 0] 25)).alloc (Obj.cells #[.int .i64 0, .int .i64 0, .slice none 0 0, .slice none 0 0] 58)).heap.size := by simp
  generalize hW0 : (w.alloc (Obj.cells #[.slice none 0 0] 25)).alloc (Obj.cells #[.int .i64 0, .int .i64 0, .slice none 0 0, .slice none 0 0] 58) = W0 at *
  clear hW0
  refine (open16 a n c zs w.heap.size _ hn hc (H.below hA0 (Nat.le_refl _))).mono ?_
  rintro e W1 ⟨m1, d1, ys1, rfl, hm1, _, hB1, rfl⟩
  have R1 : RdTo (W0.alloc (.cells #[.slice a m1 d1, .int .i64 0] 135)) W0.heap.size 0 := ⟨0, Nat.le_refl _, rd_start hm1 (by omega) hB1⟩
  clear hB1
  go_wp2_with fail
  refine (l5_any W0.heap.size 0 _ (by omega) (by simp) R1).mono ?_
  rintro e W2 ⟨b1, c1, os1, vs1, x1, y1, a1, n1, k1, a1', n1', k1', l1, rfl, hT1, hlen1, hsm1, hL1, hbd1, hr2, hb2⟩
  have hs2 : W0.heap.size + 1 ≤ W2.heap.size := by have := hb2.below.size; simpa using this
  have HF0 : Hid (FSt w ((W2.alloc (Obj.cells #[.slice (some ⟨b1, 0, none⟩) 32 c1] 25)).alloc (Obj.cells #[.int .i64 x1, .int .i64 y1, .slice a1 n1 k1, .slice a1' n1' k1'] 58)) W0.heap.size 300 W2.heap.size (W2.heap.size + 1) b1 c1 os1 vs1 x1 y1 a1 n1 k1 a1' n1' k1' l1) := by
    have hA2 : Below w.heap.size w W2 := (hA0.alloc (by omega) _).trans (hb2.below.mono (by omega))
    have hk : ∀ i, i < W0.heap.size → W2.heap[i]? = W0.heap[i]? := fun i hi => (hb2.block i (by omega) (by simp; omega)).trans (((Below.refl W0.heap.size W0).alloc (Nat.le_refl _) _).block i hi)
    have hal : Below W2.heap.size W2 ((W2.alloc (Obj.cells #[.slice (some ⟨b1, 0, none⟩) 32 c1] 25)).alloc (Obj.cells #[.int .i64 x1, .int .i64 y1, .slice a1 n1 k1, .slice a1' n1' k1'] 58)) := ((Below.refl _ _).alloc (Nat.le_refl _) _).alloc (by simp) _
    have e1 : W0.heap.size + 1 = (W0.alloc (.cells #[.slice a m1 d1, .int .i64 0] 135)).heap.size := by simp
    refine ⟨hA2.trans (hal.mono (by omega)), (r2.of_block (hk _ (by omega))).of_block (hal.block _ (by omega)), (r3.of_block (hk _ (by omega))).of_block (hal.block _ (by omega)), hz0, by omega, by omega, by simp, hr2.but hal (by omega), (row1 W2 _ 25).alloc _, ⟨by simp [go_sem], by simp [go_sem], by simp [go_sem], by simp [go_sem]⟩, (by rw [e1]; exact hT1.below hal), hlen1, hsm1.mono (by omega), ?_⟩
    exact (hL1.wide (by omega) (Nat.le_refl _)).below hal (Nat.le_refl _)
  have hz2 : W0.heap.size < W2.heap.size := by omega
  have HSM1 : Hid (Sm os1 60) := hsm1
  clear hT1 hlen1 hsm1 hL1 hr2 hb2 R1 r2 r3 hs2
  go_wp2_with fail
  generalize hW3 : (W2.alloc (Obj.cells #[.slice (some ⟨b1, 0, none⟩) 32 c1] 25)).alloc (Obj.cells #[.int .i64 x1, .int .i64 y1, .slice a1 n1 k1, .slice a1' n1' k1'] 58) = W3 at *
  obtain ⟨T6, hT6⟩ : ∃ t, t = W2.heap.size + 1 := ⟨_, rfl⟩
  rw [← hT6] at HF0 ⊢
  generalize hT5 : W2.heap.size = T5 at *
  generalize hrb : W0.heap.size = rb at *
  have h56 : T5 < T6 := by omega
  clear hW3 hT6 hT5 hrb
  refine (pick_to rb 300 2 _ (by omega) (by omega) (by omega) HF0.out.rd).mono ?_
  rintro e W4 ⟨⟨d, rfl, hd⟩, hr4, hb4⟩
  have HF : Hid (FSt w W4 rb 301 T5 T6 b1 c1 os1 vs1 x1 y1 a1 n1 k1 a1' n1' k1' l1) := HF0.out.next hb4 hr4
  clear HF0 hr4 hb4 hA0 H
  have hl1 := HF.out.lo
  have hl2 := HF.out.l5
  have hl3 := HF.out.sz
  by_cases hd0 : d = 0
  · subst hd0
    go_upto_region 4 with fail
    have hBt : But rb W4 W4.drew := But.of_below (by omega) (Below.refl _ _).drew
    have hRd : RdTo W4.drew rb 301 := HF.out.rd.but (Below.refl _ _).drew (by omega)
    have c5 := HF.out.c5
    go_cut [] (fun wx => ∃ b2 c2 os2 vs2, FSt w wx rb 400 T5 T6 b2 c2 os2 vs2 x1 y1 a1 n1 k1 a1' n1' k1' l1)
    case first =>
      refine wp_region_held_drew (S := (fun _ => True)) (by kernel_rfl) ?_ (fun hHeld => ?_)
      · trivial
      refine listH (l2 := #[false, false, false, false, false, false, false, false, false]) (by kernel_rfl) ?_
      refine takeH (i := 0) (oi := _) (v := ?vk41) 18 #[true, false, false, false, false, false, false, false, false] rfl (by kernel_rfl) (by kernel_rfl) (by kernel_rfl) rfl (by kernel_rfl) (fun _ _ _ h => h) (Or.inl ⟨by rfl, ?yk41⟩) (by assumption) ?rk41
      case yk41 => (intro w' hSw; go_simp; try with_reducible rfl)
      simp only [Act.put, List.setIfInBounds_toArray, List.set_cons_succ, List.set_cons_zero]
      refine takeH (i := 2) (oi := _) (v := ?vk42) 20 #[true, false, true, false, false, false, false, false, false] rfl (by kernel_rfl) (by kernel_rfl) (by kernel_rfl) rfl (by kernel_rfl) (fun _ _ _ h => h) (Or.inl ⟨by rfl, ?yk42⟩) (by assumption) ?rk42
      case yk42 => (intro w' hSw; go_simp; try with_reducible rfl)
      simp only [Act.put, List.setIfInBounds_toArray, List.set_cons_succ, List.set_cons_zero]
      refine wpAnyH_ready (rs := [1, 3]) (by kernel_rfl) (by simp) ?_
      refine AllReadyH.cons (o := _) rfl (fun K hK => ?_) (AllReadyH.cons (o := _) rfl (fun K hK => ?_) AllReadyH.nil)
      · go_simp
        refine hK.out _ _ trivial (fun hHeld => ?_)
        clear hK K
        try simp only [Act.put]
        refine listH (l2 := #[true, true, true, false, false, false, false, false, false]) (by kernel_rfl) ?_
        refine wpAnyH_ready (rs := [3]) (by kernel_rfl) (by simp) ?_
        refine AllReadyH.cons (o := _) rfl (fun K hK => ?_) AllReadyH.nil
        go_simp
        refine (pick_to rb 301 4 _ (by omega) (by omega) (by omega) hRd).mono ?_
        rintro e V3 ⟨⟨j, rfl, hj⟩, hRd, hb3⟩
        have hBt := hBt.trans hb3
        clear hb3
        go_wp2_with fail
        refine hK.out _ _ trivial (fun hHeld => ?_)
        clear hK K
        try simp only [Act.put]
        refine listH (l2 := #[true, true, true, true, false, false, false, false, false]) (by kernel_rfl) ?_
        refine wpAnyH_ready (rs := [4]) (by kernel_rfl) (by simp) ?_
        refine AllReadyH.cons (o := _) rfl (fun K hK => ?_) AllReadyH.nil
        go_simp
        have HN := HF.out.next hBt hRd
        refine (grow_any rb 302 (rb + 1) b1 c1 j 60 os1 vs1 0 _ (by omega) (by omega) (by omega) (by have := HN.szr; omega) (by omega) HN.len HSM1.out HN.tree HN.rd).mono ?_
        clear HN
        rintro e V5 ⟨b2, c2, os2, vs2, l2, ops2, rfl, hT2, hl2, hs2, _, _, hRd, hb5⟩
        have hBt := hBt.trans hb5
        clear hb5
        go_wp2_with fail
        refine hK.out _ _ trivial (fun hHeld => ?_)
        clear hK K
        try simp only [Act.put]
        refine listH (l2 := #[true, true, true, true, true, false, false, false, false]) (by kernel_rfl) ?_
        refine takeH (i := 5) (oi := _) (v := ?vk35) 17 #[true, true, true, true, true, true, false, false, false] rfl (by kernel_rfl) (by kernel_rfl) (by kernel_rfl) rfl (by kernel_rfl) (fun _ _ _ h => h) (Or.inl ⟨by rfl, ?yk35⟩) (by assumption) ?rk35
        case yk35 => (intro w' hSw; go_simp; try with_reducible rfl)
        simp only [Act.put, List.setIfInBounds_toArray, List.set_cons_succ, List.set_cons_zero]
        refine takeH (i := 6) (oi := _) (v := ?vk36) 23 #[true, true, true, true, true, true, true, false, false] rfl (by kernel_rfl) (by kernel_rfl) (by kernel_rfl) rfl (by kernel_rfl) (fun _ _ _ h => h) (Or.inl ⟨by rfl, ?yk36⟩) (by assumption) ?rk36
        case yk36 => (intro w' hSw; go_simp; try with_reducible rfl)
        simp only [Act.put, List.setIfInBounds_toArray, List.set_cons_succ, List.set_cons_zero]
        refine takeH (i := 7) (oi := _) (v := ?vk37) 24 #[true, true, true, true, true, true, true, true, false] rfl (by kernel_rfl) (by kernel_rfl) (by kernel_rfl) rfl (by kernel_rfl) (fun _ _ _ h => h) (Or.inl ⟨by rfl, ?yk37⟩) (by assumption) ?rk37
        case yk37 => (intro w' hSw; go_simp; try with_reducible rfl)
        simp only [Act.put, List.setIfInBounds_toArray, List.set_cons_succ, List.set_cons_zero]
        have HN := HF.out.next hBt hRd
        have R5 := HN.q5
        refine wpAnyH_ready (rs := [8]) (by kernel_rfl) (by simp) ?_
        refine AllReadyH.cons (o := _) rfl (fun K hK => ?_) AllReadyH.nil
        refine st_store53 _ 5 23 T5 (.slice (some ⟨b2, 0, none⟩) 32 c2) _ rfl (some ⟨b2, 0, none⟩) 32 c2 rfl rfl R5 ?_
        intro F hbF hF _
        have HS := HN.store hT2 hl2 (hs2.mono (by omega)) F hbF hF
        clear hF
        refine hK.out _ _ trivial (fun hHeld => ?_)
        clear hK K
        refine listH (l2 := #[true, true, true, true, true, true, true, true, true]) (by kernel_rfl) ?_
        refine wpAnyH_done (by kernel_rfl) ?_ _
        go_wp2_with fail
        go_meet
        exact ⟨b2, c2, os2, vs2, HS.on (by omega)⟩
      · go_simp
        refine (pick_to rb 301 4 _ (by omega) (by omega) (by omega) hRd).mono ?_
        rintro e V3 ⟨⟨j, rfl, hj⟩, hRd, hb3⟩
        have hBt := hBt.trans hb3
        clear hb3
        go_wp2_with fail
        have c5 := (HF.out.next hBt hRd).c5
        refine hK.out _ _ trivial (fun hHeld => ?_)
        clear hK K
        try simp only [Act.put]
        refine listH (l2 := #[true, false, true, true, false, false, false, false, false]) (by kernel_rfl) ?_
        refine wpAnyH_ready (rs := [1]) (by kernel_rfl) (by simp) ?_
        refine AllReadyH.cons (o := _) rfl (fun K hK => ?_) AllReadyH.nil
        go_simp
        refine hK.out _ _ trivial (fun hHeld => ?_)
        clear hK K
        try simp only [Act.put]
        refine listH (l2 := #[true, true, true, true, false, false, false, false, false]) (by kernel_rfl) ?_
        refine wpAnyH_ready (rs := [4]) (by kernel_rfl) (by simp) ?_
        refine AllReadyH.cons (o := _) rfl (fun K hK => ?_) AllReadyH.nil
        go_simp
        have HN := HF.out.next hBt hRd
        refine (grow_any rb 302 (rb + 1) b1 c1 j 60 os1 vs1 0 _ (by omega) (by omega) (by omega) (by have := HN.szr; omega) (by omega) HN.len HSM1.out HN.tree HN.rd).mono ?_
        clear HN
        rintro e V5 ⟨b2, c2, os2, vs2, l2, ops2, rfl, hT2, hl2, hs2, _, _, hRd, hb5⟩
        have hBt := hBt.trans hb5
        clear hb5
        go_wp2_with fail
        refine hK.out _ _ trivial (fun hHeld => ?_)
        clear hK K
        try simp only [Act.put]
        refine listH (l2 := #[true, true, true, true, true, false, false, false, false]) (by kernel_rfl) ?_
        refine takeH (i := 5) (oi := _) (v := ?vk38) 17 #[true, true, true, true, true, true, false, false, false] rfl (by kernel_rfl) (by kernel_rfl) (by kernel_rfl) rfl (by kernel_rfl) (fun _ _ _ h => h) (Or.inl ⟨by rfl, ?yk38⟩) (by assumption) ?rk38
        case yk38 => (intro w' hSw; go_simp; try with_reducible rfl)
        simp only [Act.put, List.setIfInBounds_toArray, List.set_cons_succ, List.set_cons_zero]
        refine takeH (i := 6) (oi := _) (v := ?vk39) 23 #[true, true, true, true, true, true, true, false, false] rfl (by kernel_rfl) (by kernel_rfl) (by kernel_rfl) rfl (by kernel_rfl) (fun _ _ _ h => h) (Or.inl ⟨by rfl, ?yk39⟩) (by assumption) ?rk39
        case yk39 => (intro w' hSw; go_simp; try with_reducible rfl)
        simp only [Act.put, List.setIfInBounds_toArray, List.set_cons_succ, List.set_cons_zero]
        refine takeH (i := 7) (oi := _) (v := ?vk40) 24 #[true, true, true, true, true, true, true, true, false] rfl (by kernel_rfl) (by kernel_rfl) (by kernel_rfl) rfl (by kernel_rfl) (fun _ _ _ h => h) (Or.inl ⟨by rfl, ?yk40⟩) (by assumption) ?rk40
        case yk40 => (intro w' hSw; go_simp; try with_reducible rfl)
        simp only [Act.put, List.setIfInBounds_toArray, List.set_cons_succ, List.set_cons_zero]
        have HN := HF.out.next hBt hRd
        have R5 := HN.q5
        refine wpAnyH_ready (rs := [8]) (by kernel_rfl) (by simp) ?_
        refine AllReadyH.cons (o := _) rfl (fun K hK => ?_) AllReadyH.nil
        refine st_store53 _ 5 23 T5 (.slice (some ⟨b2, 0, none⟩) 32 c2) _ rfl (some ⟨b2, 0, none⟩) 32 c2 rfl rfl R5 ?_
        intro F hbF hF _
        have HS := HN.store hT2 hl2 (hs2.mono (by omega)) F hbF hF
        clear hF
        refine hK.out _ _ trivial (fun hHeld => ?_)
        clear hK K
        refine listH (l2 := #[true, true, true, true, true, true, true, true, true]) (by kernel_rfl) ?_
        refine wpAnyH_done (by kernel_rfl) ?_ _
        go_wp2_with fail
        go_meet
        exact ⟨b2, c2, os2, vs2, HS.on (by omega)⟩
    obtain ⟨b, c9, os, vs, h9⟩ := hcut
    clear HF hBt hRd c5
    rename World => X
    have h9d := h9.drew
    go_upto_region 5 with fail
    have R2 := h9d.r2
    have R3 := h9d.r3
    have s5 := h9d.c5
    have bx := h9d.q6
    have HT : Hid (OwnT _ (rb + 1) b c9 os vs) := h9d.tree
    have HLEN : Hid (os.length = 32) := h9d.len
    have HSM : Hid (Sm os 72) := h9d.sm
    have HBL : Hid (Below w.heap.size w _) := h9d.below
    have HLOG : Hid (LogAt _ (rb + 1) T5 x1 y1 a1 n1 a1' n1' l1) := h9d.log
    have hszX := h9d.sz
    clear h9d
    clear h9
    refine wp_region_held_drew (S := (fun W => W.cell? ⟨T5, 0, none⟩ = some (.slice (some ⟨b, 0, none⟩) 32 c9) ∧ LogBox W T6 x1 y1 a1 n1 k1 a1' n1' k1')) (by kernel_rfl) ?_ (fun hHeld => ?_)
    · exact ⟨s5, bx⟩
    refine listH (l2 := #[false, false, false, false]) (by kernel_rfl) ?_
    refine takeH (i := 0) (oi := _) (v := ?vk43) 25 #[true, false, false, false] rfl (by kernel_rfl) (by kernel_rfl) (by kernel_rfl) rfl (by kernel_rfl) (fun _ _ _ h => h) (Or.inl ⟨by rfl, ?yk43⟩) (by assumption) ?rk43
    case yk43 => (intro w' hSw; obtain ⟨u1, _⟩ := hSw; go_simp; try with_reducible rfl)
    simp only [Act.put, List.setIfInBounds_toArray, List.set_cons_succ, List.set_cons_zero]
    refine takeH (i := 1) (oi := _) (v := ?vk44) 26 #[true, true, false, false] rfl (by kernel_rfl) (by kernel_rfl) (by kernel_rfl) rfl (by kernel_rfl) (fun _ _ _ h => h) (Or.inl ⟨by rfl, ?yk44⟩) (by assumption) ?rk44
    case yk44 => (intro w' hSw; obtain ⟨_, v0, v1, v2, v3⟩ := hSw; go_simp; try with_reducible rfl)
    simp only [Act.put, List.setIfInBounds_toArray, List.set_cons_succ, List.set_cons_zero]
    refine wpAnyH_ready (rs := [2]) (by kernel_rfl) (by simp) ?_
    refine AllReadyH.cons (o := _) rfl (fun K hK => ?_) AllReadyH.nil
    refine st_store53 _ 2 25 w.heap.size (.slice (some ⟨b, 0, none⟩) 32 c9) _ rfl (some ⟨b, 0, none⟩) 32 c9 rfl rfl R2 ?_
    intro F1 hb1 hE_ hc1
    clear hE_
    have T1 := HT.out.other hb1 R2 (by decide) (by decide)
    have R3 := R3.of_block (hb1.block _ (by omega) R3.lt)
    refine hK.out _ _ (⟨by rw [hb1.cell (by simp; omega) (cell_lt hHeld.1)]; exact hHeld.1, hHeld.2.of (hb1.block T6 (by omega) (cell_lt hHeld.2.c0))⟩) (fun hHeld => ?_)
    clear hK K
    refine listH (l2 := #[true, true, true, false]) (by kernel_rfl) ?_
    refine wpAnyH_ready (rs := [3]) (by kernel_rfl) (by simp) ?_
    refine AllReadyH.cons (o := _) rfl (fun K hK => ?_) AllReadyH.nil
    refine st_store29 _ 3 26 (w.heap.size + 1) x1 y1 a1 n1 k1 a1' n1' k1' _ rfl rfl R3 (LogCells.zero R3) ?_
    intro F2 hb2 hbox _ _
    have T2 := T1.other hb2 R3 (by decide) (by decide)
    have hlt2 := cell_lt hc1
    have hc1 : F2.cell? ⟨w.heap.size, 0, none⟩ = some (.slice (some ⟨b, 0, none⟩) 32 c9) := by rw [hb2.cell (by simp) (by simpa using hlt2)]; exact hc1
    refine hK.out _ _ (⟨by rw [hb2.cell (by simp; omega) (cell_lt hHeld.1)]; exact hHeld.1, hHeld.2.of (hb2.block T6 (by omega) (cell_lt hHeld.2.c0))⟩) (fun hHeld => ?_)
    clear hK K
    refine listH (l2 := #[true, true, true, true]) (by kernel_rfl) ?_
    refine wpAnyH_done (by kernel_rfl) ?_ _
    go_wp2_with fail
    refine bodyPost_ret (v := .tuple #[.agg #[.slice (some ⟨b, 0, none⟩) 32 c9], .agg #[.int .i64 x1, .int .i64 y1, .slice a1 n1 k1, .slice a1' n1' k1']]) (by simp [results, Tryz.results42, go_sem, hc1, hbox.c0, hbox.c1, hbox.c2, hbox.c3]) rfl ?_
    have hO := T2.to_objs
    rw [HLEN.out] at hO
    refine ⟨⟨b, c9, os, x1, y1, a1, n1, k1, a1', n1', k1', l1, rfl, hO.wide (by omega) (Nat.le_refl _), HSM.out.sizes (by omega), ?_, hbd1⟩, (HBL.out.trans (hb1.below.mono (Nat.le_refl _))).trans (hb2.below.mono (by omega))⟩
    have hz1 := hb1.below.size
    have hz2 := hb2.below.size
    refine (HLOG.out.blocks fun i h1 h2 => ?_).wide (by omega) (by omega)
    exact (hb2.block i (by omega) (by omega)).trans (hb1.block i (by omega) (by omega))
  · have t0 : ((d : Int) == 0) = false := by simp; omega
    go_upto_region 5 with fail
    have h9d := HF.out.drew
    generalize hb9 : b1 = b at *
    generalize hc9 : c1 = c9 at *
    generalize ho9 : os1 = os at *
    generalize hv9 : vs1 = vs at *
    clear hb9 hc9 ho9 hv9 HF HSM1
    have R2 := h9d.r2
    have R3 := h9d.r3
    have s5 := h9d.c5
    have bx := h9d.q6
    have HT : Hid (OwnT _ (rb + 1) b c9 os vs) := h9d.tree
    have HLEN : Hid (os.length = 32) := h9d.len
    have HSM : Hid (Sm os 72) := h9d.sm
    have HBL : Hid (Below w.heap.size w _) := h9d.below
    have HLOG : Hid (LogAt _ (rb + 1) T5 x1 y1 a1 n1 a1' n1' l1) := h9d.log
    have hszX := h9d.sz
    clear h9d
    refine wp_region_held_drew (S := (fun W => W.cell? ⟨T5, 0, none⟩ = some (.slice (some ⟨b, 0, none⟩) 32 c9) ∧ LogBox W T6 x1 y1 a1 n1 k1 a1' n1' k1')) (by kernel_rfl) ?_ (fun hHeld => ?_)
    · exact ⟨s5, bx⟩
    refine listH (l2 := #[false, false, false, false]) (by kernel_rfl) ?_
    refine takeH (i := 0) (oi := _) (v := ?vk45) 25 #[true, false, false, false] rfl (by kernel_rfl) (by kernel_rfl) (by kernel_rfl) rfl (by kernel_rfl) (fun _ _ _ h => h) (Or.inl ⟨by rfl, ?yk45⟩) (by assumption) ?rk45
    case yk45 => (intro w' hSw; obtain ⟨u1, _⟩ := hSw; go_simp; try with_reducible rfl)
    simp only [Act.put, List.setIfInBounds_toArray, List.set_cons_succ, List.set_cons_zero]
    refine takeH (i := 1) (oi := _) (v := ?vk46) 26 #[true, true, false, false] rfl (by kernel_rfl) (by kernel_rfl) (by kernel_rfl) rfl (by kernel_rfl) (fun _ _ _ h => h) (Or.inl ⟨by rfl, ?yk46⟩) (by assumption) ?rk46
    case yk46 => (intro w' hSw; obtain ⟨_, v0, v1, v2, v3⟩ := hSw; go_simp; try with_reducible rfl)
    simp only [Act.put, List.setIfInBounds_toArray, List.set_cons_succ, List.set_cons_zero]
    refine wpAnyH_ready (rs := [2]) (by kernel_rfl) (by simp) ?_
    refine AllReadyH.cons (o := _) rfl (fun K hK => ?_) AllReadyH.nil
    refine st_store53 _ 2 25 w.heap.size (.slice (some ⟨b, 0, none⟩) 32 c9) _ rfl (some ⟨b, 0, none⟩) 32 c9 rfl rfl R2 ?_
    intro F1 hb1 hE_ hc1
    clear hE_
    have T1 := HT.out.other hb1 R2 (by decide) (by decide)
    have R3 := R3.of_block (hb1.block _ (by omega) R3.lt)
    refine hK.out _ _ (⟨by rw [hb1.cell (by simp; omega) (cell_lt hHeld.1)]; exact hHeld.1, hHeld.2.of (hb1.block T6 (by omega) (cell_lt hHeld.2.c0))⟩) (fun hHeld => ?_)
    clear hK K
    refine listH (l2 := #[true, true, true, false]) (by kernel_rfl) ?_
    refine wpAnyH_ready (rs := [3]) (by kernel_rfl) (by simp) ?_
    refine AllReadyH.cons (o := _) rfl (fun K hK => ?_) AllReadyH.nil
    refine st_store29 _ 3 26 (w.heap.size + 1) x1 y1 a1 n1 k1 a1' n1' k1' _ rfl rfl R3 (LogCells.zero R3) ?_
    intro F2 hb2 hbox _ _
    have T2 := T1.other hb2 R3 (by decide) (by decide)
    have hlt2 := cell_lt hc1
    have hc1 : F2.cell? ⟨w.heap.size, 0, none⟩ = some (.slice (some ⟨b, 0, none⟩) 32 c9) := by rw [hb2.cell (by simp) (by simpa using hlt2)]; exact hc1
    refine hK.out _ _ (⟨by rw [hb2.cell (by simp; omega) (cell_lt hHeld.1)]; exact hHeld.1, hHeld.2.of (hb2.block T6 (by omega) (cell_lt hHeld.2.c0))⟩) (fun hHeld => ?_)
    clear hK K
    refine listH (l2 := #[true, true, true, true]) (by kernel_rfl) ?_
    refine wpAnyH_done (by kernel_rfl) ?_ _
    go_wp2_with fail
    refine bodyPost_ret (v := .tuple #[.agg #[.slice (some ⟨b, 0, none⟩) 32 c9], .agg #[.int .i64 x1, .int .i64 y1, .slice a1 n1 k1, .slice a1' n1' k1']]) (by simp [results, Tryz.results42, go_sem, hc1, hbox.c0, hbox.c1, hbox.c2, hbox.c3]) rfl ?_
    have hO := T2.to_objs
    rw [HLEN.out] at hO
    refine ⟨⟨b, c9, os, x1, y1, a1, n1, k1, a1', n1', k1', l1, rfl, hO.wide (by omega) (Nat.le_refl _), HSM.out.sizes (by omega), ?_, hbd1⟩, (HBL.out.trans (hb1.below.mono (Nat.le_refl _))).trans (hb2.below.mono (by omega))⟩
    have hz1 := hb1.below.size
    have hz2 := hb2.below.size
    refine (HLOG.out.blocks fun i h1 h2 => ?_).wide (by omega) (by omega)
    exact (hb2.block i (by omega) (by omega)).trans (hb1.block i (by omega) (by omega))
end Go.Proofs.YtnolbfijcnldjaaGreatDoor

/- Paths: contracts of the program and of the specification. -/
namespace Go.Proofs.YtnolbfijcnldjaaGreatDoor
open Go.RowKit

end Go.Proofs.YtnolbfijcnldjaaGreatDoor

/- Plain facts about trees that are ok: going up again and again. -/
namespace Go.Proofs.YtnolbfijcnldjaaGreatDoor
open Go.RowKit

/-- Going up so many times. -/
def it (os : List LObj) : Nat → Int → Int
  | 0, id => id
  | k + 1, id => it os k (homeIn (flat os) id)
theorem it_add (os : List LObj) : ∀ (j k : Nat) (id : Int), it os (j + k) id = it os k (it os j id)
  | 0, k, id => by simp [it]
  | j + 1, k, id => by
    have : j + 1 + k = (j + k) + 1 := by omega
    rw [this, it, it, it_add os j k]
theorem home_neg {os : List LObj} (hs : specOk os = true) {id : Int} (h : id ≤ 0) : homeIn (flat os) id = -1 := by
  have hi := (specOk_iff os).1 hs
  refine homeIn_off fun x hx e => ?_
  obtain ⟨k, e1, k1, k2⟩ := flat_ids (ids_of_ok hi.2.1) hx
  omega
theorem it_neg {os : List LObj} (hs : specOk os = true) : ∀ (k : Nat) {id : Int}, id < 0 → it os k id < 0
  | 0, _, h => h
  | k + 1, id, h => by
    rw [it, home_neg hs (by omega)]
    exact it_neg hs k (by omega)
theorem under_iff {os : List LObj} (hs : specOk os = true) (dir : Int) : ∀ (k : Nat) (id : Int), under os dir k id = true ↔ 0 ≤ dir ∧ ∃ j, j < k ∧ it os j id = dir
  | 0, id => by simp [under]
  | k + 1, id => by
    unfold under
    by_cases h0 : 0 ≤ id
    · rw [if_pos h0]
      by_cases he : id = dir
      · rw [if_pos he]
        simp
        exact ⟨by omega, 0, by omega, he⟩
      · rw [if_neg he, under_iff hs dir k]
        constructor
        · rintro ⟨h1, j, h2, h3⟩
          exact ⟨h1, j + 1, by omega, h3⟩
        · rintro ⟨h1, j, h2, h3⟩
          cases j with
          | zero => exact absurd h3 he
          | succ j => exact ⟨h1, j, by omega, h3⟩
    · rw [if_neg h0]
      simp
      intro h1 j _ h3
      have := it_neg hs j (id := id) (by omega)
      omega
theorem climb_it (os : List LObj) : ∀ (k : Nat) (id : Int), climb os k id = 0 → ∃ m, m ≤ k ∧ it os m id = 0
  | 0, id, h => ⟨0, Nat.le_refl _, h⟩
  | k + 1, id, h => by
    by_cases h0 : 0 < id
    · rw [climb_step os k h0] at h
      obtain ⟨m, hm, e⟩ := climb_it os k _ h
      exact ⟨m + 1, by omega, e⟩
    · rw [climb_stop os (k + 1) h0] at h
      exact ⟨0, by omega, h⟩
/-- From each object that is there one comes to the top. -/
theorem depth {os : List LObj} (hs : specOk os = true) {id : Int} (h : hasB os id = true) : ∃ m, m ≤ 32 ∧ it os m id = 0 := by
  have hi := (specOk_iff os).1 hs
  simp [hasB] at h
  have hc := hi.2.2.2.2 id.toNat (by omega) h.2
  have e : ((id.toNat : Nat) : Int) = id := by omega
  rw [e] at hc
  obtain ⟨m, hm, e⟩ := climb_it os 31 id hc
  exact ⟨m, by omega, e⟩
theorem depth31 {os : List LObj} (hs : specOk os = true) {id : Int} (h : hasB os id = true) : ∃ m, m ≤ 31 ∧ it os m id = 0 := by
  have hi := (specOk_iff os).1 hs
  simp [hasB] at h
  have hc := hi.2.2.2.2 id.toNat (by omega) h.2
  have e : ((id.toNat : Nat) : Int) = id := by omega
  rw [e] at hc
  exact climb_it os 31 id hc
theorem it_end {os : List LObj} (hs : specOk os = true) {id : Int} {m j : Nat} (hm : it os m id = 0) (hj : 0 ≤ it os j id) : j ≤ m := by
  apply Classical.byContradiction
  intro hn
  obtain ⟨k, rfl⟩ : ∃ k, j = m + (k + 1) := ⟨j - m - 1, by omega⟩
  rw [it_add, hm, it, home_neg hs (by omega)] at hj
  have := it_neg hs k (id := -1) (by omega)
  omega
theorem has_iff (os : List LObj) (id : Int) : hasB os id = true ↔ 0 ≤ id ∧ id < 32 ∧ kindOf os id.toNat ≠ 0 := by
  simp [hasB]; omega
/-- What has names is a directory. -/
theorem kids_dir {o : LObj} (h : objB o = true) (hk : o.kids ≠ []) : o.kind = 2 ∧ kidsB o.kids = true := by
  unfold objB at h
  rw [Bool.and_eq_true] at h
  have h2 := h.2
  have hn : ¬ nil? o.kids.length = true := by
    unfold nil?
    simp
    exact hk
  unfold partsB at h2
  split at h2
  · rw [Bool.and_eq_true] at h2; exact absurd h2.2 hn
  · split at h2
    · rw [Bool.and_eq_true] at h2; exact absurd h2.2 hn
    · split at h2
      · next h3 => rw [Bool.and_eq_true] at h2; exact ⟨h3, h2.2⟩
      · cases h2
end Go.Proofs.YtnolbfijcnldjaaGreatDoor

/- Plain facts about paths of trees that are ok. -/
namespace Go.Proofs.YtnolbfijcnldjaaGreatDoor
open Go.RowKit

theorem less_self (l : List UInt8) : Op.bytesLess l l = false := by
  induction l with
  | nil => simp [Op.bytesLess]
  | cons x t ih => simp [Op.bytesLess, ih]
end Go.Proofs.YtnolbfijcnldjaaGreatDoor

/- A copy of objects, and of names, of the call's own. -/
namespace Go.Proofs.YtnolbfijcnldjaaGreatDoor
open Go.RowKit

theorem OwnT.base' {w : World} {B B' b c : Nat} {os : List LObj} {vs : Nat → Value} (h : OwnT w B b c os vs) (hB : B' ≤ B) : OwnT w B' b c os vs :=
  ⟨by have := h.lo; omega, h.row, fun i o ho => by
    obtain ⟨h1, h2, h3, h4, h5, h6, h7⟩ := h.at_ i o ho
    refine ⟨h1, h2, h3, h4, h5, ⟨h6.1, ?_⟩, h7⟩
    rcases h6.2 with h | ⟨g, cap, cur, q1, q2, q3⟩
    · exact .inl h
    · exact .inr ⟨g, cap, cur, q1, by omega, q3⟩, h.apart⟩

/-- What an append of names onto nothing leaves. -/
def NewEnts (w w' : World) (B : Nat) (v : Value) (es : List LEnt) : Prop := OwnEnts w' B v es ∧ w.grownBy w' none ∧ (v.ownBlock = none ∨ v.ownBlock = some w.heap.size)
theorem run_app_new (w : World) (ty : TypeId) (B m c : Nat) (ka : Option Addr) (es : List LEnt) (hm : m = es.length) (hB : B ≤ w.heap.size) (hbd : m ≤ 1048576)
    (hsrc : m ≠ 0 → ∃ ad, ka = some ad ∧ ∀ j u, (entCells es)[j]? = some u → w.cell? (ad.add j) = some u) :
    ∃ a' c' w', (Builtin.append_ #[36, 36] ty #[.slice none 0 0, .slice ka m c]).run Tryz.prog w = .ok (.slice a' m c') w' ∧ NewEnts w w' B (.slice a' m c') es := by
  obtain ⟨i0, hi, hz0, hz1, hz2⟩ := info_parts info47'
  by_cases h0 : m = 0
  · subst h0
    obtain rfl : es = [] := List.eq_nil_of_length_eq_zero hm.symm
    have hs : Src Tryz.prog i0.size 36 (.slice ka 0 c) 0 [] w := by
      cases ka with
      | none => exact Src.ofNil w Tryz.underlying36 c
      | some ad => exact Src.ofSlice w Tryz.underlying36 ad 0 c [] (by simp) (fun j u hu => by simp at hu) (fun u hu => by simp at hu)
    exact ⟨none, 0, w, run_append_nothing (P := Tryz.prog) w 36 36 ty 53 i0 Tryz.underlying36 hi none 0 0 (Nat.le_refl _) _ hs, OwnEnts.bare w B, World.grownBy.refl w none, .inl rfl⟩
  · obtain ⟨ad, rfl, hc⟩ := hsrc h0
    obtain ⟨v', w', hr, h2, h3, h4, h5⟩ := run_append_own_at (P := Tryz.prog) w B 36 ty 53 i0 _ 2 24 Tryz.underlying36 hi hz0 hz1 hz2 rfl (by decide) _ _ _ (OwnEnts.bare w B) ad m c (entCells es) (by rw [entCells_len, hm]) hc (entCells_one _) (by unfold maxLen; simp; omega) (by simp; omega) hB
    have h2' := h2
    rcases h2.2 with ⟨hv, _⟩ | ⟨g', cap', cur, rfl, hb, hg, _⟩
    · exact absurd (h4.1 hv).2 h0
    · have h5' : g' = w.heap.size := by simpa [Value.ownBlock] using h5
      simp only [List.length_nil, Nat.zero_add] at hr h2'
      refine ⟨_, _, _, hr, ?_, by simpa [Value.ownBlock] using h3, .inr (by simp [Value.ownBlock, h5'])⟩
      unfold OwnEnts
      rw [← hm]
      simpa [entCells] using h2'
theorem wpList_app_new (w : World) {ops : Array Oper} {rest : List Oper} {o : Oper} {a : Act} {Q : Exit → Act → World → Prop} (hgd : o.guard = none) (s x : Operand)
    (ho : o.op = .call { callee := .builtin .append, args := #[s, x], argTypes := #[36, 36] }) (B m c : Nat) (ka : Option Addr) (es : List LEnt) (hs : a.eval s = .slice none 0 0) (hx : a.eval x = .slice ka m c) (hm : m = es.length) (hB : B ≤ w.heap.size) (hbd : m ≤ 1048576)
    (hsrc : m ≠ 0 → ∃ ad, ka = some ad ∧ ∀ j u, (entCells es)[j]? = some u → w.cell? (ad.add j) = some u)
    (h : ∀ a' c' w', NewEnts w w' B (.slice a' m c') es → wpList Tryz.prog ops Q rest (a.put o.dst (.slice a' m c')) w') : wpList Tryz.prog ops Q (o :: rest) a w :=
  wpList_plain hgd fun _ hK => by
    obtain ⟨a', c', w', hr, h2⟩ := run_app_new w o.type B m c ka es hm hB hbd hsrc
    unfold Oper.wp execOp
    simp only [ho, resolve, invoke, builtin, Sem.run_bind, Sem.run_pure, Result.andThen_ok, List.map_toArray, List.map_cons, List.map_nil, hs, hx, hr]
    exact hK _ _ (h a' c' w' h2)

theorem objCells_one (os : List LObj) (vs : Nat → Value) (h : ∀ i, (vs i).oneCell' = true) : ∀ k, ∀ u ∈ objCells os vs k, u.oneCell' = true
  | 0, u, hu => by simp [objCells] at hu
  | k + 1, u, hu => by
    simp only [objCells, List.mem_append] at hu
    rcases hu with hu | hu
    · exact objCells_one os vs h k u hu
    · cases ho : os[k]? with
      | none => simp [ho] at hu
      | some o =>
        simp [ho] at hu
        rcases hu with rfl | rfl | rfl | rfl
        · rfl
        · rfl
        · rfl
        · exact h k
theorem objCells_get (os : List LObj) (vs : Nat → Value) (k j : Nat) (u : Value) (hk : k ≤ os.length) (h : (objCells os vs k)[j]? = some u) : ∃ i o, os[i]? = some o ∧ i < k ∧ ((j = i * 4 ∧ u = .int .i64 o.kind) ∨ (j = i * 4 + 1 ∧ u = .int .i64 o.ver) ∨ (j = i * 4 + 2 ∧ u = .string o.text) ∨ (j = i * 4 + 3 ∧ u = vs i)) := by
  have hl := (List.getElem?_eq_some_iff.1 h).1
  rw [objCells_len os vs k hk] at hl
  have hi : j / 4 < k := by omega
  have ho : os[j / 4]? = some (os[j / 4]'(by omega)) := by simp [show j / 4 < os.length by omega]
  obtain ⟨h0, h1, h2, h3⟩ := objCells_at os vs k hk (j / 4) _ hi ho
  refine ⟨j / 4, _, ho, hi, ?_⟩
  have hr : j % 4 = 0 ∨ j % 4 = 1 ∨ j % 4 = 2 ∨ j % 4 = 3 := by omega
  rcases hr with hr | hr | hr | hr
  · have e : j = j / 4 * 4 := by omega
    rw [← e, h] at h0
    exact .inl ⟨e, by simpa using h0⟩
  · have e : j = j / 4 * 4 + 1 := by omega
    rw [← e, h] at h1
    exact .inr (.inl ⟨e, by simpa using h1⟩)
  · have e : j = j / 4 * 4 + 2 := by omega
    rw [← e, h] at h2
    exact .inr (.inr (.inl ⟨e, by simpa using h2⟩))
  · have e : j = j / 4 * 4 + 3 := by omega
    rw [← e, h] at h3
    exact .inr (.inr (.inr ⟨e, by simpa using h3⟩))

/-- What the names of the objects are, as values. -/
structure KidsV (w : World) (L U : Nat) (os : List LObj) (ks : Nat → Value) : Prop where
  one : ∀ i, (ks i).oneCell' = true
  at_ : ∀ i o, os[i]? = some o → o.text.size ≤ maxLen ∧ ∃ ka kc, ks i = .slice ka o.kids.length kc ∧ EntsAt w L U ka o.kids.length o.kids
theorem ks_of {w : World} {L U n : Nat} {a : Option Addr} {os : List LObj} (H : ObjsAt w L U a n os) (hn : n ≠ 0) : ∃ b off ks, a = some ⟨b, off, none⟩ ∧ L ≤ b ∧ b < U ∧ (∀ j u, (objCells os ks n)[j]? = some u → w.cell? ((⟨b, off, none⟩ : Addr).add j) = some u) ∧ KidsV w L U os ks := by
  obtain ⟨b, off, ha, hL, hU, hc⟩ := H.at_ hn
  obtain ⟨l, hl, hp⟩ := list_of (n := n) (p := fun i (v : Value) => ∃ o ka kc, os[i]? = some o ∧ v = .slice ka o.kids.length kc ∧ o.text.size ≤ maxLen ∧ w.cell? ⟨b, off + i * 4, none⟩ = some (.int .i64 o.kind) ∧ w.cell? ⟨b, off + i * 4 + 1, none⟩ = some (.int .i64 o.ver) ∧ w.cell? ⟨b, off + i * 4 + 2, none⟩ = some (.string o.text) ∧ w.cell? ⟨b, off + i * 4 + 3, none⟩ = some v ∧ EntsAt w L U ka o.kids.length o.kids) (fun i hi => by
    obtain ⟨o, ka, kn, kc, q1, q2, q3, q4, q5, q6, q7⟩ := hc i hi
    have hk := q7.len
    subst hk
    exact ⟨_, o, ka, kc, q1, rfl, q2, q3, q4, q5, q6, q7⟩)
  have hlen := H.len
  refine ⟨b, off, fun i => (l[i]?).getD (.slice none 0 0), ha, hL, hU, fun j u hu => ?_, fun i => ?_, fun i o ho => ?_⟩
  · obtain ⟨i, o, ho, hi, h⟩ := objCells_get os _ n j u (by omega) hu
    obtain ⟨v, hv, o', ka, kc, q1, q2, q3, q4, q5, q6, q7, q8⟩ := hp i hi
    rw [ho] at q1
    cases q1
    have hadd : (⟨b, off, none⟩ : Addr).add j = ⟨b, off + j, none⟩ := by unfold Addr.add; split <;> simp_all
    rw [hadd]
    rcases h with ⟨rfl, rfl⟩ | ⟨rfl, rfl⟩ | ⟨rfl, rfl⟩ | ⟨rfl, rfl⟩
    · exact q4
    · exact q5
    · exact q6
    · simpa [hv, Nat.add_assoc] using q7
  · by_cases hi : i < n
    · obtain ⟨v, hv, o', ka, kc, q1, rfl, _⟩ := hp i hi
      simp [hv, Value.oneCell']
    · have : l[i]? = none := by simp [hl]; omega
      simp [this, Value.oneCell']
  · have hi : i < n := by rw [hlen]; exact (List.getElem?_eq_some_iff.1 ho).1
    obtain ⟨v, hv, o', ka, kc, q1, rfl, q3, q4, q5, q6, q7, q8⟩ := hp i hi
    rw [ho] at q1
    cases q1
    exact ⟨q3, ka, kc, by simp [hv], q8⟩

def CloneEnd (w : World) (n : Nat) (xs : List Value) (e : Ending) (w' : World) : Prop := (∃ g cap, e = .returned (.slice (some ⟨g, 0, none⟩) n cap) ∧ w'.ownsRow w.heap.size 38 4 (.slice (some ⟨g, 0, none⟩) n cap) n xs) ∧ Below w.heap.size w w'
set_option maxRecDepth 100000 in
theorem copy_objs (b off n c : Nat) (os : List LObj) (ks : Nat → Value) (w : World) (hn : n = os.length) (h0 : 0 < n) (hbd : n ≤ 1048576) (hk1 : ∀ i, (ks i).oneCell' = true) (hc : ∀ j u, (objCells os ks n)[j]? = some u → w.cell? ((⟨b, off, none⟩ : Addr).add j) = some u) :
    Calls Tryz.prog 138 #[.slice (some ⟨b, off, none⟩) n c] w fun e w' => CloneEnd w n (objCells os ks n) e w' := by
  obtain ⟨i0, hi, hq0, hq1, hq2⟩ := info_parts info34'
  have HL : Hid ((objCells os ks n).length = n * 4) := objCells_len os ks n (by omega)
  have H1 : Hid (∀ u ∈ objCells os ks n, u.oneCell' = true) := objCells_one os ks hk1 n
  have HC : Hid (∀ j u, (objCells os ks n)[j]? = some u → w.cell? ((⟨b, off, none⟩ : Addr).add j) = some u) := hc
  clear hc hn
  go_enter Tryz.func138, Tryz.ntmps138
  go_wp2_with (first
    | (at_builtin; refine wpList_append_lies _ rfl (.const (.slice none 0 0)) (.tmp 3) 23 rfl w.heap.size 38 i0 _ 4 56 Tryz.underlying23 hi hq0 hq1 hq2 rfl (by decide) _ 0 [] rfl (World.ownsRow_nil _ _ _ _) ⟨b, off, none⟩ n c (objCells os ks n) rfl HL.out ?c1 H1.out h0 ?c4 ?c5 ?c6 _ rfl ?_)
    | go_in)
  case c1 => exact fun j u hu => HC.out j u hu
  case c4 => unfold maxLen; omega
  case c5 => omega
  case c6 => simp
  intro g cap w1 hown hgrow hat hlt
  have hbel : Below w.heap.size w w1 := below_grown (Below.refl _ _) hgrow (fun k hk => by simp [Value.ownBlock] at hk) (Nat.le_refl _)
  have hown' : Hid (w1.ownsRow w.heap.size 38 4 (.slice (some ⟨g, 0, none⟩) n cap) n (objCells os ks n)) := by show World.ownsRow _ _ _ _ _ _ _; simpa using hown
  clear hown hgrow hat hlt
  go_wp2_with fail
  go_ret
  exact ⟨⟨g, cap, by simp, hown'.out⟩, hbel⟩
theorem copy_ents (B : Nat) (ka : Option Addr) (m c : Nat) (es : List LEnt) (L U : Nat) (w : World) (hB : B ≤ w.heap.size) (hbd : m ≤ 1048576) (H : EntsAt w L U ka m es) :
    Calls Tryz.prog 139 #[.slice ka m c] w fun e w' => ∃ a' c', e = .returned (.slice a' m c') ∧ NewEnts w w' B (.slice a' m c') es := by
  have HE : Hid (EntsAt w L U ka m es) := H
  have hm := H.len
  have HM : Hid (m = es.length) := hm
  clear H hm
  go_enter Tryz.func139, Tryz.ntmps139
  go_wp2_with (first
    | (at_builtin; refine wpList_app_new _ rfl (.const (.slice none 0 0)) (.tmp 3) rfl B _ _ _ es rfl rfl HM.out hB hbd ?c2 ?_)
    | go_in)
  case c2 =>
    intro hne
    obtain ⟨kb, koff, rfl, _, _, hkc⟩ := HE.out.at_ hne
    exact ⟨_, rfl, ents_cells HM.out hkc⟩
  intro a' c' w2 hnew
  have HN : Hid (NewEnts w w2 B (.slice a' m c') es) := hnew
  clear hnew
  go_wp2_with fail
  go_ret
  exact ⟨a', c', rfl, HN.out⟩
end Go.Proofs.YtnolbfijcnldjaaGreatDoor

/- Rows of names that are spliced: copy of elements of two cells; the plain lists. -/
namespace Go.Proofs.YtnolbfijcnldjaaGreatDoor
open Go.RowKit

def splice (l : List Value) (o : Nat) (cs : List Value) : List Value := l.take o ++ cs ++ l.drop (o + cs.length)
theorem splice_len (l : List Value) (o : Nat) (cs : List Value) (h : o + cs.length ≤ l.length) : (splice l o cs).length = l.length := by
  simp [splice]; omega
theorem splice_get (l : List Value) (o : Nat) (cs : List Value) (h : o + cs.length ≤ l.length) (j : Nat) : (splice l o cs)[j]? = if j < o then l[j]? else if j < o + cs.length then cs[j - o]? else l[j]? := by
  have h1 : min o l.length = o := by omega
  unfold splice
  by_cases ha : j < o
  · rw [List.append_assoc, List.getElem?_append_left (by simp; omega), if_pos ha, List.getElem?_take, if_pos ha]
  · rw [if_neg ha]
    by_cases hb : j < o + cs.length
    · rw [if_pos hb, List.append_assoc, List.getElem?_append_right (by simp; omega), List.getElem?_append_left (by simp; omega)]
      simp [h1]
    · rw [if_neg hb, List.getElem?_append_right (by simp; omega), List.getElem?_drop]
      congr 1
      simp [h1]
      omega
/-- Shifted up by two, and two put in. -/
theorem splice_shift (l E : List Value) (p : Nat) (u v : Value) (hp : p ≤ E.length) (hl : E.length + 2 ≤ l.length) (hE : l.take E.length = E) :
    (splice (splice l (p + 2) (E.drop p)) p [u, v]).take (E.length + 2) = E.take p ++ [u, v] ++ E.drop p := by
  have hget : ∀ j, j < E.length → l[j]? = E[j]? := fun j hj => by rw [← hE]; simp [hj]
  apply List.ext_getElem?
  intro j
  rw [List.getElem?_take]
  by_cases h0 : j < E.length + 2
  · rw [if_pos h0, splice_get _ _ _ (by rw [splice_len _ _ _ (by simp; omega)]; simp; omega), splice_get _ _ _ (by simp; omega)]
    by_cases h1 : j < p
    · rw [if_pos h1, if_pos (by omega), List.append_assoc, List.getElem?_append_left (by simp; omega), List.getElem?_take, if_pos h1]
      exact hget j (by omega)
    · rw [if_neg h1]
      by_cases h2 : j < p + 2
      · rw [if_pos (by simpa using h2), List.append_assoc, List.getElem?_append_right (by simp; omega), List.getElem?_append_left (by simp; omega)]
        simp [show min p E.length = p by omega]
      · rw [if_neg (by simpa using h2), if_neg h2, if_pos (by simp; omega), List.getElem?_append_right (by simp; omega)]
        congr 1
        simp [show min p E.length = p by omega]
  · rw [if_neg h0]
    symm
    apply List.getElem?_eq_none
    simp; omega
/-- A new row: what was ahead, two, what was behind. -/
theorem splice_new (l E : List Value) (p : Nat) (u v : Value) (hp : p ≤ E.length) (hl : E.length + 2 ≤ l.length) (hE : l.take p = E.take p) :
    (splice (splice l p [u, v]) (p + 2) (E.drop p)).take (E.length + 2) = E.take p ++ [u, v] ++ E.drop p := by
  have hget : ∀ j, j < p → l[j]? = E[j]? := fun j hj => by
    have h1 : (l.take p)[j]? = (E.take p)[j]? := by rw [hE]
    simpa [List.getElem?_take, hj] using h1
  apply List.ext_getElem?
  intro j
  rw [List.getElem?_take]
  by_cases h0 : j < E.length + 2
  · rw [if_pos h0, splice_get _ _ _ (by rw [splice_len _ _ _ (by simp; omega)]; simp; omega), splice_get _ _ _ (by simp; omega)]
    by_cases h1 : j < p
    · rw [if_pos (by omega), if_pos h1, List.append_assoc, List.getElem?_append_left (by simp; omega), List.getElem?_take, if_pos h1]
      exact hget j (by omega)
    · by_cases h2 : j < p + 2
      · rw [if_pos h2, if_neg h1, if_pos (by simpa using h2), List.append_assoc, List.getElem?_append_right (by simp; omega), List.getElem?_append_left (by simp; omega)]
        simp [show min p E.length = p by omega]
      · rw [if_neg h2, if_pos (by simp; omega), List.getElem?_append_right (by simp; omega)]
        congr 1
        simp [show min p E.length = p by omega]
  · rw [if_neg h0]
    symm
    apply List.getElem?_eq_none
    simp; omega

theorem entCells_take (es : List LEnt) (k : Nat) : (entCells es).take (k * 2) = entCells (es.take k) := by
  by_cases hk : k ≤ es.length
  · have e1 : entCells es = entCells (es.take k) ++ entCells (es.drop k) := by rw [← entCells_app, List.take_append_drop]
    rw [e1, List.take_left' (by rw [entCells_len]; simp; omega)]
  · rw [List.take_of_length_le (by rw [entCells_len]; omega), List.take_of_length_le (by omega)]
theorem entCells_drop (es : List LEnt) (k : Nat) : (entCells es).drop (k * 2) = entCells (es.drop k) := by
  by_cases hk : k ≤ es.length
  · have e1 : entCells es = entCells (es.take k) ++ entCells (es.drop k) := by rw [← entCells_app, List.take_append_drop]
    rw [e1, List.drop_left' (by rw [entCells_len]; simp; omega)]
  · rw [List.drop_of_length_le (by rw [entCells_len]; omega), List.drop_of_length_le (by omega)]
    rfl
theorem entCells_ins (es : List LEnt) (k : Nat) (x : LEnt) : (entCells es).take (k * 2) ++ [.string x.name, .int .i64 x.id] ++ (entCells es).drop (k * 2) = entCells (es.take k ++ [x] ++ es.drop k) := by
  rw [entCells_take, entCells_drop, entCells_app, entCells_app]
  simp [entCells]

theorem run_copy_row2 {P : Program} (w : World) (dT sT ty elem : TypeId) (g o dLen dCap : Nat) (a : Addr) (sLen sCap : Nat) (cur : Array Value) (t : TypeId) (cs : List Value)
    (hu : P.underlying dT = some (.slice elem)) (hs : (P.info? elem).map (·.size) = some 2)
    (hg : w.heap[g]? = some (.cells cur t (0, 0))) (hn : cs.length = Nat.min sLen dLen * 2)
    (hsrc : ∀ j v, cs[j]? = some v → w.cell? (a.add j) = some v) (hfit : o + cs.length ≤ cur.size) (h1 : ∀ v ∈ cs, v.oneCell' = true) :
    (Builtin.copy_ #[dT, sT] ty #[.slice (some ⟨g, o, none⟩) dLen dCap, .slice (some a) sLen sCap]).run P w =
      .ok (goInt (Nat.min sLen dLen)) (w.setRow g (splice cur.toList o cs).toArray) := by
  have hl := run_loadCells_list (P := P) w a cs hsrc
  have hst := run_storeCells_at P g o t cs 0 cur w hg (by simpa using hfit) h1
  cases hq : P.info? elem with
  | none => simp [hq] at hs
  | some i =>
    have hi : i.size = 2 := by simpa [hq] using hs
    simp [Builtin.copy_, run_underlying hu, Builtin.lenOf, Builtin.firstCells, sizeOf, typeInfo, hq, hi, ← hn, hl, hst, splice]
theorem wp_copy_run' {P : Program} (w : World) {o : Oper} {a : Act} {K : Act → World → Prop} {Q : Exit → Act → World → Prop} (d s : Operand) (t t' : TypeId)
    (ho : o.op = .call { callee := .builtin .copy, args := #[d, s], argTypes := #[t, t'] }) (v u : Value) (hd : a.eval d = v) (hs : a.eval s = u) {v' : Value} {w' : World}
    (hr : (Builtin.copy_ #[t, t'] o.type #[v, u]).run P w = .ok v' w') (h : K (a.put o.dst v') w') : o.wp P a w K Q := by
  unfold Oper.wp execOp
  simp only [ho, resolve, invoke, builtin, Sem.run_bind, Sem.run_pure, Result.andThen_ok, List.map_toArray, List.map_cons, List.map_nil, hd, hs, hr]
  exact h
theorem wpList_copy_run' {P : Program} (w : World) {ops : Array Oper} {rest : List Oper} {o : Oper} {a : Act} {Q : Exit → Act → World → Prop} (hgd : o.guard = none) (d s : Operand) (t t' : TypeId)
    (ho : o.op = .call { callee := .builtin .copy, args := #[d, s], argTypes := #[t, t'] }) (v u : Value) (hd : a.eval d = v) (hs : a.eval s = u) {v' : Value} {w' : World}
    (hr : (Builtin.copy_ #[t, t'] o.type #[v, u]).run P w = .ok v' w') (h : wpList P ops Q rest (a.put o.dst v') w') : wpList P ops Q (o :: rest) a w :=
  wpList_plain hgd fun _ hK => wp_copy_run' w d s t t' ho v u hd hs hr (hK _ _ h)

theorem setRow_grown {w0 w : World} {g : Nat} {c : Array Value} {row : Option Nat} (h : w0.grownBy w row) (hg : row = some g ∨ w0.heap.size ≤ g) : w0.grownBy (w.setRow g c) row :=
  ⟨h.os, h.tape, h.output, by simpa using h.size, fun k hk hne => by
    rw [setRow_other w g k c (by rcases hg with rfl | hg <;> intro e <;> subst e <;> simp_all <;> omega)]
    exact h.block k hk hne⟩

/-- A row of one's own, its block laid open. -/
theorem OwnEnts.open_ {w : World} {B g n cap : Nat} {es : List LEnt} (h : OwnEnts w B (.slice (some ⟨g, 0, none⟩) n cap) es) : ∃ cur, B ≤ g ∧ w.heap[g]? = some (.cells cur 53 (0, 0)) ∧ n = es.length ∧ n ≤ cap ∧ cap ≤ maxLen ∧ cur.size = cap * 2 ∧ cur.toList.take (n * 2) = entCells es := by
  rcases h.2 with ⟨h', _⟩ | ⟨g', cap', cur, h', hb, hg, hnc, hcm, hcs, htake⟩
  · simp at h'
  · simp only [Value.slice.injEq, Option.some.injEq, Addr.mk.injEq, and_true] at h'
    obtain ⟨rfl, rfl, rfl⟩ := h'
    exact ⟨cur, hb, hg, rfl, hnc, hcm, hcs, htake⟩
theorem OwnEnts.mk_ {w : World} {B g n cap : Nat} {es : List LEnt} {cur : Array Value} (hB : B ≤ g) (hg : w.heap[g]? = some (.cells cur 53 (0, 0))) (hn : n = es.length) (hnc : n ≤ cap) (hcm : cap ≤ maxLen) (hcs : cur.size = cap * 2) (ht : cur.toList.take (n * 2) = entCells es) : OwnEnts w B (.slice (some ⟨g, 0, none⟩) n cap) es := by
  subst hn
  exact ⟨by rw [entCells_len], .inr ⟨g, cap, cur, rfl, hB, hg, hnc, hcm, hcs, ht⟩⟩

/-! The place of a name. -/
def PlaceEnd (es : List LEnt) (name : ByteArray) (e : Ending) : Prop := ∃ (x : Nat) (b : Bool), e = .returned (.tuple #[.int .i64 x, .bool b]) ∧ x ≤ es.length ∧ Low es name x ∧ High es name x
theorem placeL_of {es : List LEnt} {name : ByteArray} {x : Nat} (hx : x ≤ es.length) (hl : Low es name x) (hh : High es name x) : placeL name es = x := by
  induction es generalizing x with
  | nil => simp at hx; subst hx; rfl
  | cons e r ih =>
    by_cases h0 : x = 0
    · subst h0
      have h := hh 0 (Nat.le_refl _) e rfl
      have hn : lessN name e = false := by
        rw [Bool.eq_false_iff]
        intro h1
        unfold lessN at h1
        rw [Go.ByteArray.toList_eq, Go.ByteArray.toList_eq] at h1
        exact h ((cmp_less _ _).2 h1)
      simp [placeL, hn]
    · obtain ⟨y, rfl⟩ : ∃ y, x = y + 1 := ⟨x - 1, by omega⟩
      have h := hl 0 (by omega) e rfl
      have hn : lessN name e = true := by
        unfold lessN
        rw [Go.ByteArray.toList_eq, Go.ByteArray.toList_eq]
        exact (cmp_less _ _).1 h
      have h2 := ih (x := y) (by simpa using hx) (fun i hi e' he => hl (i + 1) (by omega) e' (by simpa using he)) (fun i hi e' he => hh (i + 1) (by omega) e' (by simpa using he))
      simp only [placeL] at h2 ⊢
      simp [hn, h2]
theorem putL_of {es : List LEnt} {x : LEnt} {k : Nat} (hk : k ≤ es.length) (hl : Low es x.name k) (hh : High es x.name k) : putL x es = es.take k ++ [x] ++ es.drop k := by
  unfold putL; rw [placeL_of hk hl hh]
/-- The name that is there is at its place. -/
theorem place_there {es : List LEnt} {name : ByteArray} {x k : Nat} {e : LEnt} (ha : Asc es) (hl : Low es name x) (hh : High es name x) (hk : es[k]? = some e) (hn : e.name = name) : x = k := by
  have hz : ¬ Lib.compareBytes (nm e) name.data.toList < 0 := by
    rw [cmp_less, ← hn]
    intro h
    exact absurd (show Op.bytesLess e.name.data.toList e.name.data.toList = true from h) (by rw [less_self]; simp)
  rcases Nat.lt_trichotomy x k with h | h | h
  · obtain ⟨y, hy⟩ : ∃ y, es[x]? = some y := ⟨es[x]'(by have := (List.getElem?_eq_some_iff.1 hk).1; omega), by simp⟩
    have h1 := ha x k y e h hy hk
    have h2 := hh x (Nat.le_refl _) y hy
    rw [cmp_less, ← hn] at h2
    exact absurd h1 h2
  · exact h
  · exact absurd (hl k h e hk) hz
theorem outL_of {es : List LEnt} {name : ByteArray} {k : Nat} {e : LEnt} (ha : Asc es) (hk : es[k]? = some e) (hn : e.name = name) : outL name es = es.take k ++ es.drop (k + 1) := by
  have hlt := (List.getElem?_eq_some_iff.1 hk).1
  have hne : ∀ i y, es[i]? = some y → i ≠ k → (y.name.toList == name.toList) = false := fun i y hy hik => by
    rw [Go.ByteArray.toList_eq, Go.ByteArray.toList_eq, ← hn]
    rcases Nat.lt_or_gt_of_ne hik with h | h
    · have h1 := ha i k y e h hy hk
      rw [beq_eq_false_iff_ne]
      intro h2
      rw [show nm y = nm e from h2, less_self] at h1
      cases h1
    · have h1 := ha k i e y h hk hy
      rw [beq_eq_false_iff_ne]
      intro h2
      rw [show nm y = nm e from h2, less_self] at h1
      cases h1
  have hsp : es = es.take k ++ e :: es.drop (k + 1) := by
    have h1 : es = es.take k ++ es.drop k := (List.take_append_drop k es).symm
    have h2 : es.drop k = e :: es.drop (k + 1) := by
      rw [List.drop_eq_getElem_cons hlt]
      congr 1
      simpa [hlt] using hk
    rw [← h2]; exact h1
  have hl : outL name (es.take k) = es.take k := List.filter_eq_self.2 fun y hy => by
    obtain ⟨i, hi, rfl⟩ := List.getElem_of_mem hy
    have hi' : i < k := by simp at hi; omega
    have := hne i (es.take k)[i] (by simp [show i < es.length by omega]) (by omega)
    simpa using this
  have hr : outL name (es.drop (k + 1)) = es.drop (k + 1) := List.filter_eq_self.2 fun y hy => by
    obtain ⟨i, hi, rfl⟩ := List.getElem_of_mem hy
    have hi' : k + 1 + i < es.length := by simp at hi; omega
    have := hne (k + 1 + i) (es.drop (k + 1))[i] (by simp [hi']) (by omega)
    simpa using this
  have hm : (e.name.toList == name.toList) = true := by rw [hn]; simp
  calc outL name es = outL name (es.take k ++ e :: es.drop (k + 1)) := by rw [← hsp]
    _ = outL name (es.take k) ++ outL name (e :: es.drop (k + 1)) := by simp [outL, List.filter_append]
    _ = outL name (es.take k) ++ outL name (es.drop (k + 1)) := by
      congr 1
      simp [outL, hm]
    _ = _ := by rw [hl, hr]
end Go.Proofs.YtnolbfijcnldjaaGreatDoor
