/- Two logs as the laws draw them. -/
import Derived.Test.YtdjffkiiglilnaaLogU
namespace Go.Proofs.Ytdjffkiiglilnaa
open Go.RowKit

/-- Two logs in their boxes, and the boxes of the answer. -/
structure TwL (w W : World) (TA TB : Nat) (x1 y1 : Int) (a1 : Option Addr) (n1 k1 : Nat) (a1' : Option Addr) (n1' k1' : Nat) (l1 : LLog) (x2 y2 : Int) (a2 : Option Addr) (n2 k2 : Nat) (a2' : Option Addr) (n2' k2' : Nat) (l2 : LLog) : Prop where
  below : Below w.heap.size w W
  r0 : W.rowIs w.heap.size 29 4 (zrow #[.int .i64 0, .int .i64 0, .slice none 0 0, .slice none 0 0])
  r1 : W.rowIs (w.heap.size + 1) 29 4 (zrow #[.int .i64 0, .int .i64 0, .slice none 0 0, .slice none 0 0])
  b1 : LogBox W TA x1 y1 a1 n1 k1 a1' n1' k1'
  b2 : LogBox W TB x2 y2 a2 n2 k2 a2' n2' k2'
  la : LogAt W (w.heap.size + 2) TB x1 y1 a1 n1 a1' n1' l1
  lb : LogAt W (w.heap.size + 2) TB x2 y2 a2 n2 a2' n2' l2
  lo : w.heap.size + 2 ≤ TA
  lt : TA < TB
  z : TB < W.heap.size
theorem TwL.drew {w W : World} {TA TB : Nat} {x1 y1 : Int} {a1 : Option Addr} {n1 k1 : Nat} {a1' : Option Addr} {n1' k1' : Nat} {l1 : LLog} {x2 y2 : Int} {a2 : Option Addr} {n2 k2 : Nat} {a2' : Option Addr} {n2' k2' : Nat} {l2 : LLog} (h : TwL w W TA TB x1 y1 a1 n1 k1 a1' n1' k1' l1 x2 y2 a2 n2 k2 a2' n2' k2' l2) : TwL w W.drew TA TB x1 y1 a1 n1 k1 a1' n1' k1' l1 x2 y2 a2 n2 k2 a2' n2' k2' l2 :=
  ⟨h.below.drew, h.r0, h.r1, h.b1.of rfl, h.b2.of rfl, h.la.blocks fun _ _ _ => rfl, h.lb.blocks fun _ _ _ => rfl, h.lo, h.lt, h.z⟩
/-- The Seq of the second is another one. -/
theorem TwL.seq {w W : World} {TA TB : Nat} {x1 y1 : Int} {a1 : Option Addr} {n1 k1 : Nat} {a1' : Option Addr} {n1' k1' : Nat} {l1 : LLog} {x2 y2 : Int} {a2 : Option Addr} {n2 k2 : Nat} {a2' : Option Addr} {n2' k2' : Nat} {l2 : LLog} (h : TwL w W TA TB x1 y1 a1 n1 k1 a1' n1' k1' l1 x2 y2 a2 n2 k2 a2' n2' k2' l2) (v : Int) : TwL w (W.setCell ⟨TB, 1, none⟩ (.int .i64 v)) TA TB x1 y1 a1 n1 k1 a1' n1' k1' l1 x2 v a2 n2 k2 a2' n2' k2' { l2 with seq := v } := by
  have h1 := h.lo
  have h2 := h.lt
  have h3 := h.z
  have hs := (But.refl TB W).set 1 (.int .i64 v)
  exact ⟨h.below.trans (hs.below.mono (by omega)), h.r0.of_block (hs.block _ (by omega) h.r0.lt), h.r1.of_block (hs.block _ (by omega) h.r1.lt), h.b1.of (hs.block _ (by omega) (by omega)), h.b2.set1 v, h.la.blocks fun i hi hj => hs.block i (by omega) (by omega), ⟨h.lb.q, rfl, h.lb.b.blocks fun i hi hj => hs.block i (by omega) (by omega), h.lb.o.blocks fun i hi hj => hs.block i (by omega) (by omega)⟩, h1, h2, by simpa using h3⟩

set_option maxHeartbeats 4000000 in
set_option maxRecDepth 20000 in
theorem drawLogSame (a : Option Addr) (n c : Nat) (zs : List Int) (w : World) (hn : n ≤ 1048576) (hc : n ≤ c) (H : BytesAt w w.heap.size a n zs) :
    Calls Try.prog 15 #[.slice a n c] w fun e w' => DrawnLogs w e w' := by
  go_enter Try.func15, Try.ntmps15
  go_wp2_with fail
  have hA0 : Below w.heap.size w ((w.alloc (Obj.cells #[.int .i64 0, .int .i64 0, .slice none 0 0, .slice none 0 0] 29)).alloc (Obj.cells #[.int .i64 0, .int .i64 0, .slice none 0 0, .slice none 0 0] 29)) := ((Below.refl _ _).alloc (Nat.le_refl _) _).alloc (by simp) _
  have r0 : ((w.alloc (Obj.cells #[.int .i64 0, .int .i64 0, .slice none 0 0, .slice none 0 0] 29)).alloc (Obj.cells #[.int .i64 0, .int .i64 0, .slice none 0 0, .slice none 0 0] 29)).rowIs w.heap.size 29 4 (zrow #[.int .i64 0, .int .i64 0, .slice none 0 0, .slice none 0 0]) := (zrow_new w _ 29).alloc _
  have r1 : ((w.alloc (Obj.cells #[.int .i64 0, .int .i64 0, .slice none 0 0, .slice none 0 0] 29)).alloc (Obj.cells #[.int .i64 0, .int .i64 0, .slice none 0 0, .slice none 0 0] 29)).rowIs (w.heap.size + 1) 29 4 (zrow #[.int .i64 0, .int .i64 0, .slice none 0 0, .slice none 0 0]) := by
    have := zrow_new (w.alloc (Obj.cells #[.int .i64 0, .int .i64 0, .slice none 0 0, .slice none 0 0] 29)) #[.int .i64 0, .int .i64 0, .slice none 0 0, .slice none 0 0] 29
    simpa using this
  have hz0 : w.heap.size + 2 ≤ ((w.alloc (Obj.cells #[.int .i64 0, .int .i64 0, .slice none 0 0, .slice none 0 0] 29)).alloc (Obj.cells #[.int .i64 0, .int .i64 0, .slice none 0 0, .slice none 0 0] 29)).heap.size := by simp
  generalize hW0 : (w.alloc (Obj.cells #[.int .i64 0, .int .i64 0, .slice none 0 0, .slice none 0 0] 29)).alloc (Obj.cells #[.int .i64 0, .int .i64 0, .slice none 0 0, .slice none 0 0] 29) = W0 at *
  clear hW0
  refine (open16 a n c zs w.heap.size _ hn hc (H.below hA0 (Nat.le_refl _))).mono ?_
  rintro e W1 ⟨m1, d1, ys1, rfl, hm1, _, hB1, rfl⟩
  have R1 : RdTo (W0.alloc (.cells #[.slice a m1 d1, .int .i64 0] 118)) W0.heap.size 0 := ⟨0, Nat.le_refl _, rd_start hm1 (by omega) hB1⟩
  clear hB1
  go_wp2_with fail
  refine (l5_any W0.heap.size 0 _ (by omega) (by simp) R1).mono ?_
  rintro e W2 ⟨b1, c1, os1, vs1, x1, y1, a1, n1, k1, a1', n1', k1', l1, rfl, _, _, _, hL1, hbd1, _, hb2⟩
  have hs2 : W0.heap.size + 1 ≤ W2.heap.size := by have := hb2.below.size; simpa using this
  have hal : Below W2.heap.size W2 ((W2.alloc (Obj.cells #[.slice (some ⟨b1, 0, none⟩) 32 c1] 25)).alloc (Obj.cells #[.int .i64 x1, .int .i64 y1, .slice a1 n1 k1, .slice a1' n1' k1'] 29)) := ((Below.refl _ _).alloc (Nat.le_refl _) _).alloc (by simp) _
  have hA3 : Hid (Below w.heap.size w ((W2.alloc (Obj.cells #[.slice (some ⟨b1, 0, none⟩) 32 c1] 25)).alloc (Obj.cells #[.int .i64 x1, .int .i64 y1, .slice a1 n1 k1, .slice a1' n1' k1'] 29))) := ((hA0.alloc (by omega) _).trans (hb2.below.mono (by omega))).trans (hal.mono (by omega))
  have hk3 : Hid (∀ i, i < W0.heap.size → ((W2.alloc (Obj.cells #[.slice (some ⟨b1, 0, none⟩) 32 c1] 25)).alloc (Obj.cells #[.int .i64 x1, .int .i64 y1, .slice a1 n1 k1, .slice a1' n1' k1'] 29)).heap[i]? = W0.heap[i]?) := fun i hi => ((hal.block i (by omega)).trans (hb2.block i (by omega) (by simp; omega))).trans (((Below.refl W0.heap.size W0).alloc (Nat.le_refl _) _).block i hi)
  have hL3 : Hid (LogAt ((W2.alloc (Obj.cells #[.slice (some ⟨b1, 0, none⟩) 32 c1] 25)).alloc (Obj.cells #[.int .i64 x1, .int .i64 y1, .slice a1 n1 k1, .slice a1' n1' k1'] 29)) (w.heap.size + 2) W2.heap.size x1 y1 a1 n1 a1' n1' l1) := (hL1.wide (by simp; omega) (Nat.le_refl _)).below hal (Nat.le_refl _)
  have hbx3 : Hid (LogBox ((W2.alloc (Obj.cells #[.slice (some ⟨b1, 0, none⟩) 32 c1] 25)).alloc (Obj.cells #[.int .i64 x1, .int .i64 y1, .slice a1 n1 k1, .slice a1' n1' k1'] 29)) (W2.heap.size + 1) x1 y1 a1 n1 k1 a1' n1' k1') := ⟨by simp [go_sem], by simp [go_sem], by simp [go_sem], by simp [go_sem]⟩
  have hz3 : W2.heap.size + 2 ≤ ((W2.alloc (Obj.cells #[.slice (some ⟨b1, 0, none⟩) 32 c1] 25)).alloc (Obj.cells #[.int .i64 x1, .int .i64 y1, .slice a1 n1 k1, .slice a1' n1' k1'] 29)).heap.size := by simp
  clear hL1 hb2 R1 hal
  go_wp2_with fail
  generalize hW3 : (W2.alloc (Obj.cells #[.slice (some ⟨b1, 0, none⟩) 32 c1] 25)).alloc (Obj.cells #[.int .i64 x1, .int .i64 y1, .slice a1 n1 k1, .slice a1' n1' k1'] 29) = W3 at *
  obtain ⟨TA, hTA⟩ : ∃ t, t = W2.heap.size + 1 := ⟨_, rfl⟩
  rw [← hTA] at hbx3 ⊢
  have hlo : W0.heap.size + 1 < TA := by omega
  have hTA3 : TA < W3.heap.size := by omega
  have hTA2 : W2.heap.size < TA := by omega
  generalize hU : W2.heap.size = U at *
  clear hW3 hTA hU
  refine (open16 a n c zs w.heap.size _ hn hc (H.below hA3.out (Nat.le_refl _))).mono ?_
  rintro e W4 ⟨m2, d2, ys2, rfl, hm2, _, hB2, rfl⟩
  have R2 : RdTo (W3.alloc (.cells #[.slice a m2 d2, .int .i64 0] 118)) W3.heap.size 0 := ⟨0, Nat.le_refl _, rd_start hm2 (by omega) hB2⟩
  clear hB2
  go_wp2_with fail
  refine (l5_any W3.heap.size 0 _ (by omega) (by simp) R2).mono ?_
  rintro e W5 ⟨b2, c2, os2, vs2, x2, y2, a2, n2, k2, a2', n2', k2', l2, rfl, _, _, _, hL2, hbd2, _, hb5⟩
  have hs5 : W3.heap.size + 1 ≤ W5.heap.size := by have := hb5.below.size; simpa using this
  have HT : Hid (TwL w ((W5.alloc (Obj.cells #[.slice (some ⟨b2, 0, none⟩) 32 c2] 25)).alloc (Obj.cells #[.int .i64 x2, .int .i64 y2, .slice a2 n2 k2, .slice a2' n2' k2'] 29)) TA (W5.heap.size + 1) x1 y1 a1 n1 k1 a1' n1' k1' l1 x2 y2 a2 n2 k2 a2' n2' k2' l2) := by
    have hal : Below W5.heap.size W5 ((W5.alloc (Obj.cells #[.slice (some ⟨b2, 0, none⟩) 32 c2] 25)).alloc (Obj.cells #[.int .i64 x2, .int .i64 y2, .slice a2 n2 k2, .slice a2' n2' k2'] 29)) := ((Below.refl _ _).alloc (Nat.le_refl _) _).alloc (by simp) _
    have hk : ∀ i, i < W3.heap.size → ((W5.alloc (Obj.cells #[.slice (some ⟨b2, 0, none⟩) 32 c2] 25)).alloc (Obj.cells #[.int .i64 x2, .int .i64 y2, .slice a2 n2 k2, .slice a2' n2' k2'] 29)).heap[i]? = W3.heap[i]? := fun i hi => ((hal.block i (by omega)).trans (hb5.block i (by omega) (by simp; omega))).trans (((Below.refl W3.heap.size W3).alloc (Nat.le_refl _) _).block i hi)
    have hA5 : Below w.heap.size w W5 := (hA3.out.alloc (by omega) _).trans (hb5.below.mono (by omega))
    refine ⟨hA5.trans (hal.mono (by omega)), r0.of_block ((hk _ (by omega)).trans (hk3.out _ (by omega))), r1.of_block ((hk _ (by omega)).trans (hk3.out _ (by omega))), hbx3.out.of (hk _ hTA3), ⟨by simp [go_sem], by simp [go_sem], by simp [go_sem], by simp [go_sem]⟩, ?_, ?_, by omega, by omega, by simp⟩
    · exact (hL3.out.blocks fun i h1 h2 => hk i (by omega)).wide (Nat.le_refl _) (by omega)
    · exact ((hL2.wide (by simp; omega) (Nat.le_refl _)).below hal (Nat.le_refl _)).wide (Nat.le_refl _) (by omega)
  have HFZ : Hid (∀ o, ((W5.alloc (Obj.cells #[.slice (some ⟨b2, 0, none⟩) 32 c2] 25)).alloc (Obj.cells #[.int .i64 x2, .int .i64 y2, .slice a2 n2 k2, .slice a2' n2' k2'] 29)).frozen? ⟨W5.heap.size + 1, o, none⟩ = false) := fun o => by simp [go_sem]
  have HB5 : Hid (BytesAt ((W5.alloc (Obj.cells #[.slice (some ⟨b2, 0, none⟩) 32 c2] 25)).alloc (Obj.cells #[.int .i64 x2, .int .i64 y2, .slice a2 n2 k2, .slice a2' n2' k2'] 29)) w.heap.size a n zs) := H.below HT.out.below (Nat.le_refl _)
  clear hL2 hb5 R2 hbx3 hL3 hk3 hA3 r0 r1 hA0 H
  go_upto_region 3 with fail
  generalize hW6 : (W5.alloc (Obj.cells #[.slice (some ⟨b2, 0, none⟩) 32 c2] 25)).alloc (Obj.cells #[.int .i64 x2, .int .i64 y2, .slice a2 n2 k2, .slice a2' n2' k2'] 29) = X at *
  obtain ⟨TB, hTB⟩ : ∃ t, t = W5.heap.size + 1 := ⟨_, rfl⟩
  rw [← hTB] at HT HFZ ⊢
  generalize hU5 : W5.heap.size = U5 at *
  clear hW6 hTB hU5
  by_cases hn0 : n = 0
  · have t0 : ¬ (0 : Int) < (n : Int) := by omega
    go_upto_region 5 with fail
    have h9 := HT.out.drew
    generalize hy9 : y2 = y9 at *
    generalize hl9 : l2 = l9 at *
    clear hy9 hl9 HT HB5
    have R2 := h9.r0
    have R3 := h9.r1
    have bx1 := h9.b1
    have bx2 := h9.b2
    have HLA : Hid (LogAt X.drew (w.heap.size + 2) TB x1 y1 a1 n1 a1' n1' l1) := h9.la
    have HLB : Hid (LogAt X.drew (w.heap.size + 2) TB x2 y9 a2 n2 a2' n2' l9) := h9.lb
    have HBL : Hid (Below w.heap.size w X.drew) := h9.below
    have hlo := h9.lo
    have hlt := h9.lt
    have hszX := h9.z
    clear h9
    refine wp_region_held_drew (S := (fun W => LogBox W TA x1 y1 a1 n1 k1 a1' n1' k1' ∧ LogBox W TB x2 y9 a2 n2 k2 a2' n2' k2')) (by kernel_rfl) ?_ (fun hHeld => ?_)
    · exact ⟨bx1, bx2⟩
    refine listH (l2 := #[false, false, false, false]) (by kernel_rfl) ?_
    refine takeH (i := 0) (oi := _) (v := ?vk35) 34 #[true, false, false, false] rfl (by kernel_rfl) (by kernel_rfl) (by kernel_rfl) rfl (by kernel_rfl) (fun _ _ _ h => h) (Or.inl ⟨by rfl, ?yk35⟩) (by assumption) ?rk35
    case yk35 => (intro w' hSw; obtain ⟨⟨v0, v1, v2, v3⟩, _⟩ := hSw; go_simp; try with_reducible rfl)
    simp only [Act.put, List.setIfInBounds_toArray, List.set_cons_succ, List.set_cons_zero]
    refine takeH (i := 1) (oi := _) (v := ?vk36) 35 #[true, true, false, false] rfl (by kernel_rfl) (by kernel_rfl) (by kernel_rfl) rfl (by kernel_rfl) (fun _ _ _ h => h) (Or.inl ⟨by rfl, ?yk36⟩) (by assumption) ?rk36
    case yk36 => (intro w' hSw; obtain ⟨_, v0, v1, v2, v3⟩ := hSw; go_simp; try with_reducible rfl)
    simp only [Act.put, List.setIfInBounds_toArray, List.set_cons_succ, List.set_cons_zero]
    refine wpAnyH_ready (rs := [2]) (by kernel_rfl) (by simp) ?_
    refine AllReadyH.cons (o := _) rfl (fun K hK => ?_) AllReadyH.nil
    refine st_store29 _ 2 34 w.heap.size x1 y1 a1 n1 k1 a1' n1' k1' _ rfl rfl R2 (LogCells.zero R2) ?_
    intro F1 hb1 hbox1 _ _
    have R3 := R3.of_block (hb1.block _ (by omega) R3.lt)
    refine hK.out _ _ (⟨hHeld.1.of (hb1.block TA (by omega) (cell_lt hHeld.1.c0)), hHeld.2.of (hb1.block TB (by omega) (cell_lt hHeld.2.c0))⟩) (fun hHeld => ?_)
    clear hK K
    refine listH (l2 := #[true, true, true, false]) (by kernel_rfl) ?_
    refine wpAnyH_ready (rs := [3]) (by kernel_rfl) (by simp) ?_
    refine AllReadyH.cons (o := _) rfl (fun K hK => ?_) AllReadyH.nil
    refine st_store29 _ 3 35 (w.heap.size + 1) x2 y9 a2 n2 k2 a2' n2' k2' _ rfl rfl R3 (LogCells.zero R3) ?_
    intro F2 hb2 hbox2 _ _
    have hbox1 := hbox1.of (hb2.block w.heap.size (by omega) (cell_lt hbox1.c0))
    refine hK.out _ _ (⟨hHeld.1.of (hb2.block TA (by omega) (cell_lt hHeld.1.c0)), hHeld.2.of (hb2.block TB (by omega) (cell_lt hHeld.2.c0))⟩) (fun hHeld => ?_)
    clear hK K
    refine listH (l2 := #[true, true, true, true]) (by kernel_rfl) ?_
    refine wpAnyH_done (by kernel_rfl) ?_ _
    go_wp2_with fail
    refine bodyPost_ret (v := .tuple #[.agg #[.int .i64 x1, .int .i64 y1, .slice a1 n1 k1, .slice a1' n1' k1'], .agg #[.int .i64 x2, .int .i64 y9, .slice a2 n2 k2, .slice a2' n2' k2']]) (by simp [results, Try.results15, go_sem, hbox1.c0, hbox1.c1, hbox1.c2, hbox1.c3, hbox2.c0, hbox2.c1, hbox2.c2, hbox2.c3]) rfl ?_
    have hz1 := hb1.below.size
    have hz2 := hb2.below.size
    have hkeep : ∀ i, w.heap.size + 2 ≤ i → i < TB → F2.heap[i]? = X.drew.heap[i]? := fun i h1 h2 => (hb2.block i (by omega) (by omega)).trans (hb1.block i (by omega) (by omega))
    exact ⟨⟨x1, y1, a1, n1, k1, a1', n1', k1', l1, x2, y9, a2, n2, k2, a2', n2', k2', l9, rfl, ⟨(HLA.out.blocks fun i h1 h2 => hkeep i h1 (by omega)).wide (by omega) (by omega), hbd1⟩, (HLB.out.blocks fun i h1 h2 => hkeep i h1 (by omega)).wide (by omega) (by omega), hbd2⟩, (HBL.out.trans (hb1.below.mono (Nat.le_refl _))).trans (hb2.below.mono (by omega))⟩
  obtain ⟨bb, off, ha, hbb, hcc⟩ := HB5.out.at_ hn0
  subst ha
  obtain ⟨z, _, hz0_, hz1_, cz⟩ := hcc 0 (by omega)
  have t0 : (0 : Int) < (n : Int) := by omega
  rw [Nat.add_zero] at cz
  clear hcc
  rcases tp : (z % 2 == 1) with _ | _
  · go_upto_region 5 with fail
    have h9 := HT.out.drew
    generalize hy9 : y2 = y9 at *
    generalize hl9 : l2 = l9 at *
    clear hy9 hl9 HT HB5
    have R2 := h9.r0
    have R3 := h9.r1
    have bx1 := h9.b1
    have bx2 := h9.b2
    have HLA : Hid (LogAt X.drew (w.heap.size + 2) TB x1 y1 a1 n1 a1' n1' l1) := h9.la
    have HLB : Hid (LogAt X.drew (w.heap.size + 2) TB x2 y9 a2 n2 a2' n2' l9) := h9.lb
    have HBL : Hid (Below w.heap.size w X.drew) := h9.below
    have hlo := h9.lo
    have hlt := h9.lt
    have hszX := h9.z
    clear h9
    refine wp_region_held_drew (S := (fun W => LogBox W TA x1 y1 a1 n1 k1 a1' n1' k1' ∧ LogBox W TB x2 y9 a2 n2 k2 a2' n2' k2')) (by kernel_rfl) ?_ (fun hHeld => ?_)
    · exact ⟨bx1, bx2⟩
    refine listH (l2 := #[false, false, false, false]) (by kernel_rfl) ?_
    refine takeH (i := 0) (oi := _) (v := ?vk37) 34 #[true, false, false, false] rfl (by kernel_rfl) (by kernel_rfl) (by kernel_rfl) rfl (by kernel_rfl) (fun _ _ _ h => h) (Or.inl ⟨by rfl, ?yk37⟩) (by assumption) ?rk37
    case yk37 => (intro w' hSw; obtain ⟨⟨v0, v1, v2, v3⟩, _⟩ := hSw; go_simp; try with_reducible rfl)
    simp only [Act.put, List.setIfInBounds_toArray, List.set_cons_succ, List.set_cons_zero]
    refine takeH (i := 1) (oi := _) (v := ?vk38) 35 #[true, true, false, false] rfl (by kernel_rfl) (by kernel_rfl) (by kernel_rfl) rfl (by kernel_rfl) (fun _ _ _ h => h) (Or.inl ⟨by rfl, ?yk38⟩) (by assumption) ?rk38
    case yk38 => (intro w' hSw; obtain ⟨_, v0, v1, v2, v3⟩ := hSw; go_simp; try with_reducible rfl)
    simp only [Act.put, List.setIfInBounds_toArray, List.set_cons_succ, List.set_cons_zero]
    refine wpAnyH_ready (rs := [2]) (by kernel_rfl) (by simp) ?_
    refine AllReadyH.cons (o := _) rfl (fun K hK => ?_) AllReadyH.nil
    refine st_store29 _ 2 34 w.heap.size x1 y1 a1 n1 k1 a1' n1' k1' _ rfl rfl R2 (LogCells.zero R2) ?_
    intro F1 hb1 hbox1 _ _
    have R3 := R3.of_block (hb1.block _ (by omega) R3.lt)
    refine hK.out _ _ (⟨hHeld.1.of (hb1.block TA (by omega) (cell_lt hHeld.1.c0)), hHeld.2.of (hb1.block TB (by omega) (cell_lt hHeld.2.c0))⟩) (fun hHeld => ?_)
    clear hK K
    refine listH (l2 := #[true, true, true, false]) (by kernel_rfl) ?_
    refine wpAnyH_ready (rs := [3]) (by kernel_rfl) (by simp) ?_
    refine AllReadyH.cons (o := _) rfl (fun K hK => ?_) AllReadyH.nil
    refine st_store29 _ 3 35 (w.heap.size + 1) x2 y9 a2 n2 k2 a2' n2' k2' _ rfl rfl R3 (LogCells.zero R3) ?_
    intro F2 hb2 hbox2 _ _
    have hbox1 := hbox1.of (hb2.block w.heap.size (by omega) (cell_lt hbox1.c0))
    refine hK.out _ _ (⟨hHeld.1.of (hb2.block TA (by omega) (cell_lt hHeld.1.c0)), hHeld.2.of (hb2.block TB (by omega) (cell_lt hHeld.2.c0))⟩) (fun hHeld => ?_)
    clear hK K
    refine listH (l2 := #[true, true, true, true]) (by kernel_rfl) ?_
    refine wpAnyH_done (by kernel_rfl) ?_ _
    go_wp2_with fail
    refine bodyPost_ret (v := .tuple #[.agg #[.int .i64 x1, .int .i64 y1, .slice a1 n1 k1, .slice a1' n1' k1'], .agg #[.int .i64 x2, .int .i64 y9, .slice a2 n2 k2, .slice a2' n2' k2']]) (by simp [results, Try.results15, go_sem, hbox1.c0, hbox1.c1, hbox1.c2, hbox1.c3, hbox2.c0, hbox2.c1, hbox2.c2, hbox2.c3]) rfl ?_
    have hz1 := hb1.below.size
    have hz2 := hb2.below.size
    have hkeep : ∀ i, w.heap.size + 2 ≤ i → i < TB → F2.heap[i]? = X.drew.heap[i]? := fun i h1 h2 => (hb2.block i (by omega) (by omega)).trans (hb1.block i (by omega) (by omega))
    exact ⟨⟨x1, y1, a1, n1, k1, a1', n1', k1', l1, x2, y9, a2, n2, k2, a2', n2', k2', l9, rfl, ⟨(HLA.out.blocks fun i h1 h2 => hkeep i h1 (by omega)).wide (by omega) (by omega), hbd1⟩, (HLB.out.blocks fun i h1 h2 => hkeep i h1 (by omega)).wide (by omega) (by omega), hbd2⟩, (HBL.out.trans (hb1.below.mono (Nat.le_refl _))).trans (hb2.below.mono (by omega))⟩
  · have g1 := HT.out.b2.c1
    have zb := HT.out.z
    have hfz : ∀ o, X.frozen? ⟨TB, o, none⟩ = false := HFZ.out
    go_upto_region 5 with fail
    have h9 := (HT.out.seq (wrap64 (y2 + 1))).drew
    clear HT HB5 HFZ g1 zb hfz cz
    generalize hX2 : X.setCell ⟨TB, 1, none⟩ (.int .i64 (wrap64 (y2 + 1))) = Y at *
    generalize hy9 : wrap64 (y2 + 1) = y9 at *
    obtain ⟨l9, hl9⟩ : ∃ l : LLog, l = { l2 with seq := y9 } := ⟨_, rfl⟩
    rw [← hl9] at h9
    clear hX2 hy9 hl9
    have R2 := h9.r0
    have R3 := h9.r1
    have bx1 := h9.b1
    have bx2 := h9.b2
    have HLA : Hid (LogAt Y.drew (w.heap.size + 2) TB x1 y1 a1 n1 a1' n1' l1) := h9.la
    have HLB : Hid (LogAt Y.drew (w.heap.size + 2) TB x2 y9 a2 n2 a2' n2' l9) := h9.lb
    have HBL : Hid (Below w.heap.size w Y.drew) := h9.below
    have hlo := h9.lo
    have hlt := h9.lt
    have hszX := h9.z
    clear h9
    refine wp_region_held_drew (S := (fun W => LogBox W TA x1 y1 a1 n1 k1 a1' n1' k1' ∧ LogBox W TB x2 y9 a2 n2 k2 a2' n2' k2')) (by kernel_rfl) ?_ (fun hHeld => ?_)
    · exact ⟨bx1, bx2⟩
    refine listH (l2 := #[false, false, false, false]) (by kernel_rfl) ?_
    refine takeH (i := 0) (oi := _) (v := ?vk39) 34 #[true, false, false, false] rfl (by kernel_rfl) (by kernel_rfl) (by kernel_rfl) rfl (by kernel_rfl) (fun _ _ _ h => h) (Or.inl ⟨by rfl, ?yk39⟩) (by assumption) ?rk39
    case yk39 => (intro w' hSw; obtain ⟨⟨v0, v1, v2, v3⟩, _⟩ := hSw; go_simp; try with_reducible rfl)
    simp only [Act.put, List.setIfInBounds_toArray, List.set_cons_succ, List.set_cons_zero]
    refine takeH (i := 1) (oi := _) (v := ?vk40) 35 #[true, true, false, false] rfl (by kernel_rfl) (by kernel_rfl) (by kernel_rfl) rfl (by kernel_rfl) (fun _ _ _ h => h) (Or.inl ⟨by rfl, ?yk40⟩) (by assumption) ?rk40
    case yk40 => (intro w' hSw; obtain ⟨_, v0, v1, v2, v3⟩ := hSw; go_simp; try with_reducible rfl)
    simp only [Act.put, List.setIfInBounds_toArray, List.set_cons_succ, List.set_cons_zero]
    refine wpAnyH_ready (rs := [2]) (by kernel_rfl) (by simp) ?_
    refine AllReadyH.cons (o := _) rfl (fun K hK => ?_) AllReadyH.nil
    refine st_store29 _ 2 34 w.heap.size x1 y1 a1 n1 k1 a1' n1' k1' _ rfl rfl R2 (LogCells.zero R2) ?_
    intro F1 hb1 hbox1 _ _
    have R3 := R3.of_block (hb1.block _ (by omega) R3.lt)
    refine hK.out _ _ (⟨hHeld.1.of (hb1.block TA (by omega) (cell_lt hHeld.1.c0)), hHeld.2.of (hb1.block TB (by omega) (cell_lt hHeld.2.c0))⟩) (fun hHeld => ?_)
    clear hK K
    refine listH (l2 := #[true, true, true, false]) (by kernel_rfl) ?_
    refine wpAnyH_ready (rs := [3]) (by kernel_rfl) (by simp) ?_
    refine AllReadyH.cons (o := _) rfl (fun K hK => ?_) AllReadyH.nil
    refine st_store29 _ 3 35 (w.heap.size + 1) x2 y9 a2 n2 k2 a2' n2' k2' _ rfl rfl R3 (LogCells.zero R3) ?_
    intro F2 hb2 hbox2 _ _
    have hbox1 := hbox1.of (hb2.block w.heap.size (by omega) (cell_lt hbox1.c0))
    refine hK.out _ _ (⟨hHeld.1.of (hb2.block TA (by omega) (cell_lt hHeld.1.c0)), hHeld.2.of (hb2.block TB (by omega) (cell_lt hHeld.2.c0))⟩) (fun hHeld => ?_)
    clear hK K
    refine listH (l2 := #[true, true, true, true]) (by kernel_rfl) ?_
    refine wpAnyH_done (by kernel_rfl) ?_ _
    go_wp2_with fail
    refine bodyPost_ret (v := .tuple #[.agg #[.int .i64 x1, .int .i64 y1, .slice a1 n1 k1, .slice a1' n1' k1'], .agg #[.int .i64 x2, .int .i64 y9, .slice a2 n2 k2, .slice a2' n2' k2']]) (by simp [results, Try.results15, go_sem, hbox1.c0, hbox1.c1, hbox1.c2, hbox1.c3, hbox2.c0, hbox2.c1, hbox2.c2, hbox2.c3]) rfl ?_
    have hz1 := hb1.below.size
    have hz2 := hb2.below.size
    have hkeep : ∀ i, w.heap.size + 2 ≤ i → i < TB → F2.heap[i]? = Y.drew.heap[i]? := fun i h1 h2 => (hb2.block i (by omega) (by omega)).trans (hb1.block i (by omega) (by omega))
    exact ⟨⟨x1, y1, a1, n1, k1, a1', n1', k1', l1, x2, y9, a2, n2, k2, a2', n2', k2', l9, rfl, ⟨(HLA.out.blocks fun i h1 h2 => hkeep i h1 (by omega)).wide (by omega) (by omega), hbd1⟩, (HLB.out.blocks fun i h1 h2 => hkeep i h1 (by omega)).wide (by omega) (by omega), hbd2⟩, (HBL.out.trans (hb1.below.mono (Nat.le_refl _))).trans (hb2.below.mono (by omega))⟩
end Go.Proofs.Ytdjffkiiglilnaa
