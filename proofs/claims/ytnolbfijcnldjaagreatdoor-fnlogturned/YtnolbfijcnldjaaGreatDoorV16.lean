/- Lemmas that the proofs of this seat share: LogT, LogU. -/
import Derived.Test.YtnolbfijcnldjaaGreatDoorV15
/- A log as it is drawn: l5Log. -/
namespace Go.Proofs.YtnolbfijcnldjaaGreatDoor
open Go.RowKit

/-- A tree and a log of one's own, as they were drawn. -/
def L5End (w : World) (rb P : Nat) (e : Ending) (w' : World) : Prop :=
  ∃ b c os vs x y a n k a' n' k' l, e = .returned (.tuple #[.agg #[.slice (some ⟨b, 0, none⟩) 32 c], .agg #[.int .i64 x, .int .i64 y, .slice a n k, .slice a' n' k']]) ∧ OwnT w' w.heap.size b c os vs ∧ os.length = 32 ∧ Sm os 60 ∧ LogAt w' w.heap.size w'.heap.size x y a n a' n' l ∧ (n ≤ 40 ∧ n' ≤ k' ∧ k' ≤ maxLen) ∧ RdTo w' rb P ∧ But rb w w'

set_option maxHeartbeats 8000000 in
set_option maxRecDepth 20000 in
theorem l5_any (rb p : Nat) (w : World) (hp : p ≤ 900000) (hrw : rb < w.heap.size) (R : RdTo w rb p) :
    Calls Tryz.prog 100 #[.pointer (some ⟨rb, 0, none⟩)] w fun e w' => L5End w rb (p + 300) e w' := by
  have hA : Below w.heap.size w ((w.alloc (Obj.cells #[.slice none 0 0] 25)).alloc (Obj.cells #[.int .i64 0, .int .i64 0, .slice none 0 0, .slice none 0 0] 58)) := ((Below.refl _ _).alloc (Nat.le_refl _) _).alloc (by simp) _
  go_enter Tryz.func100, Tryz.ntmps100
  go_wp2_with fail
  refine (tree_any rb p _ (by omega) (by simp; omega) (R.but hA hrw)).mono ?_
  rintro e W1 ⟨b, c, os, vs, rfl, hT, hl, hs, hr, hb⟩
  have hz1 : w.heap.size + 2 ≤ W1.heap.size := by have := hb.below.size; simp at this; omega
  have r2 : W1.rowIs w.heap.size 25 1 (fun _ => .slice none 0 0) := ((row1 w _ 25).alloc _).of_block (hb.block _ (by omega) (by simp; omega))
  have r3 : W1.rowIs (w.heap.size + 1) 58 4 (zrow #[.int .i64 0, .int .i64 0, .slice none 0 0, .slice none 0 0]) := by
    have := zrow_new (w.alloc (Obj.cells #[.slice none 0 0] 25)) #[.int .i64 0, .int .i64 0, .slice none 0 0, .slice none 0 0] 58
    have h2 := this.of_block (hb.block _ (by simp; omega) (by simp))
    simpa using h2
  have hBw : But rb w W1 := (But.of_below hrw hA).trans hb
  have hT' : OwnT W1 w.heap.size b c os vs := hT.base (by simp; omega)
  clear hb hA R hT
  go_wp2_with fail
  have hal : Below W1.heap.size W1 (W1.alloc (Obj.cells #[.slice (some ⟨b, 0, none⟩) 32 c] 25)) := (Below.refl _ _).alloc (Nat.le_refl _) _
  have h5 : L5 w (W1.alloc (Obj.cells #[.slice (some ⟨b, 0, none⟩) 32 c] 25)) rb (p + 150) w.heap.size (w.heap.size + 1) W1.heap.size b c os vs :=
    ⟨hrw, hBw.next (by omega) hal, hr.but hal (by omega), r2.of_block (hal.block _ (by omega)), r3.of_block (hal.block _ (by omega)), row1 W1 _ 25, Nat.le_refl _, by omega, by omega, by omega, hT'.below hal, hl, hs⟩
  refine (pick_to rb (p + 150) 3 _ (by omega) (by omega) (by omega) h5.rd).mono ?_
  rintro e W2 ⟨⟨x, rfl, hx⟩, hr2, hb2⟩
  have HL2 : Hid (L5 w W2 rb (p + 151) w.heap.size (w.heap.size + 1) W1.heap.size b c os vs) := h5.next hb2 hr2
  clear h5 hb2 hr2 r2 r3 hBw hT' hl hs hr hal
  generalize W1.heap.size = q4 at *
  have s4 : W2.cell? ⟨q4, 0, none⟩ = some (.slice (some ⟨b, 0, none⟩) 32 c) := HL2.out.r4.cell (by omega)
  have hq4l := HL2.out.r4.lt
  have hq4w := HL2.out.l4
  have hsz := HL2.out.size
  have hBt : But rb W2 W2.drew := But.of_below (by omega) (Below.refl _ _).drew
  have hRd : RdTo W2.drew rb (p + 151) := HL2.out.rd.but (Below.refl _ _).drew (by omega)
  go_upto_region 3 with fail
  go_cut [7] (fun s7 wx => ∃ l3 ops3, s7 = l3 ∧ L5 w wx rb (p + 220) w.heap.size (w.heap.size + 1) q4 b c os vs ∧ OwnOps wx W2.heap.size l3 ops3 ∧ ops3.length ≤ 1000 ∧ ∀ o ∈ ops3, DoneOp o)
  case first =>
    refine wp_region_held_drew (S := (fun W => W.cell? ⟨q4, 0, none⟩ = some (.slice (some ⟨b, 0, none⟩) 32 c))) (by kernel_rfl) ?_ (fun hHeld => ?_)
    · exact s4
    refine listH (l2 := #[false, false, false, false, false, false, false, false, false, false, false, false, false, false]) (by kernel_rfl) ?_
    refine takeH (i := 0) (oi := _) (v := ?vk1) 14 #[true, false, false, false, false, false, false, false, false, false, false, false, false, false] rfl (by kernel_rfl) (by kernel_rfl) (by kernel_rfl) rfl (by kernel_rfl) (fun _ _ _ h => h) (Or.inl ⟨by rfl, ?yk1⟩) (by assumption) ?rk1
    case yk1 => (intro w' hSw; go_simp; try with_reducible rfl)
    simp only [Act.put, List.setIfInBounds_toArray, List.set_cons_succ, List.set_cons_zero]
    refine takeH (i := 1) (oi := _) (v := ?vk2) 15 #[true, true, false, false, false, false, false, false, false, false, false, false, false, false] rfl (by kernel_rfl) (by kernel_rfl) (by kernel_rfl) rfl (by kernel_rfl) (fun _ _ _ h => h) (Or.inl ⟨by rfl, ?yk2⟩) (by assumption) ?rk2
    case yk2 => (intro w' hSw; go_simp; try with_reducible rfl)
    simp only [Act.put, List.setIfInBounds_toArray, List.set_cons_succ, List.set_cons_zero]
    refine takeH (i := 2) (oi := _) (v := ?vk3) 16 #[true, true, true, false, false, false, false, false, false, false, false, false, false, false] rfl (by kernel_rfl) (by kernel_rfl) (by kernel_rfl) rfl (by kernel_rfl) (fun _ _ _ h => h) (Or.inl ⟨by rfl, ?yk3⟩) (by assumption) ?rk3
    case yk3 => (intro w' hSw; go_simp; try with_reducible rfl)
    simp only [Act.put, List.setIfInBounds_toArray, List.set_cons_succ, List.set_cons_zero]
    refine takeH (i := 3) (oi := _) (v := (.int .i64 ((x : Int) + 1))) 17 #[true, true, true, true, false, false, false, false, false, false, false, false, false, false] rfl (by kernel_rfl) (by kernel_rfl) (by kernel_rfl) rfl (by kernel_rfl) (fun _ _ _ h => h) (Or.inl ⟨by rfl, ?yk4⟩) (by assumption) ?rk4
    case yk4 => (intro w' hSw; go_simp; simp only [IntKind.wrap_i64]; omega)
    simp only [Act.put, List.setIfInBounds_toArray, List.set_cons_succ, List.set_cons_zero]
    refine takeH (i := 4) (oi := _) (v := ?vk5) 18 #[true, true, true, true, true, false, false, false, false, false, false, false, false, false] rfl (by kernel_rfl) (by kernel_rfl) (by kernel_rfl) rfl (by kernel_rfl) (fun _ _ _ h => h) (Or.inl ⟨by rfl, ?yk5⟩) (by assumption) ?rk5
    case yk5 => (intro w' hSw; go_simp; try with_reducible rfl)
    simp only [Act.put, List.setIfInBounds_toArray, List.set_cons_succ, List.set_cons_zero]
    refine wpAnyH_ready (rs := [5, 11]) (by kernel_rfl) (by simp) ?_
    refine AllReadyH.cons (o := _) rfl (fun K hK => ?_) (AllReadyH.cons (o := _) rfl (fun K hK => ?_) AllReadyH.nil)
    · refine st_build3 _ 19 1 3 6 ?_
      intro q19 V1 hq19 hb1 hL19
      have hq19l : q19 < V1.heap.size := by obtain ⟨k, hk, _⟩ := hL19 0 (by omega); exact cell_lt hk
      have hq19r : q19 ≠ rb := by have := hBt.below.size; omega
      have hRd := hRd.but hb1 (by have := hBt.below.size; omega)
      have hBt := hBt.next (by have := hBt.below.size; omega) hb1
      clear hq19 hb1
      refine hK.out _ _ (by rw [hBt.cell (by simp; omega) (by simp; omega)]; exact s4) (fun hHeld => ?_)
      clear hK K
      try simp only [Act.put]
      refine listH (l2 := #[true, true, true, true, true, true, false, false, false, false, false, false, false, false]) (by kernel_rfl) ?_
      refine wpAnyH_ready (rs := [6, 11]) (by kernel_rfl) (by simp) ?_
      refine AllReadyH.cons (o := _) rfl (fun K hK => ?_) (AllReadyH.cons (o := _) rfl (fun K hK => ?_) AllReadyH.nil)
      · go_simp
        refine (num_to (fun z => 0 ≤ z ∧ z ≤ 6) rb (p + 151) q19 3 3 _ (by omega) (by omega) (by omega) hq19r hRd (fun i hi => by obtain ⟨k, hk, hv⟩ := hL19 i hi; exact ⟨k, hk, by omega, by omega⟩)).mono ?_
        rintro e V3 ⟨⟨z, rfl, hz⟩, hRd, hb3⟩
        obtain ⟨n, rfl⟩ : ∃ n : Nat, z = n := ⟨z.toNat, by omega⟩
        have hBt := hBt.trans hb3
        clear hb3 hL19
        go_wp2_with fail
        refine hK.out _ _ (by rw [hBt.cell (by simp; omega) (by simp; omega)]; exact s4) (fun hHeld => ?_)
        clear hK K
        try simp only [Act.put]
        refine listH (l2 := #[true, true, true, true, true, true, true, false, false, false, false, false, false, false]) (by kernel_rfl) ?_
        refine wpAnyH_ready (rs := [7, 11]) (by kernel_rfl) (by simp) ?_
        refine AllReadyH.cons (o := _) rfl (fun K hK => ?_) (AllReadyH.cons (o := _) rfl (fun K hK => ?_) AllReadyH.nil)
        · go_simp
          have HN := HL2.out.next hBt hRd
          refine (grow_any rb (p + 152) w.heap.size b c n 60 os vs ((x : Int) + 1) _ (by omega) (by omega) hrw (by have := HN.size; omega) (by omega) HN.len HN.sm HN.tree HN.rd).mono ?_
          clear HN
          rintro e V5 ⟨b2, c2, os2, vs2, l2, ops2, rfl, hT2, hl2, hs2, ho2, hd2, hRd, hb5⟩
          have hsB : W2.heap.size ≤ _ := hBt.below.size
          have ho2 := ho2.base hsB
          have hBt := hBt.trans hb5
          clear hb5 hsB
          go_wp2_with fail
          refine hK.out _ _ (by rw [hBt.cell (by simp; omega) (by simp; omega)]; exact s4) (fun hHeld => ?_)
          clear hK K
          try simp only [Act.put]
          refine listH (l2 := #[true, true, true, true, true, true, true, true, false, false, false, false, false, false]) (by kernel_rfl) ?_
          refine takeH (i := 8) (oi := _) (v := ?vk6) 13 #[true, true, true, true, true, true, true, true, true, false, false, false, false, false] rfl (by kernel_rfl) (by kernel_rfl) (by kernel_rfl) rfl (by kernel_rfl) (fun _ _ _ h => h) (Or.inl ⟨by rfl, ?yk6⟩) (by assumption) ?rk6
          case yk6 => (intro w' hSw; go_simp; try with_reducible rfl)
          simp only [Act.put, List.setIfInBounds_toArray, List.set_cons_succ, List.set_cons_zero]
          refine takeH (i := 9) (oi := _) (v := ?vk7) 22 #[true, true, true, true, true, true, true, true, true, true, false, false, false, false] rfl (by kernel_rfl) (by kernel_rfl) (by kernel_rfl) rfl (by kernel_rfl) (fun _ _ _ h => h) (Or.inl ⟨by rfl, ?yk7⟩) (by assumption) ?rk7
          case yk7 => (intro w' hSw; go_simp; try with_reducible rfl)
          simp only [Act.put, List.setIfInBounds_toArray, List.set_cons_succ, List.set_cons_zero]
          refine takeH (i := 10) (oi := _) (v := ?vk8) 23 #[true, true, true, true, true, true, true, true, true, true, true, false, false, false] rfl (by kernel_rfl) (by kernel_rfl) (by kernel_rfl) rfl (by kernel_rfl) (fun _ _ _ h => h) (Or.inl ⟨by rfl, ?yk8⟩) (by assumption) ?rk8
          case yk8 => (intro w' hSw; go_simp; try with_reducible rfl)
          simp only [Act.put, List.setIfInBounds_toArray, List.set_cons_succ, List.set_cons_zero]
          refine wpAnyH_ready (rs := [11]) (by kernel_rfl) (by simp) ?_
          refine AllReadyH.cons (o := _) rfl (fun K hK => ?_) AllReadyH.nil
          refine st_alloc53 _ 6 ?_
          intro q6 V9 hq6 hb9 R6
          have lo6 : W2.heap.size ≤ q6 := by have := hBt.below.size; rw [hq6]; exact this
          have hBt := hBt.next (by have := hBt.below.size; omega) hb9
          have hRd := hRd.but hb9 (by have := hBt.below.size; have := hb9.size; omega)
          have hT2 := hT2.below hb9
          have ho2 := ho2.next hb9
          clear hq6 hb9
          refine hK.out _ _ (by rw [hBt.cell (by simp; omega) (by simp; omega)]; exact s4) (fun hHeld => ?_)
          clear hK K
          simp only [Act.put, List.setIfInBounds_toArray, List.set_cons_succ, List.set_cons_zero]
          refine listH (l2 := #[true, true, true, true, true, true, true, true, true, true, true, true, false, false]) (by kernel_rfl) ?_
          refine wpAnyH_ready (rs := [12]) (by kernel_rfl) (by simp) ?_
          refine AllReadyH.cons (o := _) rfl (fun K hK => ?_) AllReadyH.nil
          refine st_store53 _ 6 22 q6 (.slice (some ⟨b2, 0, none⟩) 32 c2) _ rfl (some ⟨b2, 0, none⟩) 32 c2 rfl rfl R6 ?_
          intro F _ hF hc6
          subst hF
          have hBt := hBt.setNew lo6 (by omega) (.slice (some ⟨b2, 0, none⟩) 32 c2)
          have hRd := hRd.set (q := q6) (by omega) (.slice (some ⟨b2, 0, none⟩) 32 c2)
          have ho2 := ho2.setBox R6 (.slice (some ⟨b2, 0, none⟩) 32 c2)
          refine hK.out _ _ (by rw [hBt.cell (by simp; omega) (by simp; omega)]; exact s4) (fun hHeld => ?_)
          clear hK K
          refine listH (l2 := #[true, true, true, true, true, true, true, true, true, true, true, true, true, false]) (by kernel_rfl) ?_
          refine wpAnyH_ready (rs := [13]) (by kernel_rfl) (by simp) ?_
          refine AllReadyH.cons (o := _) rfl (fun K hK => ?_) AllReadyH.nil
          go_simp
          refine hK.out _ _ hHeld (fun hHeld => ?_)
          clear hK K
          try simp only [Act.put]
          refine wpAnyH_done (by kernel_rfl) ?_ _
          go_wp2_with fail
          go_meet
          exact ⟨_, ops2, rfl, (HL2.out.next hBt hRd).on (by omega), ho2, hd2.1, hd2.2⟩
        · refine st_alloc53 _ 6 ?_
          intro q6 V9 hq6 hb9 R6
          have lo6 : W2.heap.size ≤ q6 := by have := hBt.below.size; rw [hq6]; exact this
          have hBt := hBt.next (by have := hBt.below.size; omega) hb9
          have hRd := hRd.but hb9 (by have := hBt.below.size; have := hb9.size; omega)
          clear hq6 hb9
          refine hK.out _ _ (by rw [hBt.cell (by simp; omega) (by simp; omega)]; exact s4) (fun hHeld => ?_)
          clear hK K
          simp only [Act.put, List.setIfInBounds_toArray, List.set_cons_succ, List.set_cons_zero]
          refine listH (l2 := #[true, true, true, true, true, true, true, false, false, false, false, true, false, false]) (by kernel_rfl) ?_
          refine wpAnyH_ready (rs := [7]) (by kernel_rfl) (by simp) ?_
          refine AllReadyH.cons (o := _) rfl (fun K hK => ?_) AllReadyH.nil
          go_simp
          have HN := HL2.out.next hBt hRd
          refine (grow_any rb (p + 152) w.heap.size b c n 60 os vs ((x : Int) + 1) _ (by omega) (by omega) hrw (by have := HN.size; omega) (by omega) HN.len HN.sm HN.tree HN.rd).mono ?_
          clear HN
          rintro e V5 ⟨b2, c2, os2, vs2, l2, ops2, rfl, hT2, hl2, hs2, ho2, hd2, hRd, hb5⟩
          have hsB : W2.heap.size ≤ _ := hBt.below.size
          have ho2 := ho2.base hsB
          have hBt := hBt.trans hb5
          have R6 := R6.of_block (hb5.block q6 (by omega) R6.lt)
          clear hb5 hsB
          go_wp2_with fail
          refine hK.out _ _ (by rw [hBt.cell (by simp; omega) (by simp; omega)]; exact s4) (fun hHeld => ?_)
          clear hK K
          try simp only [Act.put]
          refine listH (l2 := #[true, true, true, true, true, true, true, true, false, false, false, true, false, false]) (by kernel_rfl) ?_
          refine takeH (i := 8) (oi := _) (v := ?vk9) 13 #[true, true, true, true, true, true, true, true, true, false, false, true, false, false] rfl (by kernel_rfl) (by kernel_rfl) (by kernel_rfl) rfl (by kernel_rfl) (fun _ _ _ h => h) (Or.inl ⟨by rfl, ?yk9⟩) (by assumption) ?rk9
          case yk9 => (intro w' hSw; go_simp; try with_reducible rfl)
          simp only [Act.put, List.setIfInBounds_toArray, List.set_cons_succ, List.set_cons_zero]
          refine takeH (i := 9) (oi := _) (v := ?vk10) 22 #[true, true, true, true, true, true, true, true, true, true, false, true, false, false] rfl (by kernel_rfl) (by kernel_rfl) (by kernel_rfl) rfl (by kernel_rfl) (fun _ _ _ h => h) (Or.inl ⟨by rfl, ?yk10⟩) (by assumption) ?rk10
          case yk10 => (intro w' hSw; go_simp; try with_reducible rfl)
          simp only [Act.put, List.setIfInBounds_toArray, List.set_cons_succ, List.set_cons_zero]
          refine takeH (i := 10) (oi := _) (v := ?vk11) 23 #[true, true, true, true, true, true, true, true, true, true, true, true, false, false] rfl (by kernel_rfl) (by kernel_rfl) (by kernel_rfl) rfl (by kernel_rfl) (fun _ _ _ h => h) (Or.inl ⟨by rfl, ?yk11⟩) (by assumption) ?rk11
          case yk11 => (intro w' hSw; go_simp; try with_reducible rfl)
          simp only [Act.put, List.setIfInBounds_toArray, List.set_cons_succ, List.set_cons_zero]
          refine wpAnyH_ready (rs := [12]) (by kernel_rfl) (by simp) ?_
          refine AllReadyH.cons (o := _) rfl (fun K hK => ?_) AllReadyH.nil
          refine st_store53 _ 6 22 q6 (.slice (some ⟨b2, 0, none⟩) 32 c2) _ rfl (some ⟨b2, 0, none⟩) 32 c2 rfl rfl R6 ?_
          intro F _ hF hc6
          subst hF
          have hBt := hBt.setNew lo6 (by omega) (.slice (some ⟨b2, 0, none⟩) 32 c2)
          have hRd := hRd.set (q := q6) (by omega) (.slice (some ⟨b2, 0, none⟩) 32 c2)
          have ho2 := ho2.setBox R6 (.slice (some ⟨b2, 0, none⟩) 32 c2)
          refine hK.out _ _ (by rw [hBt.cell (by simp; omega) (by simp; omega)]; exact s4) (fun hHeld => ?_)
          clear hK K
          refine listH (l2 := #[true, true, true, true, true, true, true, true, true, true, true, true, true, false]) (by kernel_rfl) ?_
          refine wpAnyH_ready (rs := [13]) (by kernel_rfl) (by simp) ?_
          refine AllReadyH.cons (o := _) rfl (fun K hK => ?_) AllReadyH.nil
          go_simp
          refine hK.out _ _ hHeld (fun hHeld => ?_)
          clear hK K
          try simp only [Act.put]
          refine wpAnyH_done (by kernel_rfl) ?_ _
          go_wp2_with fail
          go_meet
          exact ⟨_, ops2, rfl, (HL2.out.next hBt hRd).on (by omega), ho2, hd2.1, hd2.2⟩
      · refine st_alloc53 _ 6 ?_
        intro q6 V9 hq6 hb9 R6
        have lo6 : W2.heap.size ≤ q6 := by have := hBt.below.size; rw [hq6]; exact this
        have hBt := hBt.next (by have := hBt.below.size; omega) hb9
        have hRd := hRd.but hb9 (by have := hBt.below.size; have := hb9.size; omega)
        have hL19 : ∀ i, i < 3 → ∃ k : Int, V9.cell? ⟨q19, i, none⟩ = some (.int .i64 k) ∧ (k = 1 ∨ k = 3 ∨ k = 6) := fun i hi => by obtain ⟨k, hk, hv⟩ := hL19 i hi; exact ⟨k, by rw [hb9.cell (by simpa using hq19l)]; exact hk, hv⟩
        clear hq6 hb9
        refine hK.out _ _ (by rw [hBt.cell (by simp; omega) (by simp; omega)]; exact s4) (fun hHeld => ?_)
        clear hK K
        simp only [Act.put, List.setIfInBounds_toArray, List.set_cons_succ, List.set_cons_zero]
        refine listH (l2 := #[true, true, true, true, true, true, false, false, false, false, false, true, false, false]) (by kernel_rfl) ?_
        refine wpAnyH_ready (rs := [6]) (by kernel_rfl) (by simp) ?_
        refine AllReadyH.cons (o := _) rfl (fun K hK => ?_) AllReadyH.nil
        go_simp
        refine (num_to (fun z => 0 ≤ z ∧ z ≤ 6) rb (p + 151) q19 3 3 _ (by omega) (by omega) (by omega) hq19r hRd (fun i hi => by obtain ⟨k, hk, hv⟩ := hL19 i hi; exact ⟨k, hk, by omega, by omega⟩)).mono ?_
        rintro e V3 ⟨⟨z, rfl, hz⟩, hRd, hb3⟩
        obtain ⟨n, rfl⟩ : ∃ n : Nat, z = n := ⟨z.toNat, by omega⟩
        have hBt := hBt.trans hb3
        have R6 := R6.of_block (hb3.block q6 (by omega) R6.lt)
        clear hb3 hL19
        go_wp2_with fail
        refine hK.out _ _ (by rw [hBt.cell (by simp; omega) (by simp; omega)]; exact s4) (fun hHeld => ?_)
        clear hK K
        try simp only [Act.put]
        refine listH (l2 := #[true, true, true, true, true, true, true, false, false, false, false, true, false, false]) (by kernel_rfl) ?_
        refine wpAnyH_ready (rs := [7]) (by kernel_rfl) (by simp) ?_
        refine AllReadyH.cons (o := _) rfl (fun K hK => ?_) AllReadyH.nil
        go_simp
        have HN := HL2.out.next hBt hRd
        refine (grow_any rb (p + 152) w.heap.size b c n 60 os vs ((x : Int) + 1) _ (by omega) (by omega) hrw (by have := HN.size; omega) (by omega) HN.len HN.sm HN.tree HN.rd).mono ?_
        clear HN
        rintro e V5 ⟨b2, c2, os2, vs2, l2, ops2, rfl, hT2, hl2, hs2, ho2, hd2, hRd, hb5⟩
        have hsB : W2.heap.size ≤ _ := hBt.below.size
        have ho2 := ho2.base hsB
        have hBt := hBt.trans hb5
        have R6 := R6.of_block (hb5.block q6 (by omega) R6.lt)
        clear hb5 hsB
        go_wp2_with fail
        refine hK.out _ _ (by rw [hBt.cell (by simp; omega) (by simp; omega)]; exact s4) (fun hHeld => ?_)
        clear hK K
        try simp only [Act.put]
        refine listH (l2 := #[true, true, true, true, true, true, true, true, false, false, false, true, false, false]) (by kernel_rfl) ?_
        refine takeH (i := 8) (oi := _) (v := ?vk12) 13 #[true, true, true, true, true, true, true, true, true, false, false, true, false, false] rfl (by kernel_rfl) (by kernel_rfl) (by kernel_rfl) rfl (by kernel_rfl) (fun _ _ _ h => h) (Or.inl ⟨by rfl, ?yk12⟩) (by assumption) ?rk12
        case yk12 => (intro w' hSw; go_simp; try with_reducible rfl)
        simp only [Act.put, List.setIfInBounds_toArray, List.set_cons_succ, List.set_cons_zero]
        refine takeH (i := 9) (oi := _) (v := ?vk13) 22 #[true, true, true, true, true, true, true, true, true, true, false, true, false, false] rfl (by kernel_rfl) (by kernel_rfl) (by kernel_rfl) rfl (by kernel_rfl) (fun _ _ _ h => h) (Or.inl ⟨by rfl, ?yk13⟩) (by assumption) ?rk13
        case yk13 => (intro w' hSw; go_simp; try with_reducible rfl)
        simp only [Act.put, List.setIfInBounds_toArray, List.set_cons_succ, List.set_cons_zero]
        refine takeH (i := 10) (oi := _) (v := ?vk14) 23 #[true, true, true, true, true, true, true, true, true, true, true, true, false, false] rfl (by kernel_rfl) (by kernel_rfl) (by kernel_rfl) rfl (by kernel_rfl) (fun _ _ _ h => h) (Or.inl ⟨by rfl, ?yk14⟩) (by assumption) ?rk14
        case yk14 => (intro w' hSw; go_simp; try with_reducible rfl)
        simp only [Act.put, List.setIfInBounds_toArray, List.set_cons_succ, List.set_cons_zero]
        refine wpAnyH_ready (rs := [12]) (by kernel_rfl) (by simp) ?_
        refine AllReadyH.cons (o := _) rfl (fun K hK => ?_) AllReadyH.nil
        refine st_store53 _ 6 22 q6 (.slice (some ⟨b2, 0, none⟩) 32 c2) _ rfl (some ⟨b2, 0, none⟩) 32 c2 rfl rfl R6 ?_
        intro F _ hF hc6
        subst hF
        have hBt := hBt.setNew lo6 (by omega) (.slice (some ⟨b2, 0, none⟩) 32 c2)
        have hRd := hRd.set (q := q6) (by omega) (.slice (some ⟨b2, 0, none⟩) 32 c2)
        have ho2 := ho2.setBox R6 (.slice (some ⟨b2, 0, none⟩) 32 c2)
        refine hK.out _ _ (by rw [hBt.cell (by simp; omega) (by simp; omega)]; exact s4) (fun hHeld => ?_)
        clear hK K
        refine listH (l2 := #[true, true, true, true, true, true, true, true, true, true, true, true, true, false]) (by kernel_rfl) ?_
        refine wpAnyH_ready (rs := [13]) (by kernel_rfl) (by simp) ?_
        refine AllReadyH.cons (o := _) rfl (fun K hK => ?_) AllReadyH.nil
        go_simp
        refine hK.out _ _ hHeld (fun hHeld => ?_)
        clear hK K
        try simp only [Act.put]
        refine wpAnyH_done (by kernel_rfl) ?_ _
        go_wp2_with fail
        go_meet
        exact ⟨_, ops2, rfl, (HL2.out.next hBt hRd).on (by omega), ho2, hd2.1, hd2.2⟩
    · refine st_alloc53 _ 6 ?_
      intro q6 V9 hq6 hb9 R6
      have lo6 : W2.heap.size ≤ q6 := by have := hBt.below.size; rw [hq6]; exact this
      have hBt := hBt.next (by have := hBt.below.size; omega) hb9
      have hRd := hRd.but hb9 (by have := hBt.below.size; have := hb9.size; omega)
      clear hq6 hb9
      refine hK.out _ _ (by rw [hBt.cell (by simp; omega) (by simp; omega)]; exact s4) (fun hHeld => ?_)
      clear hK K
      simp only [Act.put, List.setIfInBounds_toArray, List.set_cons_succ, List.set_cons_zero]
      refine listH (l2 := #[true, true, true, true, true, false, false, false, false, false, false, true, false, false]) (by kernel_rfl) ?_
      refine wpAnyH_ready (rs := [5]) (by kernel_rfl) (by simp) ?_
      refine AllReadyH.cons (o := _) rfl (fun K hK => ?_) AllReadyH.nil
      refine st_build3 _ 19 1 3 6 ?_
      intro q19 V1 hq19 hb1 hL19
      have hq19l : q19 < V1.heap.size := by obtain ⟨k, hk, _⟩ := hL19 0 (by omega); exact cell_lt hk
      have hq19r : q19 ≠ rb := by have := hBt.below.size; omega
      have hRd := hRd.but hb1 (by have := hBt.below.size; omega)
      have hBt := hBt.next (by have := hBt.below.size; omega) hb1
      have R6 := R6.of_block (hb1.block q6 R6.lt)
      clear hq19 hb1
      refine hK.out _ _ (by rw [hBt.cell (by simp; omega) (by simp; omega)]; exact s4) (fun hHeld => ?_)
      clear hK K
      try simp only [Act.put]
      refine listH (l2 := #[true, true, true, true, true, true, false, false, false, false, false, true, false, false]) (by kernel_rfl) ?_
      refine wpAnyH_ready (rs := [6]) (by kernel_rfl) (by simp) ?_
      refine AllReadyH.cons (o := _) rfl (fun K hK => ?_) AllReadyH.nil
      go_simp
      refine (num_to (fun z => 0 ≤ z ∧ z ≤ 6) rb (p + 151) q19 3 3 _ (by omega) (by omega) (by omega) hq19r hRd (fun i hi => by obtain ⟨k, hk, hv⟩ := hL19 i hi; exact ⟨k, hk, by omega, by omega⟩)).mono ?_
      rintro e V3 ⟨⟨z, rfl, hz⟩, hRd, hb3⟩
      obtain ⟨n, rfl⟩ : ∃ n : Nat, z = n := ⟨z.toNat, by omega⟩
      have hBt := hBt.trans hb3
      have R6 := R6.of_block (hb3.block q6 (by omega) R6.lt)
      clear hb3 hL19
      go_wp2_with fail
      refine hK.out _ _ (by rw [hBt.cell (by simp; omega) (by simp; omega)]; exact s4) (fun hHeld => ?_)
      clear hK K
      try simp only [Act.put]
      refine listH (l2 := #[true, true, true, true, true, true, true, false, false, false, false, true, false, false]) (by kernel_rfl) ?_
      refine wpAnyH_ready (rs := [7]) (by kernel_rfl) (by simp) ?_
      refine AllReadyH.cons (o := _) rfl (fun K hK => ?_) AllReadyH.nil
      go_simp
      have HN := HL2.out.next hBt hRd
      refine (grow_any rb (p + 152) w.heap.size b c n 60 os vs ((x : Int) + 1) _ (by omega) (by omega) hrw (by have := HN.size; omega) (by omega) HN.len HN.sm HN.tree HN.rd).mono ?_
      clear HN
      rintro e V5 ⟨b2, c2, os2, vs2, l2, ops2, rfl, hT2, hl2, hs2, ho2, hd2, hRd, hb5⟩
      have hsB : W2.heap.size ≤ _ := hBt.below.size
      have ho2 := ho2.base hsB
      have hBt := hBt.trans hb5
      have R6 := R6.of_block (hb5.block q6 (by omega) R6.lt)
      clear hb5 hsB
      go_wp2_with fail
      refine hK.out _ _ (by rw [hBt.cell (by simp; omega) (by simp; omega)]; exact s4) (fun hHeld => ?_)
      clear hK K
      try simp only [Act.put]
      refine listH (l2 := #[true, true, true, true, true, true, true, true, false, false, false, true, false, false]) (by kernel_rfl) ?_
      refine takeH (i := 8) (oi := _) (v := ?vk15) 13 #[true, true, true, true, true, true, true, true, true, false, false, true, false, false] rfl (by kernel_rfl) (by kernel_rfl) (by kernel_rfl) rfl (by kernel_rfl) (fun _ _ _ h => h) (Or.inl ⟨by rfl, ?yk15⟩) (by assumption) ?rk15
      case yk15 => (intro w' hSw; go_simp; try with_reducible rfl)
      simp only [Act.put, List.setIfInBounds_toArray, List.set_cons_succ, List.set_cons_zero]
      refine takeH (i := 9) (oi := _) (v := ?vk16) 22 #[true, true, true, true, true, true, true, true, true, true, false, true, false, false] rfl (by kernel_rfl) (by kernel_rfl) (by kernel_rfl) rfl (by kernel_rfl) (fun _ _ _ h => h) (Or.inl ⟨by rfl, ?yk16⟩) (by assumption) ?rk16
      case yk16 => (intro w' hSw; go_simp; try with_reducible rfl)
      simp only [Act.put, List.setIfInBounds_toArray, List.set_cons_succ, List.set_cons_zero]
      refine takeH (i := 10) (oi := _) (v := ?vk17) 23 #[true, true, true, true, true, true, true, true, true, true, true, true, false, false] rfl (by kernel_rfl) (by kernel_rfl) (by kernel_rfl) rfl (by kernel_rfl) (fun _ _ _ h => h) (Or.inl ⟨by rfl, ?yk17⟩) (by assumption) ?rk17
      case yk17 => (intro w' hSw; go_simp; try with_reducible rfl)
      simp only [Act.put, List.setIfInBounds_toArray, List.set_cons_succ, List.set_cons_zero]
      refine wpAnyH_ready (rs := [12]) (by kernel_rfl) (by simp) ?_
      refine AllReadyH.cons (o := _) rfl (fun K hK => ?_) AllReadyH.nil
      refine st_store53 _ 6 22 q6 (.slice (some ⟨b2, 0, none⟩) 32 c2) _ rfl (some ⟨b2, 0, none⟩) 32 c2 rfl rfl R6 ?_
      intro F _ hF hc6
      subst hF
      have hBt := hBt.setNew lo6 (by omega) (.slice (some ⟨b2, 0, none⟩) 32 c2)
      have hRd := hRd.set (q := q6) (by omega) (.slice (some ⟨b2, 0, none⟩) 32 c2)
      have ho2 := ho2.setBox R6 (.slice (some ⟨b2, 0, none⟩) 32 c2)
      refine hK.out _ _ (by rw [hBt.cell (by simp; omega) (by simp; omega)]; exact s4) (fun hHeld => ?_)
      clear hK K
      refine listH (l2 := #[true, true, true, true, true, true, true, true, true, true, true, true, true, false]) (by kernel_rfl) ?_
      refine wpAnyH_ready (rs := [13]) (by kernel_rfl) (by simp) ?_
      refine AllReadyH.cons (o := _) rfl (fun K hK => ?_) AllReadyH.nil
      go_simp
      refine hK.out _ _ hHeld (fun hHeld => ?_)
      clear hK K
      try simp only [Act.put]
      refine wpAnyH_done (by kernel_rfl) ?_ _
      go_wp2_with fail
      go_meet
      exact ⟨_, ops2, rfl, (HL2.out.next hBt hRd).on (by omega), ho2, hd2.1, hd2.2⟩
  obtain ⟨l3, ops3, rfl, h3, ho3, hn3, hd3⟩ := hcut
  rename World => W3
  obtain ⟨a3, c3, rfl, _⟩ := ho3.at_ (fun o ho => (hd3 o ho).sz)
  clear hBt hRd s4 hq4l hq4w
  have HL3 : Hid (L5 w W3 rb (p + 220) w.heap.size (w.heap.size + 1) q4 b c os vs) := h3
  have HO3 : Hid (OwnOps W3 W2.heap.size (.slice a3 ops3.length c3) ops3) := ho3
  have HD3 : Hid (∀ o ∈ ops3, OpSz o) := fun o ho => (hd3 o ho).sz
  clear h3 ho3 hd3 HL2
  have s4 : W3.cell? ⟨q4, 0, none⟩ = some (.slice (some ⟨b, 0, none⟩) 32 c) := HL3.out.r4.cell (by omega)
  have hq4l := HL3.out.r4.lt
  have hq4w := HL3.out.l4
  have hsz3 := HL3.out.size
  have hBt : But rb W3 W3.drew := But.of_below (by omega) (Below.refl _ _).drew
  have hRd : RdTo W3.drew rb (p + 220) := HL3.out.rd.but (Below.refl _ _).drew (by omega)
  go_upto_region 4 with fail
  go_cut [8] (fun s8 wx => ∃ q8 x y a k a' k' l, s8 = .pointer (some ⟨q8, 0, none⟩) ∧ l.bases.length ≤ 32 ∧ L5b W3 wx rb (p + 221) q8 x y a k a' k' l)
  case first =>
    refine wp_region_held_drew (S := (fun W => W.cell? ⟨q4, 0, none⟩ = some (.slice (some ⟨b, 0, none⟩) 32 c))) (by kernel_rfl) ?_ (fun hHeld => ?_)
    · exact s4
    refine listH (l2 := #[false, false, false, false, false, false, false, false, false]) (by kernel_rfl) ?_
    refine takeH (i := 0) (oi := _) (v := ?vk18) 24 #[true, false, false, false, false, false, false, false, false] rfl (by kernel_rfl) (by kernel_rfl) (by kernel_rfl) rfl (by kernel_rfl) (fun _ _ _ h => h) (Or.inl ⟨by rfl, ?yk18⟩) (by assumption) ?rk18
    case yk18 => (intro w' hSw; go_simp; try with_reducible rfl)
    simp only [Act.put, List.setIfInBounds_toArray, List.set_cons_succ, List.set_cons_zero]
    refine takeH (i := 1) (oi := _) (v := ?vk19) 25 #[true, true, false, false, false, false, false, false, false] rfl (by kernel_rfl) (by kernel_rfl) (by kernel_rfl) rfl (by kernel_rfl) (fun _ _ _ h => h) (Or.inl ⟨by rfl, ?yk19⟩) (by assumption) ?rk19
    case yk19 => (intro w' hSw; go_simp; try with_reducible rfl)
    simp only [Act.put, List.setIfInBounds_toArray, List.set_cons_succ, List.set_cons_zero]
    refine takeH (i := 2) (oi := _) (v := ?vk20) 26 #[true, true, true, false, false, false, false, false, false] rfl (by kernel_rfl) (by kernel_rfl) (by kernel_rfl) rfl (by kernel_rfl) (fun _ _ _ h => h) (Or.inl ⟨by rfl, ?yk20⟩) (by assumption) ?rk20
    case yk20 => (intro w' hSw; go_simp; try with_reducible rfl)
    simp only [Act.put, List.setIfInBounds_toArray, List.set_cons_succ, List.set_cons_zero]
    refine takeH (i := 5) (oi := _) (v := ?vk21) 29 #[true, true, true, false, false, true, false, false, false] rfl (by kernel_rfl) (by kernel_rfl) (by kernel_rfl) rfl (by kernel_rfl) (fun _ _ _ h => h) (Or.inl ⟨by rfl, ?yk21⟩) (by assumption) ?rk21
    case yk21 => (intro w' hSw; go_simp; try with_reducible rfl)
    simp only [Act.put, List.setIfInBounds_toArray, List.set_cons_succ, List.set_cons_zero]
    refine wpAnyH_ready (rs := [3, 7]) (by kernel_rfl) (by simp) ?_
    refine AllReadyH.cons (o := _) rfl (fun K hK => ?_) (AllReadyH.cons (o := _) rfl (fun K hK => ?_) AllReadyH.nil)
    · go_simp
      refine (pick_to rb (p + 220) 5 _ (by omega) (by omega) (by omega) hRd).mono ?_
      rintro e V3 ⟨⟨y, rfl, hy⟩, hRd, hb3⟩
      have hBt := hBt.trans hb3
      clear hb3
      go_wp2_with fail
      refine hK.out _ _ (by rw [hBt.cell (by simp; omega) (by simp; omega)]; exact s4) (fun hHeld => ?_)
      clear hK K
      try simp only [Act.put]
      refine listH (l2 := #[true, true, true, true, false, true, false, false, false]) (by kernel_rfl) ?_
      refine takeH (i := 4) (oi := _) (v := (.int .i64 ((1 : Int) + (y : Int)))) 28 #[true, true, true, true, true, true, false, false, false] rfl (by kernel_rfl) (by kernel_rfl) (by kernel_rfl) rfl (by kernel_rfl) (fun _ _ _ h => h) (Or.inl ⟨by rfl, ?yk22⟩) (by assumption) ?rk22
      case yk22 => (intro w' hSw; go_simp; simp only [IntKind.wrap_i64]; omega)
      simp only [Act.put, List.setIfInBounds_toArray, List.set_cons_succ, List.set_cons_zero]
      refine wpAnyH_ready (rs := [6, 7]) (by kernel_rfl) (by simp) ?_
      refine AllReadyH.cons (o := _) rfl (fun K hK => ?_) (AllReadyH.cons (o := _) rfl (fun K hK => ?_) AllReadyH.nil)
      · go_simp
        have HN := HL3.out.next hBt hRd
        have HO := (HO3.out.but_ hBt (by omega)).at2 HD3.out
        have HT := HN.tree.to_objs
        rw [HN.len] at HT
        refine (specLogMake _ _ _ os _ _ _ _ _ _ _ ops3 _ _ _ (Nat.le_refl _) (Nat.le_refl _) (HN.sm.sizes (by omega)) HT HO).mono ?_
        rintro e V5 hM5
        have hzN := HN.size
        clear HN HO HT
        obtain ⟨hfew, hlsz⟩ := logMake_few os x (1 + (y : Int)) ops3 HD3.out
        generalize logMake os x (1 + (y : Int)) ops3 = l at hM5 hfew hlsz
        obtain ⟨a5, c5, a5', c5', rfl, hOB5, hOO5, hb5⟩ := hM5.parts
        have hsB : W3.heap.size ≤ _ := hBt.below.size
        have hOB5 := hOB5.base hsB
        have hOO5 := hOO5.base hsB
        have hRd := hRd.but hb5 (by omega)
        have hBt := hBt.next (by omega) hb5
        clear hb5 hM5 hsB
        go_wp2_with fail
        refine hK.out _ _ (by rw [hBt.cell (by simp; omega) (by simp; omega)]; exact s4) (fun hHeld => ?_)
        clear hK K
        try simp only [Act.put]
        refine listH (l2 := #[true, true, true, true, true, true, true, false, false]) (by kernel_rfl) ?_
        refine wpAnyH_ready (rs := [7]) (by kernel_rfl) (by simp) ?_
        refine AllReadyH.cons (o := _) rfl (fun K hK => ?_) AllReadyH.nil
        refine st_alloc29 _ 8 ?_
        intro q8 V9 hq8 hb9 R8
        have lo8 : W3.heap.size ≤ q8 := by have := hBt.below.size; rw [hq8]; exact this
        have hBt := hBt.next (by have := hBt.below.size; omega) hb9
        have hRd := hRd.but hb9 (by have := hBt.below.size; have := hb9.size; omega)
        have hOB5 := hOB5.next hb9
        have hOO5 := hOO5.next hb9
        clear hq8 hb9
        refine hK.out _ _ (by rw [hBt.cell (by simp; omega) (by simp; omega)]; exact s4) (fun hHeld => ?_)
        clear hK K
        simp only [Act.put, List.setIfInBounds_toArray, List.set_cons_succ, List.set_cons_zero]
        refine listH (l2 := #[true, true, true, true, true, true, true, true, false]) (by kernel_rfl) ?_
        refine wpAnyH_ready (rs := [8]) (by kernel_rfl) (by simp) ?_
        refine AllReadyH.cons (o := _) rfl (fun K hK => ?_) AllReadyH.nil
        refine st_store29 _ 8 30 q8 l.who l.seq a5 l.bases.length c5 a5' l.list.length c5' _ rfl rfl R8 (LogCells.zero R8) ?_
        intro F hbF hbox hrF _
        have hOB5 := World.ownsRow.kept hOB5 hbF.grown (.inr (hOB5.ne_row R8 (by decide)))
        have hOO5 := World.ownsRow.kept hOO5 hbF.grown (.inr (hOO5.ne_row R8 (by decide)))
        have hBt := hBt.both hbF lo8 (by omega)
        have hRd := hRd.both hbF (by omega)
        refine hK.out _ _ (by rw [hBt.cell (by simp; omega) (by simp; omega)]; exact s4) (fun hHeld => ?_)
        clear hK K
        refine listH (l2 := #[true, true, true, true, true, true, true, true, true]) (by kernel_rfl) ?_
        refine wpAnyH_done (by kernel_rfl) ?_ _
        go_wp2_with fail
        go_meet
        exact ⟨q8, l.who, l.seq, a5, c5, a5', c5', l, rfl, hfew, hBt, hRd, hbox, hrF, lo8, rfl, rfl, hOB5, hOO5, by omega, hlsz⟩
      · refine st_alloc29 _ 8 ?_
        intro q8 V9 hq8 hb9 R8
        have lo8 : W3.heap.size ≤ q8 := by have := hBt.below.size; rw [hq8]; exact this
        have hBt := hBt.next (by have := hBt.below.size; omega) hb9
        have hRd := hRd.but hb9 (by have := hBt.below.size; have := hb9.size; omega)
        clear hq8 hb9
        refine hK.out _ _ (by rw [hBt.cell (by simp; omega) (by simp; omega)]; exact s4) (fun hHeld => ?_)
        clear hK K
        simp only [Act.put, List.setIfInBounds_toArray, List.set_cons_succ, List.set_cons_zero]
        refine listH (l2 := #[true, true, true, true, true, true, false, true, false]) (by kernel_rfl) ?_
        refine wpAnyH_ready (rs := [6]) (by kernel_rfl) (by simp) ?_
        refine AllReadyH.cons (o := _) rfl (fun K hK => ?_) AllReadyH.nil
        go_simp
        have HN := HL3.out.next hBt hRd
        have HO := (HO3.out.but_ hBt (by omega)).at2 HD3.out
        have HT := HN.tree.to_objs
        rw [HN.len] at HT
        refine (specLogMake _ _ _ os _ _ _ _ _ _ _ ops3 _ _ _ (Nat.le_refl _) (Nat.le_refl _) (HN.sm.sizes (by omega)) HT HO).mono ?_
        rintro e V5 hM5
        have hzN := HN.size
        clear HN HO HT
        obtain ⟨hfew, hlsz⟩ := logMake_few os x (1 + (y : Int)) ops3 HD3.out
        generalize logMake os x (1 + (y : Int)) ops3 = l at hM5 hfew hlsz
        obtain ⟨a5, c5, a5', c5', rfl, hOB5, hOO5, hb5⟩ := hM5.parts
        have hsB : W3.heap.size ≤ _ := hBt.below.size
        have hOB5 := hOB5.base hsB
        have hOO5 := hOO5.base hsB
        have hRd := hRd.but hb5 (by omega)
        have hBt := hBt.next (by omega) hb5
        have R8 := R8.of_block (hb5.block q8 R8.lt)
        clear hb5 hM5 hsB
        go_wp2_with fail
        refine hK.out _ _ (by rw [hBt.cell (by simp; omega) (by simp; omega)]; exact s4) (fun hHeld => ?_)
        clear hK K
        try simp only [Act.put]
        refine listH (l2 := #[true, true, true, true, true, true, true, true, false]) (by kernel_rfl) ?_
        refine wpAnyH_ready (rs := [8]) (by kernel_rfl) (by simp) ?_
        refine AllReadyH.cons (o := _) rfl (fun K hK => ?_) AllReadyH.nil
        refine st_store29 _ 8 30 q8 l.who l.seq a5 l.bases.length c5 a5' l.list.length c5' _ rfl rfl R8 (LogCells.zero R8) ?_
        intro F hbF hbox hrF _
        have hOB5 := World.ownsRow.kept hOB5 hbF.grown (.inr (hOB5.ne_row R8 (by decide)))
        have hOO5 := World.ownsRow.kept hOO5 hbF.grown (.inr (hOO5.ne_row R8 (by decide)))
        have hBt := hBt.both hbF lo8 (by omega)
        have hRd := hRd.both hbF (by omega)
        refine hK.out _ _ (by rw [hBt.cell (by simp; omega) (by simp; omega)]; exact s4) (fun hHeld => ?_)
        clear hK K
        refine listH (l2 := #[true, true, true, true, true, true, true, true, true]) (by kernel_rfl) ?_
        refine wpAnyH_done (by kernel_rfl) ?_ _
        go_wp2_with fail
        go_meet
        exact ⟨q8, l.who, l.seq, a5, c5, a5', c5', l, rfl, hfew, hBt, hRd, hbox, hrF, lo8, rfl, rfl, hOB5, hOO5, by omega, hlsz⟩
    · refine st_alloc29 _ 8 ?_
      intro q8 V9 hq8 hb9 R8
      have lo8 : W3.heap.size ≤ q8 := by have := hBt.below.size; rw [hq8]; exact this
      have hBt := hBt.next (by have := hBt.below.size; omega) hb9
      have hRd := hRd.but hb9 (by have := hBt.below.size; have := hb9.size; omega)
      clear hq8 hb9
      refine hK.out _ _ (by rw [hBt.cell (by simp; omega) (by simp; omega)]; exact s4) (fun hHeld => ?_)
      clear hK K
      simp only [Act.put, List.setIfInBounds_toArray, List.set_cons_succ, List.set_cons_zero]
      refine listH (l2 := #[true, true, true, false, false, true, false, true, false]) (by kernel_rfl) ?_
      refine wpAnyH_ready (rs := [3]) (by kernel_rfl) (by simp) ?_
      refine AllReadyH.cons (o := _) rfl (fun K hK => ?_) AllReadyH.nil
      go_simp
      refine (pick_to rb (p + 220) 5 _ (by omega) (by omega) (by omega) hRd).mono ?_
      rintro e V3 ⟨⟨y, rfl, hy⟩, hRd, hb3⟩
      have hBt := hBt.trans hb3
      have R8 := R8.of_block (hb3.block q8 (by omega) R8.lt)
      clear hb3
      go_wp2_with fail
      refine hK.out _ _ (by rw [hBt.cell (by simp; omega) (by simp; omega)]; exact s4) (fun hHeld => ?_)
      clear hK K
      try simp only [Act.put]
      refine listH (l2 := #[true, true, true, true, false, true, false, true, false]) (by kernel_rfl) ?_
      refine takeH (i := 4) (oi := _) (v := (.int .i64 ((1 : Int) + (y : Int)))) 28 #[true, true, true, true, true, true, false, true, false] rfl (by kernel_rfl) (by kernel_rfl) (by kernel_rfl) rfl (by kernel_rfl) (fun _ _ _ h => h) (Or.inl ⟨by rfl, ?yk23⟩) (by assumption) ?rk23
      case yk23 => (intro w' hSw; go_simp; simp only [IntKind.wrap_i64]; omega)
      simp only [Act.put, List.setIfInBounds_toArray, List.set_cons_succ, List.set_cons_zero]
      refine wpAnyH_ready (rs := [6]) (by kernel_rfl) (by simp) ?_
      refine AllReadyH.cons (o := _) rfl (fun K hK => ?_) AllReadyH.nil
      go_simp
      have HN := HL3.out.next hBt hRd
      have HO := (HO3.out.but_ hBt (by omega)).at2 HD3.out
      have HT := HN.tree.to_objs
      rw [HN.len] at HT
      refine (specLogMake _ _ _ os _ _ _ _ _ _ _ ops3 _ _ _ (Nat.le_refl _) (Nat.le_refl _) (HN.sm.sizes (by omega)) HT HO).mono ?_
      rintro e V5 hM5
      have hzN := HN.size
      clear HN HO HT
      obtain ⟨hfew, hlsz⟩ := logMake_few os x (1 + (y : Int)) ops3 HD3.out
      generalize logMake os x (1 + (y : Int)) ops3 = l at hM5 hfew hlsz
      obtain ⟨a5, c5, a5', c5', rfl, hOB5, hOO5, hb5⟩ := hM5.parts
      have hsB : W3.heap.size ≤ _ := hBt.below.size
      have hOB5 := hOB5.base hsB
      have hOO5 := hOO5.base hsB
      have hRd := hRd.but hb5 (by omega)
      have hBt := hBt.next (by omega) hb5
      have R8 := R8.of_block (hb5.block q8 R8.lt)
      clear hb5 hM5 hsB
      go_wp2_with fail
      refine hK.out _ _ (by rw [hBt.cell (by simp; omega) (by simp; omega)]; exact s4) (fun hHeld => ?_)
      clear hK K
      try simp only [Act.put]
      refine listH (l2 := #[true, true, true, true, true, true, true, true, false]) (by kernel_rfl) ?_
      refine wpAnyH_ready (rs := [8]) (by kernel_rfl) (by simp) ?_
      refine AllReadyH.cons (o := _) rfl (fun K hK => ?_) AllReadyH.nil
      refine st_store29 _ 8 30 q8 l.who l.seq a5 l.bases.length c5 a5' l.list.length c5' _ rfl rfl R8 (LogCells.zero R8) ?_
      intro F hbF hbox hrF _
      have hOB5 := World.ownsRow.kept hOB5 hbF.grown (.inr (hOB5.ne_row R8 (by decide)))
      have hOO5 := World.ownsRow.kept hOO5 hbF.grown (.inr (hOO5.ne_row R8 (by decide)))
      have hBt := hBt.both hbF lo8 (by omega)
      have hRd := hRd.both hbF (by omega)
      refine hK.out _ _ (by rw [hBt.cell (by simp; omega) (by simp; omega)]; exact s4) (fun hHeld => ?_)
      clear hK K
      refine listH (l2 := #[true, true, true, true, true, true, true, true, true]) (by kernel_rfl) ?_
      refine wpAnyH_done (by kernel_rfl) ?_ _
      go_wp2_with fail
      go_meet
      exact ⟨q8, l.who, l.seq, a5, c5, a5', c5', l, rfl, hfew, hBt, hRd, hbox, hrF, lo8, rfl, rfl, hOB5, hOO5, by omega, hlsz⟩
  obtain ⟨q8, x8, y8, a8, k8, a8', k8', l8, rfl, hfew, h8⟩ := hcut
  have HFEW : Hid (l8.bases.length ≤ 32) := hfew
  clear hfew
  have hr3 : rb < W3.heap.size := by omega
  have HB8 : Hid (L5b W3 wc rb (p + 221) q8 x8 y8 a8 k8 a8' k8' l8) := h8
  have hlo8 := h8.lo
  clear h8 hBt hRd s4
  rename World => W5
  go_wp2_with fail
  refine (pick_to rb (p + 221) 40 _ (by omega) (by omega) (by omega) HB8.out.rd).mono ?_
  rintro e W6 ⟨⟨d, rfl, hd⟩, hr6, hb6⟩
  have HB6 : Hid (L5b W3 W6 rb (p + 222) q8 x8 y8 a8 k8 a8' k8' l8) := HB8.out.next hr3 hb6 hr6
  have hz6 : W3.heap.size ≤ W6.heap.size := HB6.out.but.below.size
  clear HB8 hr6 hb6
  have hq8 : q8 < W6.heap.size := by obtain ⟨f, hf⟩ := HB6.out.row; exact hf.lt
  go_upto_block 0 with fail
  go_cut [] (fun wx => ∃ x y a k a' k' l, L5b W3 wx rb (p + 223) q8 x y a k a' k' l)
  case first =>
    obtain ⟨c0, c1, c2, c3⟩ := HB6.out.box
    obtain ⟨f8, hf8⟩ := HB6.out.row
    have HF8 : Hid (W6.rowIs q8 58 4 f8) := hf8
    have z0 := hf8.frozen 0
    have z1 := hf8.frozen 1
    have z2 := hf8.frozen 2
    clear hf8
    by_cases d0 : d = 0
    · subst d0
      go_wp2_with fail
      have hal : Below W6.heap.size W6 (W6.alloc (Obj.cells #[.int .i64 (-1), .int .i64 3] 3)) := (Below.refl _ _).alloc (Nat.le_refl _) _
      have H7 := HB6.out.next hr3 (But.of_below (by omega) hal) (HB6.out.rd.but hal (by omega))
      refine (num_to (fun _ => True) rb (p + 222) W6.heap.size 2 2 _ (by omega) (by omega) (by omega) (by omega) H7.rd ?_).mono ?_
      · intro i hi
        match i, hi with
        | 0, _ => exact ⟨-1, by simp [go_sem], trivial⟩
        | 1, _ => exact ⟨3, by simp [go_sem], trivial⟩
      rintro e W7 ⟨⟨z, rfl, _⟩, hr7, hb7⟩
      have HB7 : Hid (L5b W3 W7 rb (p + 222 + 1) q8 x8 y8 a8 k8 a8' k8' l8) := H7.next hr3 hb7 hr7
      obtain ⟨f7, hf7⟩ := HB7.out.row
      have HF7 : Hid (W7.rowIs q8 58 4 f7) := hf7
      have g0 := HB7.out.box.c0
      have y0 := hf7.frozen 0
      have hl7 := hf7.lt
      clear hf7 H7 hb7 hr7 hal c0 c1 c2 c3 z0 z1 z2
      go_wp2_with fail
      go_meet
      exact ⟨z, y8, a8, k8, a8', k8', _, HB7.out.put hr3 _ ((But.refl q8 W7).set 0 _) ⟨_, HF7.out.set 0 _⟩ (HB7.out.box.set0 z)⟩
    by_cases d1 : d = 1
    · subst d1
      go_wp2_with fail
      have hal : Below W6.heap.size W6 (W6.alloc (Obj.cells #[.int .i64 0, .int .i64 1001] 3)) := (Below.refl _ _).alloc (Nat.le_refl _) _
      have H7 := HB6.out.next hr3 (But.of_below (by omega) hal) (HB6.out.rd.but hal (by omega))
      refine (num_to (fun _ => True) rb (p + 222) W6.heap.size 2 2 _ (by omega) (by omega) (by omega) (by omega) H7.rd ?_).mono ?_
      · intro i hi
        match i, hi with
        | 0, _ => exact ⟨0, by simp [go_sem], trivial⟩
        | 1, _ => exact ⟨1001, by simp [go_sem], trivial⟩
      rintro e W7 ⟨⟨z, rfl, _⟩, hr7, hb7⟩
      have HB7 : Hid (L5b W3 W7 rb (p + 222 + 1) q8 x8 y8 a8 k8 a8' k8' l8) := H7.next hr3 hb7 hr7
      obtain ⟨f7, hf7⟩ := HB7.out.row
      have HF7 : Hid (W7.rowIs q8 58 4 f7) := hf7
      have g0 := HB7.out.box.c1
      have y0 := hf7.frozen 1
      have hl7 := hf7.lt
      clear hf7 H7 hb7 hr7 hal c0 c1 c2 c3 z0 z1 z2
      go_wp2_with fail
      go_meet
      exact ⟨x8, z, a8, k8, a8', k8', _, HB7.out.put hr3 _ ((But.refl q8 W7).set 1 _) ⟨_, HF7.out.set 1 _⟩ (HB7.out.box.set1 z)⟩
    by_cases d2 : d = 2
    · subst d2
      have hal : Below W6.heap.size W6 (W6.alloc (Obj.cells #[.int .i64 31, .int .i64 0] 121)) := (Below.refl _ _).alloc (Nat.le_refl _) _
      have HB7 : Hid (L5b W3 (W6.alloc (Obj.cells #[.int .i64 31, .int .i64 0] 121)) rb (p + 222) q8 x8 y8 a8 k8 a8' k8' l8) := HB6.out.next hr3 (But.of_below (by omega) hal) (HB6.out.rd.but hal (by omega))
      go_wp2_with (first
        | (at_builtin; refine wpList_app_base _ rfl (.tmp 48) (.tmp 50) rfl W3.heap.size _ l8.bases ⟨31, 0⟩ HB7.out.bases ⟨W6.heap.size, 0, none⟩ rfl rfl ?c1 ?c2 ?c3 ?_)
        | go_in)
      case c1 => intro i u hi; exact base_at hi rfl
      case c2 => have := HB7.out.few; omega
      case c3 => simp; omega
      intro v3 w3 hE
      obtain ⟨a2, k2, rfl, g2, y2, hN⟩ := HB7.out.app hr3 hE (by have := HFEW.out; omega)
      rw [List.length_append, List.length_singleton] at hN
      have HN : Hid (L5b W3 (w3.setCell ⟨q8, 2, none⟩ (.slice a2 (l8.bases.length + 1) k2)) rb (p + 222) q8 x8 y8 a2 k2 a8' k8' { l8 with bases := l8.bases ++ [⟨31, 0⟩] }) := hN
      clear hE hN HB7 hal c0 c1 c2 c3 z0 z1 z2
      go_wp2_with fail
      go_meet
      exact ⟨x8, y8, a2, k2, a8', k8', _, HN.out.on (by omega)⟩
    by_cases d3 : d = 3
    · subst d3
      by_cases hpos : 0 < l8.bases.length
      · obtain ⟨g, z, ha, hg, hne, gz, yz, hver⟩ := HB6.out.ver hr3 hpos
        subst ha
        have HV : Hid (∀ v : Int, ∃ l', l'.bases.length = l8.bases.length ∧ l'.list.length = l8.list.length ∧ L5b W3 (W6.setCell ⟨g, 1, none⟩ (.int .i64 v)) rb (p + 222) q8 x8 y8 (some ⟨g, 0, none⟩) k8 a8' k8' l') := hver
        have hpos' : (0 : Int) < (l8.bases.length : Int) := by omega
        clear hver
        go_upto_region 14 with fail
        refine wp_region_held_drew (S := (fun W => W.cell? ⟨q8, 2, none⟩ = some (.slice (some ⟨g, 0, none⟩) l8.bases.length k8))) (by kernel_rfl) ?_ (fun hHeld => ?_)
        · exact c2
        refine listH (l2 := #[false, false, false, false, false, false, false, false, false, false, false]) (by kernel_rfl) ?_
        refine takeH (i := 0) (oi := _) (v := ?vk24) 59 #[true, false, false, false, false, false, false, false, false, false, false] rfl (by kernel_rfl) (by kernel_rfl) (by kernel_rfl) rfl (by kernel_rfl) (fun _ _ _ h => h) (Or.inl ⟨by rfl, ?yk24⟩) (by assumption) ?rk24
        case yk24 => (intro w' hSw; go_simp; try with_reducible rfl)
        simp only [Act.put, List.setIfInBounds_toArray, List.set_cons_succ, List.set_cons_zero]
        refine takeH (i := 1) (oi := _) (v := ?vk25) 60 #[true, true, false, false, false, false, false, false, false, false, false] rfl (by kernel_rfl) (by kernel_rfl) (by kernel_rfl) rfl (by kernel_rfl) (fun _ _ _ h => h) (Or.inl ⟨by rfl, ?yk25⟩) (by assumption) ?rk25
        case yk25 => (intro w' hSw; go_simp; try with_reducible rfl)
        simp only [Act.put, List.setIfInBounds_toArray, List.set_cons_succ, List.set_cons_zero]
        refine takeH (i := 2) (oi := _) (v := ?vk26) 61 #[true, true, true, false, false, false, false, false, false, false, false] rfl (by kernel_rfl) (by kernel_rfl) (by kernel_rfl) rfl (by kernel_rfl) (fun _ _ _ h => h) (Or.inl ⟨by rfl, ?yk26⟩) (by assumption) ?rk26
        case yk26 => (intro w' hSw; go_simp; try with_reducible rfl)
        simp only [Act.put, List.setIfInBounds_toArray, List.set_cons_succ, List.set_cons_zero]
        refine takeH (i := 3) (oi := _) (v := ?vk27) 62 #[true, true, true, true, false, false, false, false, false, false, false] rfl (by kernel_rfl) (by kernel_rfl) (by kernel_rfl) rfl (by kernel_rfl) (fun _ _ _ h => h) (Or.inl ⟨by rfl, ?yk27⟩) (by assumption) ?rk27
        case yk27 => (intro w' hSw; go_simp; try with_reducible rfl)
        simp only [Act.put, List.setIfInBounds_toArray, List.set_cons_succ, List.set_cons_zero]
        refine takeH (i := 4) (oi := _) (v := ?vk28) 63 #[true, true, true, true, true, false, false, false, false, false, false] rfl (by kernel_rfl) (by kernel_rfl) (by kernel_rfl) rfl (by kernel_rfl) (fun _ _ _ h => h) (Or.inl ⟨by rfl, ?yk28⟩) (by assumption) ?rk28
        case yk28 => (intro w' hSw; go_simp; try with_reducible rfl)
        simp only [Act.put, List.setIfInBounds_toArray, List.set_cons_succ, List.set_cons_zero]
        refine takeH (i := 5) (oi := _) (v := ?vk29) 64 #[true, true, true, true, true, true, false, false, false, false, false] rfl (by kernel_rfl) (by kernel_rfl) (by kernel_rfl) rfl (by kernel_rfl) (fun _ _ _ h => h) (Or.inl ⟨by rfl, ?yk29⟩) (by assumption) ?rk29
        case yk29 => (intro w' hSw; go_simp; try with_reducible rfl)
        simp only [Act.put, List.setIfInBounds_toArray, List.set_cons_succ, List.set_cons_zero]
        refine wpAnyH_ready (rs := [6]) (by kernel_rfl) (by simp) ?_
        refine AllReadyH.cons (o := _) rfl (fun K hK => ?_) AllReadyH.nil
        go_simp
        refine hK.out _ _ hHeld (fun hHeld => ?_)
        clear hK K
        simp only [List.setIfInBounds_toArray, List.set_cons_succ, List.set_cons_zero]
        refine listH (l2 := #[true, true, true, true, true, true, true, false, false, false, false]) (by kernel_rfl) ?_
        refine takeH (i := 7) (oi := _) (v := (.int .i64 (IntKind.i64.wrap (z + 1)))) 66 #[true, true, true, true, true, true, true, true, false, false, false] rfl (by kernel_rfl) (by kernel_rfl) (by kernel_rfl) rfl (by kernel_rfl) (fun _ _ _ h => h) (Or.inl ⟨by rfl, ?yk30⟩) (by assumption) ?rk30
        case yk30 => (intro w' hSw; go_simp; try with_reducible rfl)
        simp only [Act.put, List.setIfInBounds_toArray, List.set_cons_succ, List.set_cons_zero]
        refine takeH (i := 8) (oi := _) (v := ?vk31) 67 #[true, true, true, true, true, true, true, true, true, false, false] rfl (by kernel_rfl) (by kernel_rfl) (by kernel_rfl) rfl (by kernel_rfl) (fun _ _ _ h => h) (Or.inl ⟨by rfl, ?yk31⟩) (by assumption) ?rk31
        case yk31 => (intro w' hSw; go_simp; try with_reducible rfl)
        simp only [Act.put, List.setIfInBounds_toArray, List.set_cons_succ, List.set_cons_zero]
        refine takeH (i := 9) (oi := _) (v := ?vk32) 68 #[true, true, true, true, true, true, true, true, true, true, false] rfl (by kernel_rfl) (by kernel_rfl) (by kernel_rfl) rfl (by kernel_rfl) (fun _ _ _ h => h) (Or.inl ⟨by rfl, ?yk32⟩) (by assumption) ?rk32
        case yk32 => (intro w' hSw; go_simp; try with_reducible rfl)
        simp only [Act.put, List.setIfInBounds_toArray, List.set_cons_succ, List.set_cons_zero]
        refine wpAnyH_ready (rs := [10]) (by kernel_rfl) (by simp) ?_
        refine AllReadyH.cons (o := _) rfl (fun K hK => ?_) AllReadyH.nil
        go_simp
        refine hK.out _ _ ?_ (fun hHeld => ?_)
        · show (W6.setCell ⟨g, 1, none⟩ _).cell? ⟨q8, 2, none⟩ = _
          rw [World.cell?_of_block (w := W6) (Below.heap_setCell W6 ⟨g, 1, none⟩ _ q8 (by simpa using hne))]
          exact c2
        clear hK K
        try simp only [Act.put]
        refine wpAnyH_done (by kernel_rfl) ?_ _
        go_wp2_with fail
        go_meet
        obtain ⟨l', e1, e2, hN⟩ := HV.out (IntKind.i64.wrap (z + 1))
        exact ⟨x8, y8, some ⟨g, 0, none⟩, k8, a8', k8', l', drewL5b hr3 (hN.on (by omega))⟩
      · have hpos' : ¬ (0 : Int) < (l8.bases.length : Int) := by omega
        go_wp2_with fail
        go_meet
        exact ⟨x8, y8, a8, k8, a8', k8', l8, HB6.out.on (by omega)⟩
    · have e0 : ((d : Int) == 0) = false := by simp; omega
      have e1 : ((d : Int) == 1) = false := by simp; omega
      have e2 : ((d : Int) == 2) = false := by simp; omega
      have e3 : ((d : Int) == 3) = false := by simp; omega
      go_wp2_with fail
      go_meet
      exact ⟨x8, y8, a8, k8, a8', k8', l8, HB6.out.on (by omega)⟩
  obtain ⟨x9, y9, a9, k9, a9', k9', l9, h9⟩ := hcut
  have h9d := drewL5b hr3 h9
  have HFd : Hid (Fin5 w wc.drew rb (p + 223) b c os vs a9 k9 a9' k9' l9) := h9d.fin HL3.out
  have h5d := HL3.out.next h9d.but h9d.rd
  have R2 := h5d.r2
  have R3 := h5d.r3
  have s4 := h5d.r4.cell (i := 0) (by omega)
  have bx := h9d.box
  have hq8 := h9d.lo
  have hq2 := HL3.out.r2.lt
  have hq3 := HL3.out.r3.lt
  have HX : Hid (x9 = l9.who ∧ y9 = l9.seq ∧ l9.bases.length ≤ 40 ∧ ∀ o ∈ l9.list, OpSz o) := ⟨h9.who, h9.seq, h9.few, h9.sz⟩
  clear h9 h9d h5d HB6
  go_upto_region 15 with fail
  refine wp_region_held_drew (S := (fun W => W.cell? ⟨q4, 0, none⟩ = some (.slice (some ⟨b, 0, none⟩) 32 c) ∧ LogBox W q8 x9 y9 a9 l9.bases.length k9 a9' l9.list.length k9')) (by kernel_rfl) ?_ (fun hHeld => ?_)
  · exact ⟨s4, bx⟩
  refine listH (l2 := #[false, false, false, false]) (by kernel_rfl) ?_
  refine takeH (i := 0) (oi := _) (v := ?vk33) 69 #[true, false, false, false] rfl (by kernel_rfl) (by kernel_rfl) (by kernel_rfl) rfl (by kernel_rfl) (fun _ _ _ h => h) (Or.inl ⟨by rfl, ?yk33⟩) (by assumption) ?rk33
  case yk33 => (intro w' hSw; obtain ⟨u1, _⟩ := hSw; go_simp; try with_reducible rfl)
  simp only [Act.put, List.setIfInBounds_toArray, List.set_cons_succ, List.set_cons_zero]
  refine takeH (i := 1) (oi := _) (v := ?vk34) 70 #[true, true, false, false] rfl (by kernel_rfl) (by kernel_rfl) (by kernel_rfl) rfl (by kernel_rfl) (fun _ _ _ h => h) (Or.inl ⟨by rfl, ?yk34⟩) (by assumption) ?rk34
  case yk34 => (intro w' hSw; obtain ⟨_, v0, v1, v2, v3⟩ := hSw; go_simp; try with_reducible rfl)
  simp only [Act.put, List.setIfInBounds_toArray, List.set_cons_succ, List.set_cons_zero]
  refine wpAnyH_ready (rs := [2]) (by kernel_rfl) (by simp) ?_
  refine AllReadyH.cons (o := _) rfl (fun K hK => ?_) AllReadyH.nil
  refine st_store53 _ 2 69 w.heap.size (.slice (some ⟨b, 0, none⟩) 32 c) _ rfl (some ⟨b, 0, none⟩) 32 c rfl rfl R2 ?_
  intro F1 hb1 hE_ hc1
  clear hE_
  have HF1 := HFd.out.step hb1 (by omega) R2 (.inl rfl)
  have R3 := R3.of_block (hb1.block _ (by omega) R3.lt)
  refine hK.out _ _ (⟨by rw [hb1.cell (by simp; omega) (cell_lt hHeld.1)]; exact hHeld.1, hHeld.2.of (hb1.block q8 (by omega) (by have := hHeld.2; exact cell_lt this.c0))⟩) (fun hHeld => ?_)
  clear hK K
  refine listH (l2 := #[true, true, true, false]) (by kernel_rfl) ?_
  refine wpAnyH_ready (rs := [3]) (by kernel_rfl) (by simp) ?_
  refine AllReadyH.cons (o := _) rfl (fun K hK => ?_) AllReadyH.nil
  refine st_store29 _ 3 70 (w.heap.size + 1) x9 y9 a9 l9.bases.length k9 a9' l9.list.length k9' _ rfl rfl R3 (LogCells.zero R3) ?_
  intro F2 hb2 hbox _ _
  have HF2 := HF1.step hb2 (by omega) R3 (.inr rfl)
  have hlt2 := cell_lt hc1
  have hc1 : F2.cell? ⟨w.heap.size, 0, none⟩ = some (.slice (some ⟨b, 0, none⟩) 32 c) := by rw [hb2.cell (by simp) (by simpa using hlt2)]; exact hc1
  refine hK.out _ _ (⟨by rw [hb2.cell (by simp; omega) (cell_lt hHeld.1)]; exact hHeld.1, hHeld.2.of (hb2.block q8 (by omega) (by have := hHeld.2; exact cell_lt this.c0))⟩) (fun hHeld => ?_)
  clear hK K
  refine listH (l2 := #[true, true, true, true]) (by kernel_rfl) ?_
  refine wpAnyH_done (by kernel_rfl) ?_ _
  go_wp2_with fail
  refine bodyPost_ret (v := .tuple #[.agg #[.slice (some ⟨b, 0, none⟩) 32 c], .agg #[.int .i64 x9, .int .i64 y9, .slice a9 l9.bases.length k9, .slice a9' l9.list.length k9']]) (by simp [results, Tryz.results100, go_sem, hc1, hbox.c0, hbox.c1, hbox.c2, hbox.c3]) rfl ?_
  exact ⟨b, c, os, vs, x9, y9, a9, _, k9, a9', _, k9', l9, rfl, HF2.tree, HL3.out.len, HL3.out.sm, ⟨HX.out.1, HX.out.2.1, HF2.bases.at3 (by have := HX.out.2.2.1; omega), HF2.list.at2 HX.out.2.2.2⟩, ⟨HX.out.2.2.1, HF2.list.capM3.1, HF2.list.capM3.2⟩, RdTo.on HF2.rd (by omega), HF2.but⟩
end Go.Proofs.YtnolbfijcnldjaaGreatDoor

/- Logs as the laws draw them. -/
namespace Go.Proofs.YtnolbfijcnldjaaGreatDoor
open Go.RowKit

theorem LogAt.blocks {w w' : World} {L U : Nat} {q s : Int} {a a' : Option Addr} {n n' : Nat} {l : LLog} (h : LogAt w L U q s a n a' n' l) (hb : ∀ b, L ≤ b → b < U → w'.heap[b]? = w.heap[b]?) : LogAt w' L U q s a n a' n' l := ⟨h.q, h.s, h.b.blocks hb, h.o.blocks hb⟩
end Go.Proofs.YtnolbfijcnldjaaGreatDoor
