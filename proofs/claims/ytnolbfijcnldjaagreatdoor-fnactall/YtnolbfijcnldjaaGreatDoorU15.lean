/- Lemmas that the proofs of this seat share: DrawRun, Path, Facts2. -/
import Derived.Test.YtnolbfijcnldjaaGreatDoorU14
import Derived.Test.YtnolbfijcnldjaaGreatDoorU13
import Derived.Deep.RegionHeld
import Derived.Test.YtnolbfijcnldjaaGreatDoorU08
/- A run as it is drawn (l3Run, DrawActAll): a tree, and what is to be done. -/
namespace Go.Proofs.YtnolbfijcnldjaaGreatDoor
open Go.RowKit

theorem Hid.mk__ {p : Prop} (h : p) : Hid p := h
theorem RdTo.up_ {V : World} {rb P P' : Nat} (h : RdTo V rb P) (hP : P ≤ P') : RdTo V rb P' := by
  obtain ⟨p, hp, R⟩ := h
  exact ⟨p, by omega, R⟩
theorem OwnOps.but_ {W W' : World} {B rb : Nat} {v : Value} {l : List LOp} (h : OwnOps W B v l) (hb : But rb W W') (hr : rb < B) : OwnOps W' B v l := World.ownsRow.kept h hb.grown (.inr fun e => by have := (h.lt rb e).1; omega)
theorem OwnOps.at3 {w : World} {B : Nat} {a : Option Addr} {n c : Nat} {l : List LOp} (h : OwnOps w B (.slice a n c) l) (hz : ∀ o ∈ l, OpSz o) : OpsAt w B w.heap.size a n l := by
  obtain ⟨a1, c1, e, h1⟩ := h.at_ hz
  simp only [Value.slice.injEq] at e
  obtain ⟨rfl, rfl, _⟩ := e
  exact h1
theorem OpsAt.wide_ {w : World} {L U L' U' : Nat} {a : Option Addr} {n : Nat} {l : List LOp} (h : OpsAt w L U a n l) (hL : L' ≤ L) (hU : U ≤ U') : OpsAt w L' U' a n l :=
  ⟨h.len, h.bd, fun hn => by obtain ⟨b, off, h1, h2, h3, h4⟩ := h.at_ hn; exact ⟨b, off, h1, Nat.le_trans hL h2, Nat.lt_of_lt_of_le h3 hU, h4⟩⟩
theorem opB_sz {o : LOp} (h : OpB o) : OpSz o := ⟨Nat.le_trans h.1 (by simp [maxLen]), Nat.le_trans h.2.1 (by simp [maxLen]), Nat.le_trans h.2.2 (by simp [maxLen])⟩
/-- A tree and a list, as they were drawn. -/
def RunEnd (w : World) (rb P : Nat) (e : Ending) (w' : World) : Prop :=
  ∃ b n c os la lc ops, e = .returned (.tuple #[.agg #[.slice (some ⟨b, 0, none⟩) n c], .slice la ops.length lc]) ∧ ObjsAt w' w.heap.size w'.heap.size (some ⟨b, 0, none⟩) n os ∧ n ≤ 32 ∧ Bn os ∧ OpsAt w' w.heap.size w'.heap.size la ops.length ops ∧ ops.length ≤ 1000 ∧ ops.length ≤ lc ∧ ((la = none ∧ lc = 0) ∨ ∃ g, la = some ⟨g, 0, none⟩) ∧ (∀ o ∈ ops, OpSz o) ∧ RdTo w' rb P ∧ But rb w w'
theorem OwnOps.lay {w : World} {B : Nat} {a : Option Addr} {n c : Nat} {l : List LOp} (h : OwnOps w B (.slice a n c) l) : (a = none ∧ c = 0) ∨ ∃ g, a = some ⟨g, 0, none⟩ := by
  rcases h.2 with ⟨e, h0⟩ | ⟨g, cap, cur, e, hb, hg, hnc, _⟩
  · simp only [Value.slice.injEq] at e
    exact .inl ⟨e.1, e.2.2⟩
  · simp only [Value.slice.injEq] at e
    exact .inr ⟨g, e.1⟩
theorem OwnOps.cap_ {w : World} {B : Nat} {a : Option Addr} {n c : Nat} {l : List LOp} (h : OwnOps w B (.slice a n c) l) : n = l.length ∧ n ≤ c := by
  rcases h.2 with ⟨e, h0⟩ | ⟨g, cap, cur, e, hb, hg, hnc, _⟩
  · simp only [Value.slice.injEq] at e
    obtain ⟨-, rfl, rfl⟩ := e
    exact ⟨h0.symm, Nat.le_refl _⟩
  · simp only [Value.slice.injEq] at e
    obtain ⟨-, rfl, rfl⟩ := e
    exact ⟨rfl, hnc⟩

set_option maxHeartbeats 8000000 in
set_option maxRecDepth 20000 in
theorem run_any (rb p : Nat) (w : World) (hp : p ≤ 800000) (hrw : rb < w.heap.size) (R : RdTo w rb p) :
    Calls Tryz.prog 82 #[.pointer (some ⟨rb, 0, none⟩)] w fun e w' => RunEnd w rb (p + 600) e w' := by
  have hA : Below w.heap.size w (w.alloc (Obj.cells #[.slice none 0 0] 25)) := (Below.refl _ _).alloc (Nat.le_refl _) _
  go_enter Tryz.func82, Tryz.ntmps82
  go_wp2_with fail
  refine (tree_any rb p _ (by omega) (by simp; omega) (R.but hA hrw)).mono ?_
  rintro e W1 ⟨b, c, os, vs, rfl, hT, hl, hs, hr, hb⟩
  have hz1 : w.heap.size + 1 ≤ W1.heap.size := by have := hb.below.size; simp at this; omega
  have r2 : W1.rowIs w.heap.size 25 1 (fun _ => .slice none 0 0) := (row1 w _ 25).of_block (hb.block _ (by omega) (by simp))
  have hBw : But rb w W1 := (But.of_below hrw hA).trans hb
  have hT' : OwnT W1 w.heap.size b c os vs := hT.base (by simp)
  clear hb hA R hT
  have hal : Below W1.heap.size W1 (W1.alloc (Obj.cells #[.slice (some ⟨b, 0, none⟩) 32 c] 25)) := (Below.refl _ _).alloc (Nat.le_refl _) _
  have HL2 : Hid (RN w (W1.alloc (Obj.cells #[.slice (some ⟨b, 0, none⟩) 32 c] 25)) rb (p + 150) w.heap.size W1.heap.size b c os vs) :=
    ⟨hrw, hBw.next (by omega) hal, hr.but hal (by omega), r2.of_block (hal.block _ (by omega)), row1 W1 _ 25, Nat.le_refl _, by omega, by omega, hT'.below hal, hl, hs⟩
  clear r2 hBw hT' hl hs hr hal
  go_wp2_with fail
  generalize W1.alloc (Obj.cells #[.slice (some ⟨b, 0, none⟩) 32 c] 25) = W2 at *
  generalize W1.heap.size = q4 at *
  have s4 : W2.cell? ⟨q4, 0, none⟩ = some (.slice (some ⟨b, 0, none⟩) 32 c) := HL2.out.r4.cell (by omega)
  have hq4l := HL2.out.r4.lt
  have hq4w := HL2.out.l4
  have hsz := HL2.out.size
  have hBW : Hid (w.heap.size ≤ W2.heap.size) := Nat.le_of_lt hsz
  have hBt : But rb W2 W2.drew := But.of_below (by omega) (Below.refl _ _).drew
  have hRd : RdTo W2.drew rb (p + 150) := HL2.out.rd.but (Below.refl _ _).drew (by omega)
  go_upto_region 2 with fail
  go_cut [6] (fun s6 wx => ∃ l3 ops3, s6 = l3 ∧ But rb W2 wx ∧ RdTo wx rb (p + 350) ∧ OwnOps wx W2.heap.size l3 ops3 ∧ ops3.length ≤ 1000 ∧ ∀ o ∈ ops3, DoneOp o)
  case first =>
    refine wp_region_held_drew (S := (fun W => W.cell? ⟨q4, 0, none⟩ = some (.slice (some ⟨b, 0, none⟩) 32 c))) (by kernel_rfl) ?_ (fun hHeld => ?_)
    · exact s4
    refine listH (l2 := #[false, false, false, false, false, false, false, false, false, false, false, false]) (by kernel_rfl) ?_
    refine takeH (i := 0) (oi := _) (v := ?vk1) 10 #[true, false, false, false, false, false, false, false, false, false, false, false] rfl (by kernel_rfl) (by kernel_rfl) (by kernel_rfl) rfl (by kernel_rfl) (fun _ _ _ h => h) (Or.inl ⟨by rfl, ?yk1⟩) (by assumption) ?rk1
    case yk1 => (intro w' hSw; go_simp; try with_reducible rfl)
    simp only [Act.put, List.setIfInBounds_toArray, List.set_cons_succ, List.set_cons_zero]
    refine takeH (i := 1) (oi := _) (v := ?vk2) 11 #[true, true, false, false, false, false, false, false, false, false, false, false] rfl (by kernel_rfl) (by kernel_rfl) (by kernel_rfl) rfl (by kernel_rfl) (fun _ _ _ h => h) (Or.inl ⟨by rfl, ?yk2⟩) (by assumption) ?rk2
    case yk2 => (intro w' hSw; go_simp; try with_reducible rfl)
    simp only [Act.put, List.setIfInBounds_toArray, List.set_cons_succ, List.set_cons_zero]
    refine takeH (i := 2) (oi := _) (v := ?vk3) 12 #[true, true, true, false, false, false, false, false, false, false, false, false] rfl (by kernel_rfl) (by kernel_rfl) (by kernel_rfl) rfl (by kernel_rfl) (fun _ _ _ h => h) (Or.inl ⟨by rfl, ?yk3⟩) (by assumption) ?rk3
    case yk3 => (intro w' hSw; go_simp; try with_reducible rfl)
    simp only [Act.put, List.setIfInBounds_toArray, List.set_cons_succ, List.set_cons_zero]
    refine wpAnyH_ready (rs := [3, 9]) (by kernel_rfl) (by simp) ?_
    refine AllReadyH.cons (o := _) rfl (fun K hK => ?_) (AllReadyH.cons (o := _) rfl (fun K hK => ?_) AllReadyH.nil)
    · refine st_build4 _ 13 0 5 12 20 ?_
      intro q13 V1 hq13 hb1 hL13
      have hq13l : q13 < V1.heap.size := by obtain ⟨k, hk, _⟩ := hL13 0 (by omega); exact cell_lt hk
      have hq13r : q13 ≠ rb := by have := hBt.below.size; omega
      have hRd := hRd.but hb1 (by have := hBt.below.size; omega)
      have hBt := hBt.next (by have := hBt.below.size; omega) hb1
      clear hq13 hb1
      refine hK.out _ _ (by rw [hBt.cell (by simp; omega) (by simp; omega)]; exact s4) (fun hHeld => ?_)
      clear hK K
      try simp only [Act.put]
      refine listH (l2 := #[true, true, true, true, false, false, false, false, false, false, false, false]) (by kernel_rfl) ?_
      refine wpAnyH_ready (rs := [4, 9]) (by kernel_rfl) (by simp) ?_
      refine AllReadyH.cons (o := _) rfl (fun K hK => ?_) (AllReadyH.cons (o := _) rfl (fun K hK => ?_) AllReadyH.nil)
      · go_simp
        refine (num_to (fun z => 0 ≤ z ∧ z ≤ 20) rb (p + 150) q13 4 4 _ (by omega) (by omega) (by omega) hq13r hRd (fun i hi => by obtain ⟨k, hk, hv⟩ := hL13 i hi; exact ⟨k, hk, by omega, by omega⟩)).mono ?_
        rintro e V3 ⟨⟨z, rfl, hz⟩, hRd, hb3⟩
        obtain ⟨n, rfl⟩ : ∃ n : Nat, z = n := ⟨z.toNat, by omega⟩
        have hBt := hBt.trans hb3
        clear hb3 hL13
        go_wp2_with fail
        refine hK.out _ _ (by rw [hBt.cell (by simp; omega) (by simp; omega)]; exact s4) (fun hHeld => ?_)
        clear hK K
        try simp only [Act.put]
        refine listH (l2 := #[true, true, true, true, true, false, false, false, false, false, false, false]) (by kernel_rfl) ?_
        refine wpAnyH_ready (rs := [5, 9]) (by kernel_rfl) (by simp) ?_
        refine AllReadyH.cons (o := _) rfl (fun K hK => ?_) (AllReadyH.cons (o := _) rfl (fun K hK => ?_) AllReadyH.nil)
        · go_simp
          have HN := HL2.out.next hBt hRd
          refine (grow_any rb (p + 151) w.heap.size b c n 60 os vs 1 _ (by omega) (by omega) hrw (by have := HN.size; omega) (by omega) HN.len HN.sm HN.tree HN.rd).mono ?_
          clear HN
          rintro e V5 ⟨b2, c2, os2, vs2, l2, ops2, rfl, hT2, hl2, hs2, ho2, hd2, hRd, hb5⟩
          have hsB : W2.heap.size ≤ _ := hBt.below.size
          have ho2 := ho2.base hsB
          have hBt := hBt.trans hb5
          clear hb5 hsB
          go_wp2_with fail
          refine hK.out _ _ (by rw [hBt.cell (by simp; omega) (by simp; omega)]; exact s4) (fun hHeld => ?_)
          clear hK K
          try simp only [Act.put]
          refine listH (l2 := #[true, true, true, true, true, true, false, false, false, false, false, false]) (by kernel_rfl) ?_
          refine takeH (i := 6) (oi := _) (v := ?vk4) 9 #[true, true, true, true, true, true, true, false, false, false, false, false] rfl (by kernel_rfl) (by kernel_rfl) (by kernel_rfl) rfl (by kernel_rfl) (fun _ _ _ h => h) (Or.inl ⟨by rfl, ?yk4⟩) (by assumption) ?rk4
          case yk4 => (intro w' hSw; go_simp; try with_reducible rfl)
          simp only [Act.put, List.setIfInBounds_toArray, List.set_cons_succ, List.set_cons_zero]
          refine takeH (i := 7) (oi := _) (v := ?vk5) 16 #[true, true, true, true, true, true, true, true, false, false, false, false] rfl (by kernel_rfl) (by kernel_rfl) (by kernel_rfl) rfl (by kernel_rfl) (fun _ _ _ h => h) (Or.inl ⟨by rfl, ?yk5⟩) (by assumption) ?rk5
          case yk5 => (intro w' hSw; go_simp; try with_reducible rfl)
          simp only [Act.put, List.setIfInBounds_toArray, List.set_cons_succ, List.set_cons_zero]
          refine takeH (i := 8) (oi := _) (v := ?vk6) 17 #[true, true, true, true, true, true, true, true, true, false, false, false] rfl (by kernel_rfl) (by kernel_rfl) (by kernel_rfl) rfl (by kernel_rfl) (fun _ _ _ h => h) (Or.inl ⟨by rfl, ?yk6⟩) (by assumption) ?rk6
          case yk6 => (intro w' hSw; go_simp; try with_reducible rfl)
          simp only [Act.put, List.setIfInBounds_toArray, List.set_cons_succ, List.set_cons_zero]
          refine wpAnyH_ready (rs := [9]) (by kernel_rfl) (by simp) ?_
          refine AllReadyH.cons (o := _) rfl (fun K hK => ?_) AllReadyH.nil
          refine st_alloc53 _ 5 ?_
          intro q5 V9 hq5 hb9 R5
          have lo5 : W2.heap.size ≤ q5 := by have := hBt.below.size; rw [hq5]; exact this
          have hBt := hBt.next (by have := hBt.below.size; omega) hb9
          have hRd := hRd.but hb9 (by have := hBt.below.size; have := hb9.size; omega)
          have hT2 := hT2.below hb9
          have ho2 := ho2.next hb9
          clear hq5 hb9
          refine hK.out _ _ (by rw [hBt.cell (by simp; omega) (by simp; omega)]; exact s4) (fun hHeld => ?_)
          clear hK K
          simp only [Act.put, List.setIfInBounds_toArray, List.set_cons_succ, List.set_cons_zero]
          refine listH (l2 := #[true, true, true, true, true, true, true, true, true, true, false, false]) (by kernel_rfl) ?_
          refine wpAnyH_ready (rs := [10]) (by kernel_rfl) (by simp) ?_
          refine AllReadyH.cons (o := _) rfl (fun K hK => ?_) AllReadyH.nil
          refine st_store53 _ 5 16 q5 (.slice (some ⟨b2, 0, none⟩) 32 c2) _ rfl (some ⟨b2, 0, none⟩) 32 c2 rfl rfl R5 ?_
          intro F _ hF hc5
          subst hF
          have hBt := hBt.setNew lo5 (by omega) (.slice (some ⟨b2, 0, none⟩) 32 c2)
          have hRd := hRd.set (q := q5) (by omega) (.slice (some ⟨b2, 0, none⟩) 32 c2)
          have ho2 := ho2.setBox R5 (.slice (some ⟨b2, 0, none⟩) 32 c2)
          refine hK.out _ _ (by rw [hBt.cell (by simp; omega) (by simp; omega)]; exact s4) (fun hHeld => ?_)
          clear hK K
          refine listH (l2 := #[true, true, true, true, true, true, true, true, true, true, true, false]) (by kernel_rfl) ?_
          refine wpAnyH_ready (rs := [11]) (by kernel_rfl) (by simp) ?_
          refine AllReadyH.cons (o := _) rfl (fun K hK => ?_) AllReadyH.nil
          go_simp
          refine hK.out _ _ hHeld (fun hHeld => ?_)
          clear hK K
          try simp only [Act.put]
          refine wpAnyH_done (by kernel_rfl) ?_ _
          go_wp2_with fail
          go_meet
          exact ⟨_, ops2, rfl, hBt, hRd.up_ (by omega), ho2, hd2.1, hd2.2⟩
        · refine st_alloc53 _ 5 ?_
          intro q5 V9 hq5 hb9 R5
          have lo5 : W2.heap.size ≤ q5 := by have := hBt.below.size; rw [hq5]; exact this
          have hBt := hBt.next (by have := hBt.below.size; omega) hb9
          have hRd := hRd.but hb9 (by have := hBt.below.size; have := hb9.size; omega)
          clear hq5 hb9
          refine hK.out _ _ (by rw [hBt.cell (by simp; omega) (by simp; omega)]; exact s4) (fun hHeld => ?_)
          clear hK K
          simp only [Act.put, List.setIfInBounds_toArray, List.set_cons_succ, List.set_cons_zero]
          refine listH (l2 := #[true, true, true, true, true, false, false, false, false, true, false, false]) (by kernel_rfl) ?_
          refine wpAnyH_ready (rs := [5]) (by kernel_rfl) (by simp) ?_
          refine AllReadyH.cons (o := _) rfl (fun K hK => ?_) AllReadyH.nil
          go_simp
          have HN := HL2.out.next hBt hRd
          refine (grow_any rb (p + 151) w.heap.size b c n 60 os vs 1 _ (by omega) (by omega) hrw (by have := HN.size; omega) (by omega) HN.len HN.sm HN.tree HN.rd).mono ?_
          clear HN
          rintro e V5 ⟨b2, c2, os2, vs2, l2, ops2, rfl, hT2, hl2, hs2, ho2, hd2, hRd, hb5⟩
          have hsB : W2.heap.size ≤ _ := hBt.below.size
          have ho2 := ho2.base hsB
          have hBt := hBt.trans hb5
          have R5 := R5.of_block (hb5.block q5 (by omega) R5.lt)
          clear hb5 hsB
          go_wp2_with fail
          refine hK.out _ _ (by rw [hBt.cell (by simp; omega) (by simp; omega)]; exact s4) (fun hHeld => ?_)
          clear hK K
          try simp only [Act.put]
          refine listH (l2 := #[true, true, true, true, true, true, false, false, false, true, false, false]) (by kernel_rfl) ?_
          refine takeH (i := 6) (oi := _) (v := ?vk7) 9 #[true, true, true, true, true, true, true, false, false, true, false, false] rfl (by kernel_rfl) (by kernel_rfl) (by kernel_rfl) rfl (by kernel_rfl) (fun _ _ _ h => h) (Or.inl ⟨by rfl, ?yk7⟩) (by assumption) ?rk7
          case yk7 => (intro w' hSw; go_simp; try with_reducible rfl)
          simp only [Act.put, List.setIfInBounds_toArray, List.set_cons_succ, List.set_cons_zero]
          refine takeH (i := 7) (oi := _) (v := ?vk8) 16 #[true, true, true, true, true, true, true, true, false, true, false, false] rfl (by kernel_rfl) (by kernel_rfl) (by kernel_rfl) rfl (by kernel_rfl) (fun _ _ _ h => h) (Or.inl ⟨by rfl, ?yk8⟩) (by assumption) ?rk8
          case yk8 => (intro w' hSw; go_simp; try with_reducible rfl)
          simp only [Act.put, List.setIfInBounds_toArray, List.set_cons_succ, List.set_cons_zero]
          refine takeH (i := 8) (oi := _) (v := ?vk9) 17 #[true, true, true, true, true, true, true, true, true, true, false, false] rfl (by kernel_rfl) (by kernel_rfl) (by kernel_rfl) rfl (by kernel_rfl) (fun _ _ _ h => h) (Or.inl ⟨by rfl, ?yk9⟩) (by assumption) ?rk9
          case yk9 => (intro w' hSw; go_simp; try with_reducible rfl)
          simp only [Act.put, List.setIfInBounds_toArray, List.set_cons_succ, List.set_cons_zero]
          refine wpAnyH_ready (rs := [10]) (by kernel_rfl) (by simp) ?_
          refine AllReadyH.cons (o := _) rfl (fun K hK => ?_) AllReadyH.nil
          refine st_store53 _ 5 16 q5 (.slice (some ⟨b2, 0, none⟩) 32 c2) _ rfl (some ⟨b2, 0, none⟩) 32 c2 rfl rfl R5 ?_
          intro F _ hF hc5
          subst hF
          have hBt := hBt.setNew lo5 (by omega) (.slice (some ⟨b2, 0, none⟩) 32 c2)
          have hRd := hRd.set (q := q5) (by omega) (.slice (some ⟨b2, 0, none⟩) 32 c2)
          have ho2 := ho2.setBox R5 (.slice (some ⟨b2, 0, none⟩) 32 c2)
          refine hK.out _ _ (by rw [hBt.cell (by simp; omega) (by simp; omega)]; exact s4) (fun hHeld => ?_)
          clear hK K
          refine listH (l2 := #[true, true, true, true, true, true, true, true, true, true, true, false]) (by kernel_rfl) ?_
          refine wpAnyH_ready (rs := [11]) (by kernel_rfl) (by simp) ?_
          refine AllReadyH.cons (o := _) rfl (fun K hK => ?_) AllReadyH.nil
          go_simp
          refine hK.out _ _ hHeld (fun hHeld => ?_)
          clear hK K
          try simp only [Act.put]
          refine wpAnyH_done (by kernel_rfl) ?_ _
          go_wp2_with fail
          go_meet
          exact ⟨_, ops2, rfl, hBt, hRd.up_ (by omega), ho2, hd2.1, hd2.2⟩
      · refine st_alloc53 _ 5 ?_
        intro q5 V9 hq5 hb9 R5
        have lo5 : W2.heap.size ≤ q5 := by have := hBt.below.size; rw [hq5]; exact this
        have hBt := hBt.next (by have := hBt.below.size; omega) hb9
        have hRd := hRd.but hb9 (by have := hBt.below.size; have := hb9.size; omega)
        have hL13 : ∀ i, i < 4 → ∃ k : Int, V9.cell? ⟨q13, i, none⟩ = some (.int .i64 k) ∧ (k = 0 ∨ k = 5 ∨ k = 12 ∨ k = 20) := fun i hi => by obtain ⟨k, hk, hv⟩ := hL13 i hi; exact ⟨k, by rw [hb9.cell (by simpa using hq13l)]; exact hk, hv⟩
        clear hq5 hb9
        refine hK.out _ _ (by rw [hBt.cell (by simp; omega) (by simp; omega)]; exact s4) (fun hHeld => ?_)
        clear hK K
        simp only [Act.put, List.setIfInBounds_toArray, List.set_cons_succ, List.set_cons_zero]
        refine listH (l2 := #[true, true, true, true, false, false, false, false, false, true, false, false]) (by kernel_rfl) ?_
        refine wpAnyH_ready (rs := [4]) (by kernel_rfl) (by simp) ?_
        refine AllReadyH.cons (o := _) rfl (fun K hK => ?_) AllReadyH.nil
        go_simp
        refine (num_to (fun z => 0 ≤ z ∧ z ≤ 20) rb (p + 150) q13 4 4 _ (by omega) (by omega) (by omega) hq13r hRd (fun i hi => by obtain ⟨k, hk, hv⟩ := hL13 i hi; exact ⟨k, hk, by omega, by omega⟩)).mono ?_
        rintro e V3 ⟨⟨z, rfl, hz⟩, hRd, hb3⟩
        obtain ⟨n, rfl⟩ : ∃ n : Nat, z = n := ⟨z.toNat, by omega⟩
        have hBt := hBt.trans hb3
        have R5 := R5.of_block (hb3.block q5 (by omega) R5.lt)
        clear hb3 hL13
        go_wp2_with fail
        refine hK.out _ _ (by rw [hBt.cell (by simp; omega) (by simp; omega)]; exact s4) (fun hHeld => ?_)
        clear hK K
        try simp only [Act.put]
        refine listH (l2 := #[true, true, true, true, true, false, false, false, false, true, false, false]) (by kernel_rfl) ?_
        refine wpAnyH_ready (rs := [5]) (by kernel_rfl) (by simp) ?_
        refine AllReadyH.cons (o := _) rfl (fun K hK => ?_) AllReadyH.nil
        go_simp
        have HN := HL2.out.next hBt hRd
        refine (grow_any rb (p + 151) w.heap.size b c n 60 os vs 1 _ (by omega) (by omega) hrw (by have := HN.size; omega) (by omega) HN.len HN.sm HN.tree HN.rd).mono ?_
        clear HN
        rintro e V5 ⟨b2, c2, os2, vs2, l2, ops2, rfl, hT2, hl2, hs2, ho2, hd2, hRd, hb5⟩
        have hsB : W2.heap.size ≤ _ := hBt.below.size
        have ho2 := ho2.base hsB
        have hBt := hBt.trans hb5
        have R5 := R5.of_block (hb5.block q5 (by omega) R5.lt)
        clear hb5 hsB
        go_wp2_with fail
        refine hK.out _ _ (by rw [hBt.cell (by simp; omega) (by simp; omega)]; exact s4) (fun hHeld => ?_)
        clear hK K
        try simp only [Act.put]
        refine listH (l2 := #[true, true, true, true, true, true, false, false, false, true, false, false]) (by kernel_rfl) ?_
        refine takeH (i := 6) (oi := _) (v := ?vk10) 9 #[true, true, true, true, true, true, true, false, false, true, false, false] rfl (by kernel_rfl) (by kernel_rfl) (by kernel_rfl) rfl (by kernel_rfl) (fun _ _ _ h => h) (Or.inl ⟨by rfl, ?yk10⟩) (by assumption) ?rk10
        case yk10 => (intro w' hSw; go_simp; try with_reducible rfl)
        simp only [Act.put, List.setIfInBounds_toArray, List.set_cons_succ, List.set_cons_zero]
        refine takeH (i := 7) (oi := _) (v := ?vk11) 16 #[true, true, true, true, true, true, true, true, false, true, false, false] rfl (by kernel_rfl) (by kernel_rfl) (by kernel_rfl) rfl (by kernel_rfl) (fun _ _ _ h => h) (Or.inl ⟨by rfl, ?yk11⟩) (by assumption) ?rk11
        case yk11 => (intro w' hSw; go_simp; try with_reducible rfl)
        simp only [Act.put, List.setIfInBounds_toArray, List.set_cons_succ, List.set_cons_zero]
        refine takeH (i := 8) (oi := _) (v := ?vk12) 17 #[true, true, true, true, true, true, true, true, true, true, false, false] rfl (by kernel_rfl) (by kernel_rfl) (by kernel_rfl) rfl (by kernel_rfl) (fun _ _ _ h => h) (Or.inl ⟨by rfl, ?yk12⟩) (by assumption) ?rk12
        case yk12 => (intro w' hSw; go_simp; try with_reducible rfl)
        simp only [Act.put, List.setIfInBounds_toArray, List.set_cons_succ, List.set_cons_zero]
        refine wpAnyH_ready (rs := [10]) (by kernel_rfl) (by simp) ?_
        refine AllReadyH.cons (o := _) rfl (fun K hK => ?_) AllReadyH.nil
        refine st_store53 _ 5 16 q5 (.slice (some ⟨b2, 0, none⟩) 32 c2) _ rfl (some ⟨b2, 0, none⟩) 32 c2 rfl rfl R5 ?_
        intro F _ hF hc5
        subst hF
        have hBt := hBt.setNew lo5 (by omega) (.slice (some ⟨b2, 0, none⟩) 32 c2)
        have hRd := hRd.set (q := q5) (by omega) (.slice (some ⟨b2, 0, none⟩) 32 c2)
        have ho2 := ho2.setBox R5 (.slice (some ⟨b2, 0, none⟩) 32 c2)
        refine hK.out _ _ (by rw [hBt.cell (by simp; omega) (by simp; omega)]; exact s4) (fun hHeld => ?_)
        clear hK K
        refine listH (l2 := #[true, true, true, true, true, true, true, true, true, true, true, false]) (by kernel_rfl) ?_
        refine wpAnyH_ready (rs := [11]) (by kernel_rfl) (by simp) ?_
        refine AllReadyH.cons (o := _) rfl (fun K hK => ?_) AllReadyH.nil
        go_simp
        refine hK.out _ _ hHeld (fun hHeld => ?_)
        clear hK K
        try simp only [Act.put]
        refine wpAnyH_done (by kernel_rfl) ?_ _
        go_wp2_with fail
        go_meet
        exact ⟨_, ops2, rfl, hBt, hRd.up_ (by omega), ho2, hd2.1, hd2.2⟩
    · refine st_alloc53 _ 5 ?_
      intro q5 V9 hq5 hb9 R5
      have lo5 : W2.heap.size ≤ q5 := by have := hBt.below.size; rw [hq5]; exact this
      have hBt := hBt.next (by have := hBt.below.size; omega) hb9
      have hRd := hRd.but hb9 (by have := hBt.below.size; have := hb9.size; omega)
      clear hq5 hb9
      refine hK.out _ _ (by rw [hBt.cell (by simp; omega) (by simp; omega)]; exact s4) (fun hHeld => ?_)
      clear hK K
      simp only [Act.put, List.setIfInBounds_toArray, List.set_cons_succ, List.set_cons_zero]
      refine listH (l2 := #[true, true, true, false, false, false, false, false, false, true, false, false]) (by kernel_rfl) ?_
      refine wpAnyH_ready (rs := [3]) (by kernel_rfl) (by simp) ?_
      refine AllReadyH.cons (o := _) rfl (fun K hK => ?_) AllReadyH.nil
      refine st_build4 _ 13 0 5 12 20 ?_
      intro q13 V1 hq13 hb1 hL13
      have hq13l : q13 < V1.heap.size := by obtain ⟨k, hk, _⟩ := hL13 0 (by omega); exact cell_lt hk
      have hq13r : q13 ≠ rb := by have := hBt.below.size; omega
      have hRd := hRd.but hb1 (by have := hBt.below.size; omega)
      have hBt := hBt.next (by have := hBt.below.size; omega) hb1
      have R5 := R5.of_block (hb1.block q5 R5.lt)
      clear hq13 hb1
      refine hK.out _ _ (by rw [hBt.cell (by simp; omega) (by simp; omega)]; exact s4) (fun hHeld => ?_)
      clear hK K
      try simp only [Act.put]
      refine listH (l2 := #[true, true, true, true, false, false, false, false, false, true, false, false]) (by kernel_rfl) ?_
      refine wpAnyH_ready (rs := [4]) (by kernel_rfl) (by simp) ?_
      refine AllReadyH.cons (o := _) rfl (fun K hK => ?_) AllReadyH.nil
      go_simp
      refine (num_to (fun z => 0 ≤ z ∧ z ≤ 20) rb (p + 150) q13 4 4 _ (by omega) (by omega) (by omega) hq13r hRd (fun i hi => by obtain ⟨k, hk, hv⟩ := hL13 i hi; exact ⟨k, hk, by omega, by omega⟩)).mono ?_
      rintro e V3 ⟨⟨z, rfl, hz⟩, hRd, hb3⟩
      obtain ⟨n, rfl⟩ : ∃ n : Nat, z = n := ⟨z.toNat, by omega⟩
      have hBt := hBt.trans hb3
      have R5 := R5.of_block (hb3.block q5 (by omega) R5.lt)
      clear hb3 hL13
      go_wp2_with fail
      refine hK.out _ _ (by rw [hBt.cell (by simp; omega) (by simp; omega)]; exact s4) (fun hHeld => ?_)
      clear hK K
      try simp only [Act.put]
      refine listH (l2 := #[true, true, true, true, true, false, false, false, false, true, false, false]) (by kernel_rfl) ?_
      refine wpAnyH_ready (rs := [5]) (by kernel_rfl) (by simp) ?_
      refine AllReadyH.cons (o := _) rfl (fun K hK => ?_) AllReadyH.nil
      go_simp
      have HN := HL2.out.next hBt hRd
      refine (grow_any rb (p + 151) w.heap.size b c n 60 os vs 1 _ (by omega) (by omega) hrw (by have := HN.size; omega) (by omega) HN.len HN.sm HN.tree HN.rd).mono ?_
      clear HN
      rintro e V5 ⟨b2, c2, os2, vs2, l2, ops2, rfl, hT2, hl2, hs2, ho2, hd2, hRd, hb5⟩
      have hsB : W2.heap.size ≤ _ := hBt.below.size
      have ho2 := ho2.base hsB
      have hBt := hBt.trans hb5
      have R5 := R5.of_block (hb5.block q5 (by omega) R5.lt)
      clear hb5 hsB
      go_wp2_with fail
      refine hK.out _ _ (by rw [hBt.cell (by simp; omega) (by simp; omega)]; exact s4) (fun hHeld => ?_)
      clear hK K
      try simp only [Act.put]
      refine listH (l2 := #[true, true, true, true, true, true, false, false, false, true, false, false]) (by kernel_rfl) ?_
      refine takeH (i := 6) (oi := _) (v := ?vk13) 9 #[true, true, true, true, true, true, true, false, false, true, false, false] rfl (by kernel_rfl) (by kernel_rfl) (by kernel_rfl) rfl (by kernel_rfl) (fun _ _ _ h => h) (Or.inl ⟨by rfl, ?yk13⟩) (by assumption) ?rk13
      case yk13 => (intro w' hSw; go_simp; try with_reducible rfl)
      simp only [Act.put, List.setIfInBounds_toArray, List.set_cons_succ, List.set_cons_zero]
      refine takeH (i := 7) (oi := _) (v := ?vk14) 16 #[true, true, true, true, true, true, true, true, false, true, false, false] rfl (by kernel_rfl) (by kernel_rfl) (by kernel_rfl) rfl (by kernel_rfl) (fun _ _ _ h => h) (Or.inl ⟨by rfl, ?yk14⟩) (by assumption) ?rk14
      case yk14 => (intro w' hSw; go_simp; try with_reducible rfl)
      simp only [Act.put, List.setIfInBounds_toArray, List.set_cons_succ, List.set_cons_zero]
      refine takeH (i := 8) (oi := _) (v := ?vk15) 17 #[true, true, true, true, true, true, true, true, true, true, false, false] rfl (by kernel_rfl) (by kernel_rfl) (by kernel_rfl) rfl (by kernel_rfl) (fun _ _ _ h => h) (Or.inl ⟨by rfl, ?yk15⟩) (by assumption) ?rk15
      case yk15 => (intro w' hSw; go_simp; try with_reducible rfl)
      simp only [Act.put, List.setIfInBounds_toArray, List.set_cons_succ, List.set_cons_zero]
      refine wpAnyH_ready (rs := [10]) (by kernel_rfl) (by simp) ?_
      refine AllReadyH.cons (o := _) rfl (fun K hK => ?_) AllReadyH.nil
      refine st_store53 _ 5 16 q5 (.slice (some ⟨b2, 0, none⟩) 32 c2) _ rfl (some ⟨b2, 0, none⟩) 32 c2 rfl rfl R5 ?_
      intro F _ hF hc5
      subst hF
      have hBt := hBt.setNew lo5 (by omega) (.slice (some ⟨b2, 0, none⟩) 32 c2)
      have hRd := hRd.set (q := q5) (by omega) (.slice (some ⟨b2, 0, none⟩) 32 c2)
      have ho2 := ho2.setBox R5 (.slice (some ⟨b2, 0, none⟩) 32 c2)
      refine hK.out _ _ (by rw [hBt.cell (by simp; omega) (by simp; omega)]; exact s4) (fun hHeld => ?_)
      clear hK K
      refine listH (l2 := #[true, true, true, true, true, true, true, true, true, true, true, false]) (by kernel_rfl) ?_
      refine wpAnyH_ready (rs := [11]) (by kernel_rfl) (by simp) ?_
      refine AllReadyH.cons (o := _) rfl (fun K hK => ?_) AllReadyH.nil
      go_simp
      refine hK.out _ _ hHeld (fun hHeld => ?_)
      clear hK K
      try simp only [Act.put]
      refine wpAnyH_done (by kernel_rfl) ?_ _
      go_wp2_with fail
      go_meet
      exact ⟨_, ops2, rfl, hBt, hRd.up_ (by omega), ho2, hd2.1, hd2.2⟩
  clear hBt hRd
  obtain ⟨l3, ops3, rfl, hBt, hRd, ho3, hl3, hd3⟩ := hcut
  obtain ⟨W3, rfl⟩ : ∃ W3, W3 = wc := ⟨_, rfl⟩
  obtain ⟨la, lc, rfl⟩ := ho3.formS
  obtain ⟨m, hm⟩ : ∃ m, m = ops3.length := ⟨_, rfl⟩
  have HM : Hid (m = ops3.length) := hm
  have hcap := ho3.cap_.2
  rw [← hm] at ho3 hl3 hcap ⊢
  have HD : Hid (∀ o ∈ ops3, OpSz o) := fun o ho => (hd3 o ho).1.sz
  clear hm hd3
  by_cases h0 : m = 0
  · have h0I : ¬ (0 : Int) < (m : Int) := by omega
    obtain ⟨opsE, hE⟩ : ∃ opsE, opsE = ops3 := ⟨_, rfl⟩
    rw [← hE] at HM ho3 HD
    have HE : Hid (m = opsE.length ∧ m ≤ 1000 ∧ m ≤ lc ∧ ∀ o ∈ opsE, OpSz o) := ⟨HM.out, hl3, hcap, HD.out⟩
    have hoE := ho3
    have hRd := hRd.up_ (P' := p + 380) (by omega)
    clear hE HM HD ho3 hcap h0
    go_wp2_with fail
    refine (pick_to rb (p + 380) 30 _ (by omega) (by omega) (by omega) hRd).mono ?_
    rintro e W6 ⟨⟨x5, rfl, hx5⟩, hRd, hb6⟩
    have hBt := hBt.trans hb6
    have hoE := hoE.but_ hb6 (by omega)
    have HN := Hid.mk__ (HL2.out.next hBt hRd)
    have HO := Hid.mk__ hoE
    clear hb6 hBt hRd hoE
    by_cases hx0 : x5 = 0
    · subst hx0
      go_wp2_with fail
      refine (bent_any rb (p + 381) _ (by omega) (by have := HN.out.size; omega) HN.out.rd).mono ?_
      rintro e W7 ⟨b7, n7, c7, os7, vs7, rfl, hn7, hn32, hT7, hB7, hr7, hb7⟩
      have HN7 : Hid (n7 = os7.length) := hn7
      clear hn7
      have hN7 := HN.out.next hb7 hr7
      have hO7 := HO.out.but_ hb7 (by omega)
      have hsz6 := HN.out.size
      have R2 := hN7.r2
      have R4 := hN7.r4
      have s2 := R2.cell (i := 0) (by omega)
      have f2 := R2.frozen 0
      have s4 := R4.cell (i := 0) (by omega)
      have f4 := R4.frozen 0
      have hl2 := hN7.l2
      have hl4 := hN7.l4
      have hne : w.heap.size ≠ q4 := hN7.n24
      have HZ : Hid (RunEnd w rb (p + 600) (.returned (.tuple #[.agg #[.slice (some ⟨b7, 0, none⟩) n7 c7], .slice la m lc])) ((W7.setCell ⟨q4, 0, none⟩ (.slice (some ⟨b7, 0, none⟩) n7 c7)).setCell ⟨w.heap.size, 0, none⟩ (.slice (some ⟨b7, 0, none⟩) n7 c7))) := by
        have hT8 := (hT7.setBox ⟨_, R4⟩ 0 (.slice (some ⟨b7, 0, none⟩) n7 c7)).setBox ⟨_, R2.of_block (Below.heap_setCell W7 ⟨q4, 0, none⟩ (.slice (some ⟨b7, 0, none⟩) n7 c7) w.heap.size (by simpa using hne))⟩ 0 (.slice (some ⟨b7, 0, none⟩) n7 c7)
        have hO8 := (hO7.setBox R4 (.slice (some ⟨b7, 0, none⟩) n7 c7)).setBox ((R2.of_block (Below.heap_setCell W7 ⟨q4, 0, none⟩ (.slice (some ⟨b7, 0, none⟩) n7 c7) w.heap.size (by simpa using hne)))) (.slice (some ⟨b7, 0, none⟩) n7 c7)
        have hb8 := (hN7.but.setNew hl4 (by omega) (.slice (some ⟨b7, 0, none⟩) n7 c7)).setNew hl2 (by omega) (.slice (some ⟨b7, 0, none⟩) n7 c7)
        have hr8 := (hr7.set (q := q4) (by omega) (.slice (some ⟨b7, 0, none⟩) n7 c7)).set (q := w.heap.size) (by omega) (.slice (some ⟨b7, 0, none⟩) n7 c7)
        have hob := hT8.to_objs
        rw [← HN7.out] at hob
        exact ⟨b7, n7, c7, os7, la, lc, opsE, by rw [HE.out.1], hob.wide (by omega) (Nat.le_refl _), hn32, hB7, by rw [← HE.out.1]; exact (OwnOps.at3 hO8 HE.out.2.2.2).wide_ (by have := hBW.out; omega) (Nat.le_refl _), by rw [← HE.out.1]; exact HE.out.2.1, by rw [← HE.out.1]; exact HE.out.2.2.1, OwnOps.lay hO8, HE.out.2.2.2, hr8.up_ (by omega), hb8⟩
      clear hN7 hO7 hT7 hB7 hr7 hb7 R2 R4 HN HO
      go_wp2_with fail
      refine bodyPost_ret (v := .tuple #[.agg #[.slice (some ⟨b7, 0, none⟩) n7 c7], .slice la m lc]) (by rw [results, Tryz.results82]; simp [go_sem, s2]) rfl HZ.out
    · have t5 : ((x5 : Int) == 0) = false := beq_eq_false_iff_ne.2 (by omega)
      have R2 := HN.out.r2
      have R4 := HN.out.r4
      have s2 := R2.cell (i := 0) (by omega)
      have f2 := R2.frozen 0
      have s4 := R4.cell (i := 0) (by omega)
      have hl2 := HN.out.l2
      have hsz6 := HN.out.size
      have HZ : Hid (RunEnd w rb (p + 600) (.returned (.tuple #[.agg #[.slice (some ⟨b, 0, none⟩) 32 c], .slice la m lc])) (W6.setCell ⟨w.heap.size, 0, none⟩ (.slice (some ⟨b, 0, none⟩) 32 c))) := by
        have hT8 := HN.out.tree.setBox ⟨_, R2⟩ 0 (.slice (some ⟨b, 0, none⟩) 32 c)
        have hO8 := HO.out.setBox R2 (.slice (some ⟨b, 0, none⟩) 32 c)
        have hb8 := HN.out.but.setNew hl2 (by omega) (.slice (some ⟨b, 0, none⟩) 32 c)
        have hr8 := HN.out.rd.set (q := w.heap.size) (by omega) (.slice (some ⟨b, 0, none⟩) 32 c)
        have hob := hT8.to_objs
        rw [HN.out.len] at hob
        exact ⟨b, 32, c, os, la, lc, opsE, by rw [HE.out.1], hob, Nat.le_refl _, HN.out.sm.bn (by omega), by rw [← HE.out.1]; exact (OwnOps.at3 hO8 HE.out.2.2.2).wide_ (by have := hBW.out; omega) (Nat.le_refl _), by rw [← HE.out.1]; exact HE.out.2.1, by rw [← HE.out.1]; exact HE.out.2.2.1, OwnOps.lay hO8, HE.out.2.2.2, hr8.up_ (by omega), hb8⟩
      clear R2 R4 HN HO hx0
      go_wp2_with fail
      refine bodyPost_ret (v := .tuple #[.agg #[.slice (some ⟨b, 0, none⟩) 32 c], .slice la m lc]) (by rw [results, Tryz.results82]; simp [go_sem, World.cell?_setCell_same _ _ _ s2]) rfl HZ.out
  · have h0I : (0 : Int) < (m : Int) := by omega
    obtain ⟨g, lc', he, hg, hgl, -⟩ := ho3.form_ (by rw [← HM.out]; omega)
    obtain ⟨rfl, -, rfl⟩ := Value.slice.inj he
    clear he
    go_wp2_with fail
    refine (pick_to rb (p + 350) 8 _ (by omega) (by omega) (by omega) hRd).mono ?_
    rintro e W4 ⟨⟨x4, rfl, hx4⟩, hRd, hb4⟩
    have hBt := hBt.trans hb4
    have ho3 := ho3.but_ hb4 (by omega)
    clear hb4
    by_cases hx : x4 = 0
    · subst hx
      have hBt := hBt.next (by have := hBt.below.size; omega) ((Below.refl W4.heap.size W4).drew)
      have hRd := hRd.but ((Below.refl W4.heap.size W4).drew) (by have := hBt.below.size; simp at this; omega)
      have ho3 := ho3.next ((Below.refl W4.heap.size W4).drew)
      have s4b : W4.drew.cell? ⟨q4, 0, none⟩ = some (.slice (some ⟨b, 0, none⟩) 32 c) := by rw [hBt.cell (by simp; omega) (by simp; omega)]; exact s4
      go_upto_region 4 with fail
      refine wp_region_held_drew (S := (fun W => W.cell? ⟨q4, 0, none⟩ = some (.slice (some ⟨b, 0, none⟩) 32 c))) (by kernel_rfl) ?_ (fun hHeld => ?_)
      · exact s4b
      refine listH (l2 := #[false, false, false, false, false, false, false, false, false, false]) (by kernel_rfl) ?_
      refine takeH (i := 0) (oi := _) (v := ?vk16) 26 #[true, false, false, false, false, false, false, false, false, false] rfl (by kernel_rfl) (by kernel_rfl) (by kernel_rfl) rfl (by kernel_rfl) (fun _ _ _ h => h) (Or.inl ⟨by rfl, ?yk16⟩) (by assumption) ?rk16
      case yk16 => (intro w' hSw; go_simp; try with_reducible rfl)
      simp only [Act.put, List.setIfInBounds_toArray, List.set_cons_succ, List.set_cons_zero]
      refine takeH (i := 1) (oi := _) (v := ?vk17) 27 #[true, true, false, false, false, false, false, false, false, false] rfl (by kernel_rfl) (by kernel_rfl) (by kernel_rfl) rfl (by kernel_rfl) (fun _ _ _ h => h) (Or.inl ⟨by rfl, ?yk17⟩) (by assumption) ?rk17
      case yk17 => (intro w' hSw; go_simp; try with_reducible rfl)
      simp only [Act.put, List.setIfInBounds_toArray, List.set_cons_succ, List.set_cons_zero]
      refine takeH (i := 2) (oi := _) (v := ?vk18) 28 #[true, true, true, false, false, false, false, false, false, false] rfl (by kernel_rfl) (by kernel_rfl) (by kernel_rfl) rfl (by kernel_rfl) (fun _ _ _ h => h) (Or.inl ⟨by rfl, ?yk18⟩) (by assumption) ?rk18
      case yk18 => (intro w' hSw; go_simp; try with_reducible rfl)
      simp only [Act.put, List.setIfInBounds_toArray, List.set_cons_succ, List.set_cons_zero]
      refine takeH (i := 3) (oi := _) (v := ?vk19) 29 #[true, true, true, true, false, false, false, false, false, false] rfl (by kernel_rfl) (by kernel_rfl) (by kernel_rfl) rfl (by kernel_rfl) (fun _ _ _ h => h) (Or.inl ⟨by rfl, ?yk19⟩) (by assumption) ?rk19
      case yk19 => (intro w' hSw; go_simp; try with_reducible rfl)
      simp only [Act.put, List.setIfInBounds_toArray, List.set_cons_succ, List.set_cons_zero]
      refine takeH (i := 5) (oi := _) (v := ?vk20) 31 #[true, true, true, true, false, true, false, false, false, false] rfl (by kernel_rfl) (by kernel_rfl) (by kernel_rfl) rfl (by kernel_rfl) (fun _ _ _ h => h) (Or.inl ⟨by rfl, ?yk20⟩) (by assumption) ?rk20
      case yk20 => (intro w' hSw; go_simp; try with_reducible rfl)
      simp only [Act.put, List.setIfInBounds_toArray, List.set_cons_succ, List.set_cons_zero]
      refine takeH (i := 6) (oi := _) (v := ?vk21) 32 #[true, true, true, true, false, true, true, false, false, false] rfl (by kernel_rfl) (by kernel_rfl) (by kernel_rfl) rfl (by kernel_rfl) (fun _ _ _ h => h) (Or.inl ⟨by rfl, ?yk21⟩) (by assumption) ?rk21
      case yk21 => (intro w' hSw; go_simp; try with_reducible rfl)
      simp only [Act.put, List.setIfInBounds_toArray, List.set_cons_succ, List.set_cons_zero]
      refine wpAnyH_ready (rs := [4]) (by kernel_rfl) (by simp) ?_
      refine AllReadyH.cons (o := _) rfl (fun K hK => ?_) AllReadyH.nil
      go_simp
      refine (pick_to rb (p + 351) m _ (by omega) (by omega) (by omega) hRd).mono ?_
      rintro e V3 ⟨⟨x, rfl, hx⟩, hRd, hb3⟩
      have hBt := hBt.trans hb3
      have ho3 := ho3.but_ hb3 (by omega)
      clear hb3
      go_wp2_with fail
      refine hK.out _ _ (by rw [hBt.cell (by simp; omega) (by simp; omega)]; exact s4) (fun hHeld => ?_)
      clear hK K
      try simp only [Act.put]
      refine listH (l2 := #[true, true, true, true, true, true, true, false, false, false]) (by kernel_rfl) ?_
      refine wpAnyH_ready (rs := [7]) (by kernel_rfl) (by simp) ?_
      refine AllReadyH.cons (o := _) rfl (fun K hK => ?_) AllReadyH.nil
      go_simp
      have HN := HL2.out.next hBt hRd
      have HT := HN.tree.to_objs
      rw [HN.len] at HT
      refine (opBent_any rb (p + 352) (some ⟨b, 0, none⟩) c os w.heap.size _ (by omega) (by have := HN.size; omega) hrw (HN.sm.few (by omega)) HT hRd).mono ?_
      clear HN HT
      rintro e V5 ⟨⟨o, rfl, hob⟩, hRd, hb5⟩
      have hBt := hBt.trans hb5
      have ho3 := ho3.but_ hb5 (by omega)
      clear hb5
      go_wp2_with fail
      refine hK.out _ _ (by rw [hBt.cell (by simp; omega) (by simp; omega)]; exact s4) (fun hHeld => ?_)
      clear hK K
      try simp only [Act.put]
      refine listH (l2 := #[true, true, true, true, true, true, true, true, false, false]) (by kernel_rfl) ?_
      refine takeH (i := 8) (oi := _) (v := (.pointer (some ⟨g, x * 7, none⟩))) 34 #[true, true, true, true, true, true, true, true, true, false] rfl (by kernel_rfl) (by kernel_rfl) (by kernel_rfl) rfl (by kernel_rfl) (fun _ _ _ h => h) (Or.inl ⟨by rfl, ?yk22⟩) (by assumption) ?rk22
      case yk22 => (intro w' hSw; have hxI : (x : Int) < (m : Int) := (by omega); go_simp; try simp)
      simp only [Act.put, List.setIfInBounds_toArray, List.set_cons_succ, List.set_cons_zero]
      refine wpAnyH_ready (rs := [9]) (by kernel_rfl) (by simp) ?_
      refine AllReadyH.cons (o := _) rfl (fun K hK => ?_) AllReadyH.nil
      refine st_storeOp _ 34 33 W2.heap.size g lc x o ops3 rfl rfl (by rw [← HM.out]; exact ho3) (by rw [← HM.out]; exact hx) ?_
      intro F hbF hoF
      have hBt := hBt.setOther hg (by omega) hbF
      have hRd := hRd.setOther (by omega) hbF
      refine hK.out _ _ (by rw [hBt.cell (by simp; omega) (by simp; omega)]; exact s4) (fun hHeld => ?_)
      clear hK K
      try simp only [Act.put]
      refine wpAnyH_done (by kernel_rfl) ?_ _
      go_wp2_with fail
      obtain ⟨opsE, hE⟩ : ∃ opsE, opsE = ops3.set x o := ⟨_, rfl⟩
      rw [← hE, ← HM.out] at hoF
      have HE : Hid (m = opsE.length ∧ m ≤ 1000 ∧ m ≤ lc ∧ ∀ o ∈ opsE, OpSz o) := ⟨by rw [hE, List.length_set]; exact HM.out, hl3, hcap, fun o' ho' => by
        rw [hE] at ho'
        rcases List.mem_or_eq_of_mem_set ho' with h | rfl
        · exact HD.out o' h
        · exact opB_sz hob⟩
      have hoE := hoF
      have hRd := hRd.up_ (P' := p + 380) (by omega)
      clear hE HM HD ho3 hcap h0 hoF hob hx
      refine (pick_to rb (p + 380) 30 _ (by omega) (by omega) (by omega) hRd).mono ?_
      rintro e W6 ⟨⟨x5, rfl, hx5⟩, hRd, hb6⟩
      have hBt := hBt.trans hb6
      have hoE := hoE.but_ hb6 (by omega)
      have HN := Hid.mk__ (HL2.out.next hBt hRd)
      have HO := Hid.mk__ hoE
      clear hb6 hBt hRd hoE
      by_cases hx0 : x5 = 0
      · subst hx0
        go_wp2_with fail
        refine (bent_any rb (p + 381) _ (by omega) (by have := HN.out.size; omega) HN.out.rd).mono ?_
        rintro e W7 ⟨b7, n7, c7, os7, vs7, rfl, hn7, hn32, hT7, hB7, hr7, hb7⟩
        have HN7 : Hid (n7 = os7.length) := hn7
        clear hn7
        have hN7 := HN.out.next hb7 hr7
        have hO7 := HO.out.but_ hb7 (by omega)
        have hsz6 := HN.out.size
        have R2 := hN7.r2
        have R4 := hN7.r4
        have s2 := R2.cell (i := 0) (by omega)
        have f2 := R2.frozen 0
        have s4 := R4.cell (i := 0) (by omega)
        have f4 := R4.frozen 0
        have hl2 := hN7.l2
        have hl4 := hN7.l4
        have hne : w.heap.size ≠ q4 := hN7.n24
        have HZ : Hid (RunEnd w rb (p + 600) (.returned (.tuple #[.agg #[.slice (some ⟨b7, 0, none⟩) n7 c7], .slice (some ⟨g, 0, none⟩) m lc])) ((W7.setCell ⟨q4, 0, none⟩ (.slice (some ⟨b7, 0, none⟩) n7 c7)).setCell ⟨w.heap.size, 0, none⟩ (.slice (some ⟨b7, 0, none⟩) n7 c7))) := by
          have hT8 := (hT7.setBox ⟨_, R4⟩ 0 (.slice (some ⟨b7, 0, none⟩) n7 c7)).setBox ⟨_, R2.of_block (Below.heap_setCell W7 ⟨q4, 0, none⟩ (.slice (some ⟨b7, 0, none⟩) n7 c7) w.heap.size (by simpa using hne))⟩ 0 (.slice (some ⟨b7, 0, none⟩) n7 c7)
          have hO8 := (hO7.setBox R4 (.slice (some ⟨b7, 0, none⟩) n7 c7)).setBox ((R2.of_block (Below.heap_setCell W7 ⟨q4, 0, none⟩ (.slice (some ⟨b7, 0, none⟩) n7 c7) w.heap.size (by simpa using hne)))) (.slice (some ⟨b7, 0, none⟩) n7 c7)
          have hb8 := (hN7.but.setNew hl4 (by omega) (.slice (some ⟨b7, 0, none⟩) n7 c7)).setNew hl2 (by omega) (.slice (some ⟨b7, 0, none⟩) n7 c7)
          have hr8 := (hr7.set (q := q4) (by omega) (.slice (some ⟨b7, 0, none⟩) n7 c7)).set (q := w.heap.size) (by omega) (.slice (some ⟨b7, 0, none⟩) n7 c7)
          have hob := hT8.to_objs
          rw [← HN7.out] at hob
          exact ⟨b7, n7, c7, os7, (some ⟨g, 0, none⟩), lc, opsE, by rw [HE.out.1], hob.wide (by omega) (Nat.le_refl _), hn32, hB7, by rw [← HE.out.1]; exact (OwnOps.at3 hO8 HE.out.2.2.2).wide_ (by have := hBW.out; omega) (Nat.le_refl _), by rw [← HE.out.1]; exact HE.out.2.1, by rw [← HE.out.1]; exact HE.out.2.2.1, OwnOps.lay hO8, HE.out.2.2.2, hr8.up_ (by omega), hb8⟩
        clear hN7 hO7 hT7 hB7 hr7 hb7 R2 R4 HN HO
        go_wp2_with fail
        refine bodyPost_ret (v := .tuple #[.agg #[.slice (some ⟨b7, 0, none⟩) n7 c7], .slice (some ⟨g, 0, none⟩) m lc]) (by rw [results, Tryz.results82]; simp [go_sem, s2]) rfl HZ.out
      · have t5 : ((x5 : Int) == 0) = false := beq_eq_false_iff_ne.2 (by omega)
        have R2 := HN.out.r2
        have R4 := HN.out.r4
        have s2 := R2.cell (i := 0) (by omega)
        have f2 := R2.frozen 0
        have s4 := R4.cell (i := 0) (by omega)
        have hl2 := HN.out.l2
        have hsz6 := HN.out.size
        have HZ : Hid (RunEnd w rb (p + 600) (.returned (.tuple #[.agg #[.slice (some ⟨b, 0, none⟩) 32 c], .slice (some ⟨g, 0, none⟩) m lc])) (W6.setCell ⟨w.heap.size, 0, none⟩ (.slice (some ⟨b, 0, none⟩) 32 c))) := by
          have hT8 := HN.out.tree.setBox ⟨_, R2⟩ 0 (.slice (some ⟨b, 0, none⟩) 32 c)
          have hO8 := HO.out.setBox R2 (.slice (some ⟨b, 0, none⟩) 32 c)
          have hb8 := HN.out.but.setNew hl2 (by omega) (.slice (some ⟨b, 0, none⟩) 32 c)
          have hr8 := HN.out.rd.set (q := w.heap.size) (by omega) (.slice (some ⟨b, 0, none⟩) 32 c)
          have hob := hT8.to_objs
          rw [HN.out.len] at hob
          exact ⟨b, 32, c, os, (some ⟨g, 0, none⟩), lc, opsE, by rw [HE.out.1], hob, Nat.le_refl _, HN.out.sm.bn (by omega), by rw [← HE.out.1]; exact (OwnOps.at3 hO8 HE.out.2.2.2).wide_ (by have := hBW.out; omega) (Nat.le_refl _), by rw [← HE.out.1]; exact HE.out.2.1, by rw [← HE.out.1]; exact HE.out.2.2.1, OwnOps.lay hO8, HE.out.2.2.2, hr8.up_ (by omega), hb8⟩
        clear R2 R4 HN HO hx0
        go_wp2_with fail
        refine bodyPost_ret (v := .tuple #[.agg #[.slice (some ⟨b, 0, none⟩) 32 c], .slice (some ⟨g, 0, none⟩) m lc]) (by rw [results, Tryz.results82]; simp [go_sem, World.cell?_setCell_same _ _ _ s2]) rfl HZ.out
    · have t4 : ((x4 : Int) == 0) = false := beq_eq_false_iff_ne.2 (by omega)
      obtain ⟨opsE, hE⟩ : ∃ opsE, opsE = ops3 := ⟨_, rfl⟩
      rw [← hE] at HM ho3 HD
      have HE : Hid (m = opsE.length ∧ m ≤ 1000 ∧ m ≤ lc ∧ ∀ o ∈ opsE, OpSz o) := ⟨HM.out, hl3, hcap, HD.out⟩
      have hoE := ho3
      have hRd := hRd.up_ (P' := p + 380) (by omega)
      clear hE HM HD ho3 hcap h0 hx
      go_wp2_with fail
      refine (pick_to rb (p + 380) 30 _ (by omega) (by omega) (by omega) hRd).mono ?_
      rintro e W6 ⟨⟨x5, rfl, hx5⟩, hRd, hb6⟩
      have hBt := hBt.trans hb6
      have hoE := hoE.but_ hb6 (by omega)
      have HN := Hid.mk__ (HL2.out.next hBt hRd)
      have HO := Hid.mk__ hoE
      clear hb6 hBt hRd hoE
      by_cases hx0 : x5 = 0
      · subst hx0
        go_wp2_with fail
        refine (bent_any rb (p + 381) _ (by omega) (by have := HN.out.size; omega) HN.out.rd).mono ?_
        rintro e W7 ⟨b7, n7, c7, os7, vs7, rfl, hn7, hn32, hT7, hB7, hr7, hb7⟩
        have HN7 : Hid (n7 = os7.length) := hn7
        clear hn7
        have hN7 := HN.out.next hb7 hr7
        have hO7 := HO.out.but_ hb7 (by omega)
        have hsz6 := HN.out.size
        have R2 := hN7.r2
        have R4 := hN7.r4
        have s2 := R2.cell (i := 0) (by omega)
        have f2 := R2.frozen 0
        have s4 := R4.cell (i := 0) (by omega)
        have f4 := R4.frozen 0
        have hl2 := hN7.l2
        have hl4 := hN7.l4
        have hne : w.heap.size ≠ q4 := hN7.n24
        have HZ : Hid (RunEnd w rb (p + 600) (.returned (.tuple #[.agg #[.slice (some ⟨b7, 0, none⟩) n7 c7], .slice (some ⟨g, 0, none⟩) m lc])) ((W7.setCell ⟨q4, 0, none⟩ (.slice (some ⟨b7, 0, none⟩) n7 c7)).setCell ⟨w.heap.size, 0, none⟩ (.slice (some ⟨b7, 0, none⟩) n7 c7))) := by
          have hT8 := (hT7.setBox ⟨_, R4⟩ 0 (.slice (some ⟨b7, 0, none⟩) n7 c7)).setBox ⟨_, R2.of_block (Below.heap_setCell W7 ⟨q4, 0, none⟩ (.slice (some ⟨b7, 0, none⟩) n7 c7) w.heap.size (by simpa using hne))⟩ 0 (.slice (some ⟨b7, 0, none⟩) n7 c7)
          have hO8 := (hO7.setBox R4 (.slice (some ⟨b7, 0, none⟩) n7 c7)).setBox ((R2.of_block (Below.heap_setCell W7 ⟨q4, 0, none⟩ (.slice (some ⟨b7, 0, none⟩) n7 c7) w.heap.size (by simpa using hne)))) (.slice (some ⟨b7, 0, none⟩) n7 c7)
          have hb8 := (hN7.but.setNew hl4 (by omega) (.slice (some ⟨b7, 0, none⟩) n7 c7)).setNew hl2 (by omega) (.slice (some ⟨b7, 0, none⟩) n7 c7)
          have hr8 := (hr7.set (q := q4) (by omega) (.slice (some ⟨b7, 0, none⟩) n7 c7)).set (q := w.heap.size) (by omega) (.slice (some ⟨b7, 0, none⟩) n7 c7)
          have hob := hT8.to_objs
          rw [← HN7.out] at hob
          exact ⟨b7, n7, c7, os7, (some ⟨g, 0, none⟩), lc, opsE, by rw [HE.out.1], hob.wide (by omega) (Nat.le_refl _), hn32, hB7, by rw [← HE.out.1]; exact (OwnOps.at3 hO8 HE.out.2.2.2).wide_ (by have := hBW.out; omega) (Nat.le_refl _), by rw [← HE.out.1]; exact HE.out.2.1, by rw [← HE.out.1]; exact HE.out.2.2.1, OwnOps.lay hO8, HE.out.2.2.2, hr8.up_ (by omega), hb8⟩
        clear hN7 hO7 hT7 hB7 hr7 hb7 R2 R4 HN HO
        go_wp2_with fail
        refine bodyPost_ret (v := .tuple #[.agg #[.slice (some ⟨b7, 0, none⟩) n7 c7], .slice (some ⟨g, 0, none⟩) m lc]) (by rw [results, Tryz.results82]; simp [go_sem, s2]) rfl HZ.out
      · have t5 : ((x5 : Int) == 0) = false := beq_eq_false_iff_ne.2 (by omega)
        have R2 := HN.out.r2
        have R4 := HN.out.r4
        have s2 := R2.cell (i := 0) (by omega)
        have f2 := R2.frozen 0
        have s4 := R4.cell (i := 0) (by omega)
        have hl2 := HN.out.l2
        have hsz6 := HN.out.size
        have HZ : Hid (RunEnd w rb (p + 600) (.returned (.tuple #[.agg #[.slice (some ⟨b, 0, none⟩) 32 c], .slice (some ⟨g, 0, none⟩) m lc])) (W6.setCell ⟨w.heap.size, 0, none⟩ (.slice (some ⟨b, 0, none⟩) 32 c))) := by
          have hT8 := HN.out.tree.setBox ⟨_, R2⟩ 0 (.slice (some ⟨b, 0, none⟩) 32 c)
          have hO8 := HO.out.setBox R2 (.slice (some ⟨b, 0, none⟩) 32 c)
          have hb8 := HN.out.but.setNew hl2 (by omega) (.slice (some ⟨b, 0, none⟩) 32 c)
          have hr8 := HN.out.rd.set (q := w.heap.size) (by omega) (.slice (some ⟨b, 0, none⟩) 32 c)
          have hob := hT8.to_objs
          rw [HN.out.len] at hob
          exact ⟨b, 32, c, os, (some ⟨g, 0, none⟩), lc, opsE, by rw [HE.out.1], hob, Nat.le_refl _, HN.out.sm.bn (by omega), by rw [← HE.out.1]; exact (OwnOps.at3 hO8 HE.out.2.2.2).wide_ (by have := hBW.out; omega) (Nat.le_refl _), by rw [← HE.out.1]; exact HE.out.2.1, by rw [← HE.out.1]; exact HE.out.2.2.1, OwnOps.lay hO8, HE.out.2.2.2, hr8.up_ (by omega), hb8⟩
        clear R2 R4 HN HO hx0
        go_wp2_with fail
        refine bodyPost_ret (v := .tuple #[.agg #[.slice (some ⟨b, 0, none⟩) 32 c], .slice (some ⟨g, 0, none⟩) m lc]) (by rw [results, Tryz.results82]; simp [go_sem, World.cell?_setCell_same _ _ _ s2]) rfl HZ.out

def DrawAllEnd (w : World) (e : Ending) (w' : World) : Prop :=
  (∃ b n c os la lc ops, e = .returned (.tuple #[.agg #[.slice (some ⟨b, 0, none⟩) n c], .slice la ops.length lc]) ∧ ObjsAt w' w.heap.size w'.heap.size (some ⟨b, 0, none⟩) n os ∧ n ≤ 32 ∧ Bn os ∧ OpsAt w' w.heap.size w'.heap.size la ops.length ops ∧ ops.length ≤ 1000 ∧ ops.length ≤ lc ∧ ((la = none ∧ lc = 0) ∨ ∃ g, la = some ⟨g, 0, none⟩) ∧ ∀ o ∈ ops, OpSz o) ∧ Below w.heap.size w w'
set_option maxRecDepth 20000 in
theorem drawAll (a : Option Addr) (n c : Nat) (zs : List Int) (w : World) (hn : n ≤ 1048576) (hc : n ≤ c) (H : BytesAt w w.heap.size a n zs) :
    Calls Tryz.prog 28 #[.slice a n c] w fun e w' => DrawAllEnd w e w' := by
  go_enter Tryz.func28, Tryz.ntmps28
  go_wp2_with fail
  refine (open16 a n c zs (w.heap.size + 1) _ hn hc (bytes_box H)).mono ?_
  rintro e W1 ⟨m, c', ys, rfl, hm, hm0, hB, rfl⟩
  have hal : Below w.heap.size w (w.alloc (Obj.cells #[.slice none 0 0] 25)) := (Below.refl _ _).alloc (Nat.le_refl _) _
  have hrow : (w.alloc (Obj.cells #[.slice none 0 0] 25)).rowIs w.heap.size 25 1 (fun _ => .slice none 0 0) := row1 w _ 25
  go_wp2_with fail
  refine (run_any (w.heap.size + 1) 0 _ (by omega) (by simp) (rd_open hm hB)).mono ?_
  rintro e W2 ⟨b, k, c2, os, la, lc, ops, rfl, hO, hk, hB2, hP, hl, hcap, hlay, hz, hr, hb⟩
  have hr2 : W2.rowIs w.heap.size 25 1 (fun _ => .slice none 0 0) := (hrow.alloc _).of_block (hb.block _ (by omega) (by simp; omega))
  have hb2 : Below w.heap.size w W2 := (hal.alloc (by simp) (.cells #[.slice a m c', .int .i64 0] 135)).trans (hb.below.mono (by simp))
  have s2 := hr2.cell (i := 0) (by omega)
  have f2 := hr2.frozen 0
  have hsz := hb.below.size
  have hset : But w.heap.size W2 (W2.setCell ⟨w.heap.size, 0, none⟩ (.slice (some ⟨b, 0, none⟩) k c2)) := (But.refl _ _).set 0 _
  have HZ : Hid (DrawAllEnd w (.returned (.tuple #[.agg #[.slice (some ⟨b, 0, none⟩) k c2], .slice la ops.length lc])) (W2.setCell ⟨w.heap.size, 0, none⟩ (.slice (some ⟨b, 0, none⟩) k c2))) :=
    ⟨⟨b, k, c2, os, la, lc, ops, rfl, (hO.but hset (by first | (simp; done) | (simp; omega)) (Nat.le_refl _)).wide (by first | (simp; done) | (simp; omega)) (by simp), hk, hB2, (OpsAt.but hP hset (Nat.le_refl _) (.inl (by first | (simp; done) | (simp; omega)))).wide_ (by first | (simp; done) | (simp; omega)) (by simp), hl, hcap, hlay, hz⟩, hb2.setCell (Nat.le_refl _) _⟩
  clear hO hB2 hP hl hcap hlay hz hr hb hr2 hb2 hset hrow hal
  go_wp2_with fail
  exact bodyPost_ret (v := .tuple #[.agg #[.slice (some ⟨b, 0, none⟩) k c2], .slice la ops.length lc]) (by rw [results, Tryz.results28]; simp [go_sem, World.cell?_setCell_same _ _ _ s2]) rfl HZ.out
end Go.Proofs.YtnolbfijcnldjaaGreatDoor

/- Paths: contracts of the program and of the specification. -/
namespace Go.Proofs.YtnolbfijcnldjaaGreatDoor
open Go.RowKit

end Go.Proofs.YtnolbfijcnldjaaGreatDoor

/- Plain facts about trees that are ok: going up again and again. -/
namespace Go.Proofs.YtnolbfijcnldjaaGreatDoor
open Go.RowKit

/-- Going up so many times. -/
def it (os : List LObj) : Nat → Int → Int
  | 0, id => id
  | k + 1, id => it os k (homeIn (flat os) id)
theorem it_add (os : List LObj) : ∀ (j k : Nat) (id : Int), it os (j + k) id = it os k (it os j id)
  | 0, k, id => by simp [it]
  | j + 1, k, id => by
    have : j + 1 + k = (j + k) + 1 := by omega
    rw [this, it, it, it_add os j k]
theorem home_neg {os : List LObj} (hs : specOk os = true) {id : Int} (h : id ≤ 0) : homeIn (flat os) id = -1 := by
  have hi := (specOk_iff os).1 hs
  refine homeIn_off fun x hx e => ?_
  obtain ⟨k, e1, k1, k2⟩ := flat_ids (ids_of_ok hi.2.1) hx
  omega
theorem it_neg {os : List LObj} (hs : specOk os = true) : ∀ (k : Nat) {id : Int}, id < 0 → it os k id < 0
  | 0, _, h => h
  | k + 1, id, h => by
    rw [it, home_neg hs (by omega)]
    exact it_neg hs k (by omega)
theorem under_iff {os : List LObj} (hs : specOk os = true) (dir : Int) : ∀ (k : Nat) (id : Int), under os dir k id = true ↔ 0 ≤ dir ∧ ∃ j, j < k ∧ it os j id = dir
  | 0, id => by simp [under]
  | k + 1, id => by
    unfold under
    by_cases h0 : 0 ≤ id
    · rw [if_pos h0]
      by_cases he : id = dir
      · rw [if_pos he]
        simp
        exact ⟨by omega, 0, by omega, he⟩
      · rw [if_neg he, under_iff hs dir k]
        constructor
        · rintro ⟨h1, j, h2, h3⟩
          exact ⟨h1, j + 1, by omega, h3⟩
        · rintro ⟨h1, j, h2, h3⟩
          cases j with
          | zero => exact absurd h3 he
          | succ j => exact ⟨h1, j, by omega, h3⟩
    · rw [if_neg h0]
      simp
      intro h1 j _ h3
      have := it_neg hs j (id := id) (by omega)
      omega
theorem climb_it (os : List LObj) : ∀ (k : Nat) (id : Int), climb os k id = 0 → ∃ m, m ≤ k ∧ it os m id = 0
  | 0, id, h => ⟨0, Nat.le_refl _, h⟩
  | k + 1, id, h => by
    by_cases h0 : 0 < id
    · rw [climb_step os k h0] at h
      obtain ⟨m, hm, e⟩ := climb_it os k _ h
      exact ⟨m + 1, by omega, e⟩
    · rw [climb_stop os (k + 1) h0] at h
      exact ⟨0, by omega, h⟩
/-- From each object that is there one comes to the top. -/
theorem depth {os : List LObj} (hs : specOk os = true) {id : Int} (h : hasB os id = true) : ∃ m, m ≤ 32 ∧ it os m id = 0 := by
  have hi := (specOk_iff os).1 hs
  simp [hasB] at h
  have hc := hi.2.2.2.2 id.toNat (by omega) h.2
  have e : ((id.toNat : Nat) : Int) = id := by omega
  rw [e] at hc
  obtain ⟨m, hm, e⟩ := climb_it os 31 id hc
  exact ⟨m, by omega, e⟩
theorem depth31 {os : List LObj} (hs : specOk os = true) {id : Int} (h : hasB os id = true) : ∃ m, m ≤ 31 ∧ it os m id = 0 := by
  have hi := (specOk_iff os).1 hs
  simp [hasB] at h
  have hc := hi.2.2.2.2 id.toNat (by omega) h.2
  have e : ((id.toNat : Nat) : Int) = id := by omega
  rw [e] at hc
  exact climb_it os 31 id hc
theorem it_end {os : List LObj} (hs : specOk os = true) {id : Int} {m j : Nat} (hm : it os m id = 0) (hj : 0 ≤ it os j id) : j ≤ m := by
  apply Classical.byContradiction
  intro hn
  obtain ⟨k, rfl⟩ : ∃ k, j = m + (k + 1) := ⟨j - m - 1, by omega⟩
  rw [it_add, hm, it, home_neg hs (by omega)] at hj
  have := it_neg hs k (id := -1) (by omega)
  omega
theorem has_iff (os : List LObj) (id : Int) : hasB os id = true ↔ 0 ≤ id ∧ id < 32 ∧ kindOf os id.toNat ≠ 0 := by
  simp [hasB]; omega
/-- What has names is a directory. -/
theorem kids_dir {o : LObj} (h : objB o = true) (hk : o.kids ≠ []) : o.kind = 2 ∧ kidsB o.kids = true := by
  unfold objB at h
  rw [Bool.and_eq_true] at h
  have h2 := h.2
  have hn : ¬ nil? o.kids.length = true := by
    unfold nil?
    simp
    exact hk
  unfold partsB at h2
  split at h2
  · rw [Bool.and_eq_true] at h2; exact absurd h2.2 hn
  · split at h2
    · rw [Bool.and_eq_true] at h2; exact absurd h2.2 hn
    · split at h2
      · next h3 => rw [Bool.and_eq_true] at h2; exact ⟨h3, h2.2⟩
      · cases h2
end Go.Proofs.YtnolbfijcnldjaaGreatDoor

/- Plain facts about paths of trees that are ok. -/
namespace Go.Proofs.YtnolbfijcnldjaaGreatDoor
open Go.RowKit

theorem less_self (l : List UInt8) : Op.bytesLess l l = false := by
  induction l with
  | nil => simp [Op.bytesLess]
  | cons x t ih => simp [Op.bytesLess, ih]
end Go.Proofs.YtnolbfijcnldjaaGreatDoor
