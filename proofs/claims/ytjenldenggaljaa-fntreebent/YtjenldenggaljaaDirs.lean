/- Draws over a tree: a directory's number, any number. -/
import Derived.Test.YtjenldenggaljaaLive
import Derived.Test.YtjenldenggaljaaMark
namespace Go.Proofs.Ytjenldenggaljaa
open Go.RowKit

theorem EntsAt.but {w w' : World} {L U rb : Nat} {a : Option Addr} {n : Nat} {es : List LEnt} (h : EntsAt w L U a n es) (hb : But rb w w') (hr : rb < L) (hU : U ≤ w.heap.size) : EntsAt w' L U a n es :=
  ⟨h.len, h.bd, fun hn => by
    obtain ⟨b, off, ha, hL, hbU, hc⟩ := h.at_ hn
    refine ⟨b, off, ha, hL, hbU, fun i hi => ?_⟩
    obtain ⟨e, h1, h2, h3, h4⟩ := hc i hi
    exact ⟨e, h1, h2, by rw [hb.cell (by simp; omega) (by simp; omega)]; exact h3, by rw [hb.cell (by simp; omega) (by simp; omega)]; exact h4⟩⟩
theorem ObjsAt.but {w w' : World} {L U rb : Nat} {a : Option Addr} {n : Nat} {os : List LObj} (h : ObjsAt w L U a n os) (hb : But rb w w') (hr : rb < L) (hU : U ≤ w.heap.size) : ObjsAt w' L U a n os :=
  ⟨h.len, h.bd, fun hn => by
    obtain ⟨b, off, ha, hL, hbU, hc⟩ := h.at_ hn
    refine ⟨b, off, ha, hL, hbU, fun i hi => ?_⟩
    obtain ⟨o, ka, kn, kc, h1, h2, h3, h4, h5, h6, h7⟩ := hc i hi
    refine ⟨o, ka, kn, kc, h1, h2, ?_, ?_, ?_, ?_, h7.but hb hr hU⟩ <;> (rw [hb.cell (by simp; omega) (by simp; omega)]; assumption)⟩
theorem Drawn.but {rb : Nat} {w w' : World} (h : Drawn w w' rb) : But rb w w' := ⟨h.below, fun k hk _ => h.block k hk⟩
theorem But.of_below {rb : Nat} {w w' : World} (hb : rb < w.heap.size) (h : Below w.heap.size w w') : But rb w w' := ⟨h.mono (by omega), fun k _ hk => h.block k hk⟩
/-- A reader that is at most so far. -/
def RdTo (w : World) (rb p : Nat) : Prop := ∃ p', p' ≤ p ∧ RdAt w rb p'
theorem OwnInts.get {w : World} {B : Nat} {v : Value} {l : List Nat} (h : OwnInts w B v l) (hl : l ≠ []) : ∃ g c, v = .slice (some ⟨g, 0, none⟩) l.length c ∧ B ≤ g ∧ g < w.heap.size ∧ ∀ i, i < l.length → ∃ k, l[i]? = some k ∧ w.cell? ⟨g, i, none⟩ = some (.int .i64 (k : Nat)) := by
  have h0 : 0 < l.length := List.length_pos_iff.mpr hl
  obtain ⟨g, c, rfl, hb, hlt⟩ := World.ownsRow.form h h0
  refine ⟨g, c, rfl, hb, hlt, fun i hi => ⟨l[i], by simp [hi], ?_⟩⟩
  have := World.ownsRow.cellAt h i (by simpa using hi)
  rw [this]; simp [hi]
theorem liveL_lt {os : List LObj} {kind : Int} {k i : Nat} (h : i ∈ liveL os kind k) : i < k := by
  simp [liveL] at h; exact h.1
theorem OwnInts.nil {w : World} {B : Nat} {v : Value} (h : OwnInts w B v []) : ∃ a c, v = .slice a 0 c := by
  rcases h.2 with ⟨rfl, _⟩ | ⟨g, cap, cur, rfl, _⟩
  · exact ⟨_, _, rfl⟩
  · exact ⟨_, _, rfl⟩

set_option maxHeartbeats 1000000 in
set_option maxRecDepth 20000 in
theorem dir_any (rb p : Nat) (a : Option Addr) (n c : Nat) (os : List LObj) (L U : Nat) (w : World) (hp : p ≤ 999990) (hn : n ≤ 32) (hU : U ≤ w.heap.size) (H : ObjsAt w L U a n os) (R : RdAt w rb p) :
    Calls Try.prog 73 #[.pointer (some ⟨rb, 0, none⟩), .agg #[.slice a n c]] w fun e w' => NumEnd (fun z => 0 ≤ z ∧ z < 32) e ∧ RdTo w' rb (p + 2) ∧ But rb w w' := by
  have hrl := R.lt
  go_enter Try.func73, Try.ntmps73
  go_wp2_with fail
  have hA : Below w.heap.size w (w.alloc (Obj.cells #[.slice a n c] 25)) := (Below.refl _ _).alloc (Nat.le_refl _) _
  refine (live_any a n c os L U 2 _ (by omega) (by simp; omega) (H.below hA hU)).mono ?_
  rintro x w1 ⟨⟨v, rfl, hv⟩, hb1⟩
  have hB1 : But rb w w1 := But.of_below hrl (hA.trans (hb1.mono (by simp)))
  have R1 : RdAt w1 rb p := R.below (hA.trans (hb1.mono (by simp))) hrl
  have hz1 : w.heap.size + 1 ≤ w1.heap.size := by simpa using hb1.size
  clear hA hb1 R
  by_cases hl : liveL os 2 n = []
  · have hv' := hv.out
    rw [hl] at hv'
    obtain ⟨ga, gc, rfl⟩ := hv'.nil
    clear hv'
    go_wp2_with fail
    refine (num_any (fun z => 0 ≤ z ∧ z < 32) rb p w1.heap.size 3 3 _ (by omega) (by omega) (by omega) (by omega) (R1.below ((Below.refl _ _).alloc (Nat.le_refl _) _) (by omega)) ?_).mono ?_
    · intro i hi
      match i, hi with
      | 0, _ => exact ⟨0, by simp [go_sem], by omega, by omega⟩
      | 1, _ => exact ⟨1, by simp [go_sem], by omega, by omega⟩
      | 2, _ => exact ⟨31, by simp [go_sem], by omega, by omega⟩
    · rintro x w9 ⟨⟨z, rfl, hz⟩, R9, hd9⟩
      have hB9 : But rb w w9 := (hB1.next (by omega) ((Below.refl _ _).alloc (Nat.le_refl _) _)).trans hd9.but
      go_wp2_with fail
      go_ret
      exact ⟨⟨z, rfl, hz⟩, ⟨_, by omega, R9⟩, hB9⟩
  · obtain ⟨g, gc, rfl, hg, hgl, hcells⟩ := hv.out.get hl
    have hlen : 0 < (liveL os 2 n).length := List.length_pos_iff.mpr hl
    have hlen2 := liveL_le os 2 n
    have hgr : g ≠ rb := by simp at hg; omega
    have t0 : (((liveL os 2 n).length : Int) == 0) = false := by simp; omega
    have HC : Hid (∀ i, i < (liveL os 2 n).length → ∃ k, (liveL os 2 n)[i]? = some k ∧ w1.cell? { block := g, off := i } = some (Value.int IntKind.i64 (k : Nat))) := hcells
    clear hcells hv hg
    go_wp2_with fail
    refine (pick_rd rb p 12 _ (by omega) (by omega) (by omega) R1).mono ?_
    rintro e w2 ⟨⟨x, rfl, hx⟩, R2, hd2⟩
    have hB2 : But rb w w2 := hB1.trans hd2.but
    have hz2 : w1.heap.size = w2.heap.size := hd2.size.symm
    by_cases hx0 : x = 0
    · subst hx0
      go_wp2_with fail
      refine (num_any (fun z => 0 ≤ z ∧ z < 32) rb (p + 1) w2.heap.size 3 3 _ (by omega) (by omega) (by omega) (by omega) (R2.below ((Below.refl _ _).alloc (Nat.le_refl _) _) (by omega)) ?_).mono ?_
      · intro i hi
        match i, hi with
        | 0, _ => exact ⟨0, by simp [go_sem], by omega, by omega⟩
        | 1, _ => exact ⟨1, by simp [go_sem], by omega, by omega⟩
        | 2, _ => exact ⟨31, by simp [go_sem], by omega, by omega⟩
      · rintro x w9 ⟨⟨z, rfl, hz⟩, R9, hd9⟩
        have hB9 : But rb w w9 := (hB2.next (by omega) ((Below.refl _ _).alloc (Nat.le_refl _) _)).trans hd9.but
        go_wp2_with fail
        go_ret
        exact ⟨⟨z, rfl, hz⟩, ⟨_, by omega, R9⟩, hB9⟩
    · have t1 : ((x : Int) == 0) = false := by simp; omega
      go_wp2_with fail
      refine (pick_rd rb (p + 1) (liveL os 2 n).length _ (by omega) (by omega) (by omega) R2).mono ?_
      rintro e w3 ⟨⟨y, rfl, hy⟩, R3, hd3⟩
      obtain ⟨k, hk, hcell⟩ := HC.out y hy
      have hk32 : k < n := liveL_lt (List.mem_of_getElem? hk)
      have hc3 : w3.cell? ⟨g, y, none⟩ = some (.int .i64 (k : Int)) := by rw [hd3.cell (by simpa using hgr), hd2.cell (by simpa using hgr)]; exact hcell
      have hy' : (y : Int) < ((liveL os 2 n).length : Int) := by omega
      have hB3 : But rb w w3 := hB2.trans hd3.but
      clear hk hcell
      go_wp2_with fail
      go_ret
      exact ⟨⟨k, rfl, by omega, by omega⟩, ⟨_, by omega, R3⟩, hB3⟩

set_option maxHeartbeats 1000000 in
set_option maxRecDepth 20000 in
theorem any_any (rb p : Nat) (a : Option Addr) (n c : Nat) (os : List LObj) (L U : Nat) (w : World) (hp : p ≤ 999990) (hn : n ≤ 32) (hU : U ≤ w.heap.size) (H : ObjsAt w L U a n os) (R : RdAt w rb p) :
    Calls Try.prog 90 #[.pointer (some ⟨rb, 0, none⟩), .agg #[.slice a n c]] w fun e w' => NumEnd (fun z => -1 ≤ z ∧ z ≤ 32) e ∧ RdTo w' rb (p + 2) ∧ But rb w w' := by
  have hrl := R.lt
  go_enter Try.func90, Try.ntmps90
  go_wp2_with fail
  have hA : Below w.heap.size w (w.alloc (Obj.cells #[.slice a n c] 25)) := (Below.refl _ _).alloc (Nat.le_refl _) _
  refine (live_any a n c os L U 0 _ (by omega) (by simp; omega) (H.below hA hU)).mono ?_
  rintro x w1 ⟨⟨v, rfl, hv⟩, hb1⟩
  have hB1 : But rb w w1 := But.of_below hrl (hA.trans (hb1.mono (by simp)))
  have R1 : RdAt w1 rb p := R.below (hA.trans (hb1.mono (by simp))) hrl
  have hz1 : w.heap.size + 1 ≤ w1.heap.size := by simpa using hb1.size
  clear hA hb1 R
  by_cases hl : liveL os 0 n = []
  · have hv' := hv.out
    rw [hl] at hv'
    obtain ⟨ga, gc, rfl⟩ := hv'.nil
    clear hv'
    go_wp2_with fail
    refine (num_any (fun z => -1 ≤ z ∧ z ≤ 32) rb p w1.heap.size 6 6 _ (by omega) (by omega) (by omega) (by omega) (R1.below ((Below.refl _ _).alloc (Nat.le_refl _) _) (by omega)) ?_).mono ?_
    · intro i hi
      match i, hi with
      | 0, _ => exact ⟨-1, by simp [go_sem], by omega, by omega⟩
      | 1, _ => exact ⟨0, by simp [go_sem], by omega, by omega⟩
      | 2, _ => exact ⟨1, by simp [go_sem], by omega, by omega⟩
      | 3, _ => exact ⟨5, by simp [go_sem], by omega, by omega⟩
      | 4, _ => exact ⟨31, by simp [go_sem], by omega, by omega⟩
      | 5, _ => exact ⟨32, by simp [go_sem], by omega, by omega⟩
    · rintro x w9 ⟨⟨z, rfl, hz⟩, R9, hd9⟩
      have hB9 : But rb w w9 := (hB1.next (by omega) ((Below.refl _ _).alloc (Nat.le_refl _) _)).trans hd9.but
      go_wp2_with fail
      go_ret
      exact ⟨⟨z, rfl, hz⟩, ⟨_, by omega, R9⟩, hB9⟩
  · obtain ⟨g, gc, rfl, hg, hgl, hcells⟩ := hv.out.get hl
    have hlen : 0 < (liveL os 0 n).length := List.length_pos_iff.mpr hl
    have hlen2 := liveL_le os 0 n
    have hgr : g ≠ rb := by simp at hg; omega
    have t0 : (((liveL os 0 n).length : Int) == 0) = false := by simp; omega
    have HC : Hid (∀ i, i < (liveL os 0 n).length → ∃ k, (liveL os 0 n)[i]? = some k ∧ w1.cell? { block := g, off := i } = some (Value.int IntKind.i64 (k : Nat))) := hcells
    clear hcells hv hg
    go_wp2_with fail
    refine (pick_rd rb p 6 _ (by omega) (by omega) (by omega) R1).mono ?_
    rintro e w2 ⟨⟨x, rfl, hx⟩, R2, hd2⟩
    have hB2 : But rb w w2 := hB1.trans hd2.but
    have hz2 : w1.heap.size = w2.heap.size := hd2.size.symm
    by_cases hx0 : x = 0
    · subst hx0
      go_wp2_with fail
      refine (num_any (fun z => -1 ≤ z ∧ z ≤ 32) rb (p + 1) w2.heap.size 6 6 _ (by omega) (by omega) (by omega) (by omega) (R2.below ((Below.refl _ _).alloc (Nat.le_refl _) _) (by omega)) ?_).mono ?_
      · intro i hi
        match i, hi with
        | 0, _ => exact ⟨-1, by simp [go_sem], by omega, by omega⟩
        | 1, _ => exact ⟨0, by simp [go_sem], by omega, by omega⟩
        | 2, _ => exact ⟨1, by simp [go_sem], by omega, by omega⟩
        | 3, _ => exact ⟨5, by simp [go_sem], by omega, by omega⟩
        | 4, _ => exact ⟨31, by simp [go_sem], by omega, by omega⟩
        | 5, _ => exact ⟨32, by simp [go_sem], by omega, by omega⟩
      · rintro x w9 ⟨⟨z, rfl, hz⟩, R9, hd9⟩
        have hB9 : But rb w w9 := (hB2.next (by omega) ((Below.refl _ _).alloc (Nat.le_refl _) _)).trans hd9.but
        go_wp2_with fail
        go_ret
        exact ⟨⟨z, rfl, hz⟩, ⟨_, by omega, R9⟩, hB9⟩
    · have t1 : ((x : Int) == 0) = false := by simp; omega
      go_wp2_with fail
      refine (pick_rd rb (p + 1) (liveL os 0 n).length _ (by omega) (by omega) (by omega) R2).mono ?_
      rintro e w3 ⟨⟨y, rfl, hy⟩, R3, hd3⟩
      obtain ⟨k, hk, hcell⟩ := HC.out y hy
      have hk32 : k < n := liveL_lt (List.mem_of_getElem? hk)
      have hc3 : w3.cell? ⟨g, y, none⟩ = some (.int .i64 (k : Int)) := by rw [hd3.cell (by simpa using hgr), hd2.cell (by simpa using hgr)]; exact hcell
      have hy' : (y : Int) < ((liveL os 0 n).length : Int) := by omega
      have hB3 : But rb w w3 := hB2.trans hd3.but
      clear hk hcell
      go_wp2_with fail
      go_ret
      exact ⟨⟨k, rfl, by omega, by omega⟩, ⟨_, by omega, R3⟩, hB3⟩

end Go.Proofs.Ytjenldenggaljaa
