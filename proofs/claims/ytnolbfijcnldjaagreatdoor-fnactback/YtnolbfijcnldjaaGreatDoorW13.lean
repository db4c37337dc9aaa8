/- Lemmas that the proofs of this seat share: DrawnB, SlimF, SlimS, SlimS2, SlimS3, SlimS4, SlimS5, SlimI, SlimI2, SlimI3, SlimI4, SlimI5, SlimI6, SlimI7, SlimI8, SlimI9, SlimI10, SlimI11. -/
import Derived.Test.YtnolbfijcnldjaaGreatDoorW12
import Derived.Test.YtnolbfijcnldjaaGreatDoorW11
import Derived.Deep.QuietTactic
import Derived.BigQuiet
import Derived.Deep.Upon
import Derived.Deep.DeepCutAuto
import Derived.Deep.RegionHeld
import Derived.OrdersHeld
import Derived.BigRegion
/- A tree as it is drawn, one in ten bent: its Vers are few, or as many as can be. -/
namespace Go.Proofs.YtnolbfijcnldjaaGreatDoor
open Go.RowKit

/-- Few turns, few names, short names and texts; a Ver may be just out of bounds. -/
def Bn2 (os : List LObj) : Prop := ∀ o ∈ os, (-1 ≤ o.ver ∧ (o.ver ≤ 1000 ∨ 1000000 ≤ o.ver)) ∧ o.ver ≤ 1000001 ∧ o.text.size ≤ 4 ∧ o.kids.length ≤ 1000 ∧ ∀ e ∈ o.kids, e.name.size ≤ 4
theorem Sm.bn2 {os : List LObj} {K : Nat} (h : Sm os K) (hK : K ≤ 1000) : Bn2 os := fun o ho => by
  obtain ⟨h1, h2, h3, h4, h5⟩ := h o ho
  exact ⟨by omega, by omega, h3, by omega, h5⟩
theorem Bn2.set {os : List LObj} (h : Bn2 os) (i : Nat) {y : LObj} (hy : (-1 ≤ y.ver ∧ (y.ver ≤ 1000 ∨ 1000000 ≤ y.ver)) ∧ y.ver ≤ 1000001 ∧ y.text.size ≤ 4 ∧ y.kids.length ≤ 1000 ∧ ∀ e ∈ y.kids, e.name.size ≤ 4) : Bn2 (os.set i y) := fun x hx => by
  rcases List.mem_or_eq_of_mem_set hx with h1 | rfl
  · exact h x h1
  · exact hy
theorem Bn2.take {os : List LObj} (h : Bn2 os) (k : Nat) : Bn2 (os.take k) := fun x hx => h x (List.mem_of_mem_take hx)
theorem Bn2.sizes {os : List LObj} (h : Bn2 os) : Sizes os 1048576 := fun o ho => by
  have := (h o ho).2.2.2.1; omega
theorem Bn2.at {os : List LObj} {i : Nat} {o : LObj} (h : Bn2 os) (ho : os[i]? = some o) : (-1 ≤ o.ver ∧ (o.ver ≤ 1000 ∨ 1000000 ≤ o.ver)) ∧ o.ver ≤ 1000001 ∧ o.text.size ≤ 4 ∧ o.kids.length ≤ 1000 ∧ ∀ e ∈ o.kids, e.name.size ≤ 4 := h o (List.mem_of_getElem? ho)
/-- A tree of one's own, as it was drawn, one in ten bent. -/
def BentEnd2 (w : World) (rb P : Nat) (e : Ending) (w' : World) : Prop :=
  ∃ b n c os vs, e = .returned (.agg #[.slice (some ⟨b, 0, none⟩) n c]) ∧ n = os.length ∧ n ≤ 32 ∧ OwnT w' w.heap.size b c os vs ∧ Bn2 os ∧ RdTo w' rb P ∧ But rb w w'

/-- In the midst of bending. -/
structure BSt2 (w W : World) (rb P A T b n c : Nat) (os : List LObj) (vs : Nat → Value) : Prop where
  but : But rb w W
  rd : RdTo W rb P
  lt : A < T
  size : T < W.heap.size
  t : W.cell? ⟨T, 0, none⟩ = some (.slice (some ⟨b, 0, none⟩) n c)
  tb : ∃ f, W.rowIs T 25 1 f
  rx : ∃ f, W.rowIs A 25 1 f
  tree : OwnT W (A + 1) b c os vs
  len : n = os.length
  le : n ≤ 32
  bn : Bn2 os
theorem BSt2.next {w W W' : World} {rb P P' A T b n c : Nat} {os : List LObj} {vs : Nat → Value} (h : BSt2 w W rb P A T b n c os vs) (hrA : rb < A) (hb : But rb W W') (hr : RdTo W' rb P') : BSt2 w W' rb P' A T b n c os vs := by
  obtain ⟨f, hf⟩ := h.tb
  obtain ⟨f', hf'⟩ := h.rx
  have hs := h.size
  have hl := h.lt
  exact ⟨h.but.trans hb, hr, hl, by have := hb.below.size; omega, by rw [hb.cell (by simp; omega) (by simpa using hs)]; exact h.t, ⟨f, hf.of_block (hb.block _ (by omega) hf.lt)⟩, ⟨f', hf'.of_block (hb.block _ (by omega) hf'.lt)⟩, h.tree.but hb (by omega), h.len, h.le, h.bn⟩
theorem BSt2.more {w W W' : World} {rb P A T b n c : Nat} {os : List LObj} {vs : Nat → Value} (h : BSt2 w W rb P A T b n c os vs) (hrA : rb < A) (hb : Below W.heap.size W W') : BSt2 w W' rb P A T b n c os vs :=
  h.next hrA (But.of_below (by have := h.size; have := h.lt; omega) hb) (h.rd.but hb (by have := h.size; have := h.lt; omega))
theorem BSt2.ne {w W : World} {rb P A T b n c : Nat} {os : List LObj} {vs : Nat → Value} (h : BSt2 w W rb P A T b n c os vs) : b ≠ T ∧ b ≠ A := by
  refine ⟨fun e => ?_, by have := h.tree.lo; omega⟩
  subst e
  obtain ⟨f, cs, h1, _⟩ := h.tb
  obtain ⟨cur, h2, _⟩ := h.tree.row
  rw [h1] at h2
  simp at h2
/-- A change of the tree's own row. -/
theorem BSt2.set {w W : World} {rb P A T b n c : Nat} {os os' : List LObj} {vs vs' : Nat → Value} (h : BSt2 w W rb P A T b n c os vs) (hA : w.heap.size ≤ A) (hrA : rb < A) (q : Nat) (v : Value) (hT : OwnT (W.setCell ⟨b, q, none⟩ v) (A + 1) b c os' vs') (hl : os'.length = os.length) (hb : Bn2 os') : BSt2 w (W.setCell ⟨b, q, none⟩ v) rb P A T b n c os' vs' := by
  obtain ⟨f, hf⟩ := h.tb
  obtain ⟨f', hf'⟩ := h.rx
  obtain ⟨p, hp, R⟩ := h.rd
  obtain ⟨n1, n2⟩ := h.ne
  have hlo := h.tree.lo
  have hB : Below (A + 1) W (W.setCell ⟨b, q, none⟩ v) := (Below.refl _ _).setCell (by simpa using hlo) _
  exact ⟨⟨h.but.below.trans (hB.mono (by omega)), fun k hk hlt => (hB.block k (by omega)).trans (h.but.block k hk hlt)⟩, ⟨p, hp, R.below hB (by omega)⟩, h.lt, by simpa using h.size, by rw [World.cell?_setCell_other _ _ _ _ (fun e => n1 (by simpa using congrArg Addr.block e))]; exact h.t, ⟨f, hf.of_block (Below.heap_setCell W ⟨b, q, none⟩ v T (by simp; omega))⟩, ⟨f', hf'.of_block (Below.heap_setCell W ⟨b, q, none⟩ v A (by simp; omega))⟩, hT, by rw [hl]; exact h.len, h.le, hb⟩
/-- The tree is cut. -/
theorem BSt2.cut {w W : World} {rb P A T b n c : Nat} {os : List LObj} {vs : Nat → Value} (h : BSt2 w W rb P A T b n c os vs) (hA : w.heap.size ≤ A) (hrA : rb < A) (k : Nat) (hk : k ≤ n) : BSt2 w (W.setCell ⟨T, 0, none⟩ (.slice (some ⟨b, 0, none⟩) k c)) rb P A T b k c (os.take k) vs := by
  obtain ⟨f, hf⟩ := h.tb
  obtain ⟨f', hf'⟩ := h.rx
  obtain ⟨p, hp, R⟩ := h.rd
  have hlt := h.lt
  have hB : Below (A + 1) W (W.setCell ⟨T, 0, none⟩ (.slice (some ⟨b, 0, none⟩) k c)) := (Below.refl _ _).setCell (by simp; omega) _
  exact ⟨⟨h.but.below.trans (hB.mono (by omega)), fun k hk hlt => (hB.block k (by omega)).trans (h.but.block k hk hlt)⟩, ⟨p, hp, R.below hB (by omega)⟩, h.lt, by simpa using h.size, World.cell?_setCell_same _ _ _ h.t, ⟨_, hf.set 0 _⟩, ⟨f', hf'.of_block (Below.heap_setCell W ⟨T, 0, none⟩ _ A (by simp; omega))⟩, (h.tree.setBox ⟨f, hf⟩ 0 _).take k, by have := h.len; simp; omega, by have := h.le; omega, h.bn.take k⟩
theorem BSt2.fin {w W : World} {rb P P' A T b n c : Nat} {os : List LObj} {vs : Nat → Value} (h : BSt2 w W rb P A T b n c os vs) (hA : w.heap.size = A) (hrA : rb < A) (hP : P ≤ P') (v : Value) : BentEnd2 w rb P' (.returned (.agg #[.slice (some ⟨b, 0, none⟩) n c])) (W.setCell ⟨A, 0, none⟩ v) := by
  obtain ⟨f', hf'⟩ := h.rx
  obtain ⟨p, hp, R⟩ := h.rd
  have hB : Below A W (W.setCell ⟨A, 0, none⟩ v) := (Below.refl _ _).setCell (by simp) _
  exact ⟨b, n, c, os, vs, rfl, h.len, h.le, (h.tree.setBox ⟨f', hf'⟩ 0 v).base (by omega), h.bn, ⟨p, by omega, R.below hB hrA⟩, ⟨h.but.below.trans (hB.mono (by omega)), fun k hk hlt => (hB.block k (by omega)).trans (h.but.block k hk hlt)⟩⟩
theorem BSt2.box {w W : World} {rb P A T b n c : Nat} {os : List LObj} {vs : Nat → Value} (h : BSt2 w W rb P A T b n c os vs) : (∃ x, W.cell? ⟨A, 0, none⟩ = some x) ∧ W.frozen? ⟨A, 0, none⟩ = false ∧ W.frozen? ⟨T, 0, none⟩ = false ∧ A < W.heap.size := by
  obtain ⟨f', hf'⟩ := h.rx
  obtain ⟨f, hf⟩ := h.tb
  exact ⟨⟨_, hf'.cell (by omega)⟩, hf'.frozen 0, hf.frozen 0, hf'.lt⟩
/-- A name more, ahead of its store, and behind it. -/
theorem BSt2.kids {w W W' : World} {rb P A T b n c k : Nat} {os : List LObj} {vs : Nat → Value} {x : LObj} {y : LEnt} {v : Value} (h : BSt2 w W rb P A T b n c os vs) (hA : w.heap.size ≤ A) (hrA : rb < A) (hx : os[k]? = some x) (hy : y.name.size ≤ 4) (hE : AppKEnd W W' (A + 1) (vs k) v (x.kids ++ [y])) (hb : x.kids.length < 1000) :
    W'.cell? ⟨T, 0, none⟩ = some (.slice (some ⟨b, 0, none⟩) n c) ∧ W'.cell? ⟨b, k * 4 + 3, none⟩ = some (vs k) ∧ W'.frozen? ⟨b, k * 4 + 3, none⟩ = false ∧ b < W'.heap.size ∧
      BSt2 w (W'.setCell ⟨b, k * 4 + 3, none⟩ v) rb P A T b n c (os.set k { x with kids := x.kids ++ [y] }) (fun j => if j = k then v else vs j) := by
  obtain ⟨f, hf⟩ := h.tb
  obtain ⟨f', hf'⟩ := h.rx
  obtain ⟨p, hp, R⟩ := h.rd
  obtain ⟨n1, n2⟩ := h.ne
  have hlo := h.tree.lo
  obtain ⟨a1, a2, a3, a4, a5, a6, a7⟩ := h.tree.at_ k x hx
  have hs := h.size
  have hlt := h.lt
  have hT0 : (vs k).ownBlock ≠ some T := a6.nebox hf
  have hb0 : (vs k).ownBlock ≠ some b := h.tree.kids_ne a6
  have hBg : Below (A + 1) W W' := below_grown (Below.refl _ _) hE.grown (fun q hq => (a6.lt q hq).1) (by omega)
  have eT : W'.heap[T]? = W.heap[T]? := hE.grown.block T hs (fun e => hT0 e.symm)
  have eb : W'.heap[b]? = W.heap[b]? := hE.grown.block b h.tree.lt (fun e => hb0 e.symm)
  have cT : W'.cell? ⟨T, 0, none⟩ = some (.slice (some ⟨b, 0, none⟩) n c) := by rw [World.cell?_of_block (w := W) eT]; exact h.t
  have hB : Below (A + 1) W (W'.setCell ⟨b, k * 4 + 3, none⟩ v) := hBg.setCell (by simpa using hlo) _
  have hOT := h.tree.putKids hx hE.grown (.inr rfl) hE.own (fun e he => by
    rcases List.mem_append.1 he with h1 | h1
    · exact a7 e h1
    · rw [List.mem_singleton.1 h1]; exact le_maxLen4 hy) (fun g hg => by
    rcases hE.at_ with h1 | h1
    · left; rw [← h1]; exact hg
    · right; rw [h1] at hg; simp at hg; omega)
  obtain ⟨b1, b2, b3, b4, b5⟩ := h.bn.at hx
  refine ⟨cT, by rw [World.cell?_of_block (w := W) eb]; exact a5, by rw [World.frozen?_of_block (w := W) eb]; exact h.tree.frozen _, by have := hE.grown.size; have := h.tree.lt; omega, ⟨⟨h.but.below.trans (hB.mono (by omega)), fun k hk hlt => (hB.block k (by omega)).trans (h.but.block k hk hlt)⟩, ⟨p, hp, R.below hB (by omega)⟩, hlt, by have := hE.grown.size; simp; omega, by rw [World.cell?_setCell_other _ _ _ _ (fun e => n1 (by simpa using congrArg Addr.block e))]; exact cT, ⟨f, (hf.of_block eT).of_block (Below.heap_setCell W' ⟨b, k * 4 + 3, none⟩ v T (by simp; omega))⟩, ⟨f', hf'.of_block (hB.block A (by omega))⟩, hOT, by simpa using h.len, h.le, h.bn.set k ⟨b1, b2, b3, by simp; omega, fun e he => ?_⟩⟩⟩
  rcases List.mem_append.1 he with h1 | h1
  · exact b5 e h1
  · rw [List.mem_singleton.1 h1]; exact hy

set_option maxHeartbeats 4000000 in
set_option maxRecDepth 20000 in
theorem bent_any2 (rb p : Nat) (w : World) (hp : p ≤ 980000) (hrw : rb < w.heap.size) (R : RdTo w rb p) :
    Calls Tryz.prog 61 #[.pointer (some ⟨rb, 0, none⟩)] w fun e w' => BentEnd2 w rb (p + 160) e w' := by
  go_enter Tryz.func61, Tryz.ntmps61
  go_wp2_with fail
  refine (tree_any rb p _ (by omega) (by simp; omega) (R.but ((Below.refl _ _).alloc (Nat.le_refl _) _) hrw)).mono ?_
  rintro e W1 ⟨b, c, os, vs, rfl, hT, hl, hs, hr, hb⟩
  have hz1 : w.heap.size < W1.heap.size := by have := hb.below.size; simp at this; omega
  have S1 : BSt2 w (W1.alloc (Obj.cells #[.slice (some ⟨b, 0, none⟩) 32 c] 25)) rb (p + 150) w.heap.size W1.heap.size b 32 c os vs := by
    have hA : But rb w W1 := (But.of_below hrw ((Below.refl _ _).alloc (Nat.le_refl _) _)).trans hb
    have hA2 : Below W1.heap.size W1 (W1.alloc (Obj.cells #[.slice (some ⟨b, 0, none⟩) 32 c] 25)) := (Below.refl _ _).alloc (Nat.le_refl _) _
    exact ⟨hA.trans (But.of_below (by omega) hA2), hr.but hA2 (by omega), hz1, by simp, by simp [go_sem], ⟨_, row1 W1 _ 25⟩, ⟨_, ((row1 w _ 25).of_block (hb.block _ (by omega) (by simp))).of_block (hA2.block _ hz1)⟩, (by have h9 := hT.below hA2; simpa using h9), hl.symm, Nat.le_refl _, hs.bn2 (by omega)⟩
  clear hT hr hb R
  go_wp2_with fail
  generalize hTq : W1.heap.size = T at *
  generalize hW1 : W1.alloc (Obj.cells #[.slice (some ⟨b, 0, none⟩) 32 c] 25) = W2 at *
  clear hW1 hTq
  refine (pick_to rb (p + 150) 32 _ (by omega) (by omega) (by omega) S1.rd).mono ?_
  rintro e W3 ⟨⟨k, rfl, hk⟩, hr3, hb3⟩
  have S3 := S1.next hrw hb3 hr3
  clear S1 hr3 hb3 hz1
  go_wp2_with fail
  refine (pick_to rb (p + 150 + 1) 40 _ (by omega) (by omega) (by omega) S3.rd).mono ?_
  rintro e W4 ⟨⟨y, rfl, hy⟩, hr4, hb4⟩
  have S4 := S3.next hrw hb4 hr4
  clear S3 hr4 hb4
  have hz4 := S4.size
  have hz5 := S4.lt
  have q4 := S4.t
  obtain ⟨⟨rv4, hr4⟩, hr5, hr6, hz6⟩ := S4.box
  obtain ⟨x, hx⟩ : ∃ x, os[k]? = some x := ⟨os[k]'(by omega), by simp⟩
  obtain ⟨xs, x1, x2, x3, x4, x5, x6⟩ := S4.tree.at_ k x hx
  have hbl := S4.tree.lt
  have z2 := S4.tree.frozen (k * 4 + 1)
  have HX : Hid (os[k]? = some x) := hx
  have HB : Hid ((-1 ≤ x.ver ∧ (x.ver ≤ 1000 ∨ 1000000 ≤ x.ver)) ∧ x.ver ≤ 1000001 ∧ x.text.size ≤ 4 ∧ x.kids.length ≤ 1000 ∧ ∀ e ∈ x.kids, e.name.size ≤ 4) := S4.bn.at hx
  have hkI : (k : Int) < 32 := by omega
  obtain ⟨nT, nA⟩ := S4.ne
  have HKL : Hid (x.kids.length ≤ 60) := (hs x (List.mem_of_getElem? hx)).2.2.2.1
  clear hx x5 x6 hs
  by_cases y4 : y = 4
  · subst y4
    clear x1 x3 x4
    by_cases hv : 0 < x.ver
    · go_upto_region 15 with fail
      have S6 := S4.set (Nat.le_refl _) hrw (k * 4 + 1) (.int .i64 1000000) (S4.tree.setVer HX.out 1000000) (by simp) (S4.bn.set k ⟨⟨by show (-1 : Int) ≤ 1000000; omega, .inr (by show (1000000 : Int) ≤ 1000000; omega)⟩, by show (1000000 : Int) ≤ 1000001; omega, HB.out.2.2.1, HB.out.2.2.2.1, HB.out.2.2.2.2⟩)
      have q6 := S6.t
      obtain ⟨⟨rv, hr0⟩, hr1, hr2, hz8⟩ := S6.box
      have hz7 := S6.size
      generalize hW6 : W4.setCell ⟨b, k * 4 + 1, none⟩ (.int .i64 1000000) = W6 at *
      clear hW6
      go_wp2_with fail
      refine bodyPost_ret (v := .agg #[.slice (some ⟨b, 0, none⟩) 32 c]) (by rw [results, Tryz.results61]; simp [go_sem, World.cell?_setCell_same _ _ _ hr0]) rfl ?_
      exact S6.fin rfl hrw (by omega) _
    · go_wp2_with fail
      refine bodyPost_ret (v := .agg #[.slice (some ⟨b, 0, none⟩) 32 c]) (by rw [results, Tryz.results61]; simp [go_sem, World.cell?_setCell_same _ _ _ hr4]) rfl ?_
      exact S4.fin rfl hrw (by omega) _
  by_cases y0 : y = 0
  · subst y0
    clear x1 x2 x3 x4 y4
    have hkc : k ≤ c := by
      obtain ⟨cur, _, _, h3, _⟩ := S4.tree.row
      omega
    have hkc' : (k : Int) ≤ (c : Int) := by omega
    go_upto_region 15 with fail
    have S6 := S4.cut (Nat.le_refl _) hrw k (by omega)
    have q6 := S6.t
    obtain ⟨⟨rv, hr0⟩, hr1, hr2, hz8⟩ := S6.box
    have hz7 := S6.size
    generalize hW6 : W4.setCell ⟨T, 0, none⟩ (.slice (some ⟨b, 0, none⟩) k c) = W6 at *
    clear hW6
    go_wp2_with fail
    refine bodyPost_ret (v := .agg #[.slice (some ⟨b, 0, none⟩) k c]) (by rw [results, Tryz.results61]; simp [go_sem, World.cell?_setCell_same _ _ _ hr0]) rfl ?_
    exact S6.fin rfl hrw (by omega) _
  by_cases y1 : y = 1
  · subst y1
    clear x1 x3 x4 y4 y0
    go_upto_region 10 with fail
    go_region_held3 (fun w' => w'.cell? ⟨T, 0, none⟩ = some (.slice (some ⟨b, 0, none⟩) 32 c)) (first | go_keep | exact SB.t | (rw [World.cell?_setCell_other _ _ _ _ (by simp [nT])]; exact SB.t))
      (first
        | (go_at_call 87; refine (num_to (fun z => (-1 ≤ z ∧ (z ≤ 1000 ∨ 1000000 ≤ z)) ∧ z ≤ 1000001) rb (p + 150 + 1 + 1) _ 3 3 _ (by omega) (by omega) (by omega) (by first | omega | (simp; omega)) (S4.more hrw (by repeat (first | with_reducible exact Below.refl _ _ | refine Below.drew ?_ | refine Below.alloc ?_ (by first | omega | (simp <;> omega)) _))).rd (by intro i hi; match i, hi with | 0, _ => exact ⟨-1, by simp [go_sem], by omega, by omega⟩ | 1, _ => exact ⟨1000001, by simp [go_sem], by omega, by omega⟩ | 2, _ => exact ⟨0, by simp [go_sem], by omega, by omega⟩)).mono ?_; rintro e wB ⟨⟨z, rfl, hz⟩, hrB, hbB⟩; have SB := (S4.more hrw (by repeat (first | with_reducible exact Below.refl _ _ | refine Below.drew ?_ | refine Below.alloc ?_ (by first | omega | (simp <;> omega)) _))).next hrw hbB hrB; obtain ⟨_, _, y2, _⟩ := SB.tree.at_ k x HX.out; have zB := SB.tree.frozen (k * 4 + 1); have hlB := SB.tree.lt))
    all_goals
      go_upto_region 15 with fail
      have S6 := SB.set (Nat.le_refl _) hrw (k * 4 + 1) (.int .i64 z) (SB.tree.setVer HX.out z) (by simp) (SB.bn.set k ⟨by show -1 ≤ z ∧ (z ≤ 1000 ∨ 1000000 ≤ z); exact hz.1, by show z ≤ 1000001; omega, HB.out.2.2.1, HB.out.2.2.2.1, HB.out.2.2.2.2⟩)
      have q6 := S6.t
      obtain ⟨⟨rv, hr0⟩, hr1, hr2, hz8⟩ := S6.box
      have hz7 := S6.size
      generalize hW6 : wB.setCell ⟨b, k * 4 + 1, none⟩ (.int .i64 z) = W6 at *
      clear hW6
      go_wp2_with fail
      refine bodyPost_ret (v := .agg #[.slice (some ⟨b, 0, none⟩) 32 c]) (by rw [results, Tryz.results61]; simp [go_sem, World.cell?_setCell_same _ _ _ hr0]) rfl ?_
      exact S6.fin rfl hrw (by omega) _
  by_cases y2 : y = 2
  · subst y2
    clear x1 x2 x3 y4 y0 y1
    go_upto_region 12 with fail
    refine wp_region_held_drew (S := fun w' => w'.cell? ⟨T, 0, none⟩ = some (.slice (some ⟨b, 0, none⟩) 32 c)) (by kernel_rfl) ?_ (fun hHeld => ?_)
    · exact q4
    refine wpAnyH_take (i := 0) (oi := _) (v := ?va0) rfl (by kernel_rfl) (by kernel_rfl) (by kernel_rfl) (fun _ _ _ h => h) (Or.inl ⟨by rfl, ?ya0⟩) (by assumption) ?ra0
    case ya0 => (intro w' hSw; (try dsimp only at hSw); go_simp; try with_reducible rfl)
    try simp only [Act.put]
    refine wpAnyH_take (i := 1) (oi := _) (v := ?va1) rfl (by kernel_rfl) (by kernel_rfl) (by kernel_rfl) (fun _ _ _ h => h) (Or.inl ⟨by rfl, ?ya1⟩) (by assumption) ?ra1
    case ya1 => (intro w' hSw; (try dsimp only at hSw); go_simp; try with_reducible rfl)
    try simp only [Act.put]
    refine wpAnyH_take (i := 2) (oi := _) (v := ?va2) rfl (by kernel_rfl) (by kernel_rfl) (by kernel_rfl) (fun _ _ _ h => h) (Or.inl ⟨by rfl, ?ya2⟩) (by assumption) ?ra2
    case ya2 => (intro w' hSw; (try dsimp only at hSw); go_simp; try with_reducible rfl)
    try simp only [Act.put]
    refine wpAnyH_take (i := 3) (oi := _) (v := ?va3) rfl (by kernel_rfl) (by kernel_rfl) (by kernel_rfl) (fun _ _ _ h => h) (Or.inl ⟨by rfl, ?ya3⟩) (by assumption) ?ra3
    case ya3 => (intro w' hSw; (try dsimp only at hSw); go_simp; try with_reducible rfl)
    try simp only [Act.put]
    refine wpAnyH_take (i := 4) (oi := _) (v := ?va4) rfl (by kernel_rfl) (by kernel_rfl) (by kernel_rfl) (fun _ _ _ h => h) (Or.inl ⟨by rfl, ?ya4⟩) (by assumption) ?ra4
    case ya4 => (intro w' hSw; (try dsimp only at hSw); go_simp; try with_reducible rfl)
    try simp only [Act.put]
    refine wpAnyH_take (i := 5) (oi := _) (v := ?va5) rfl (by kernel_rfl) (by kernel_rfl) (by kernel_rfl) (fun _ _ _ h => h) (Or.inl ⟨by rfl, ?ya5⟩) (by assumption) ?ra5
    case ya5 => (intro w' hSw; (try dsimp only at hSw); go_simp; try with_reducible rfl)
    try simp only [Act.put]
    refine wpAnyH_take (i := 6) (oi := _) (v := ?va6) rfl (by kernel_rfl) (by kernel_rfl) (by kernel_rfl) (fun _ _ _ h => h) (Or.inl ⟨by rfl, ?ya6⟩) (by assumption) ?ra6
    case ya6 => (intro w' hSw; (try dsimp only at hSw); go_simp; try with_reducible rfl)
    try simp only [Act.put]
    refine wpAnyH_take (i := 7) (oi := _) (v := ?va7) rfl (by kernel_rfl) (by kernel_rfl) (by kernel_rfl) (fun _ _ _ h => h) (Or.inl ⟨by rfl, ?ya7⟩) (by assumption) ?ra7
    case ya7 => (intro w' hSw; (try dsimp only at hSw); go_simp; try with_reducible rfl)
    try simp only [Act.put]
    refine wpAnyH_take (i := 9) (oi := _) (v := ?va9) rfl (by kernel_rfl) (by kernel_rfl) (by kernel_rfl) (fun _ _ _ h => h) (Or.inl ⟨by rfl, ?ya9⟩) (by assumption) ?ra9
    case ya9 => (intro w' hSw; (try dsimp only at hSw); go_simp; try with_reducible rfl)
    try simp only [Act.put]
    refine wpAnyH_ready (rs := [8, 10]) (by kernel_rfl) (by simp) ?_
    refine AllReadyH.cons (o := _) rfl (fun K hK => ?_) (AllReadyH.cons (o := _) rfl (fun K hK => ?_) AllReadyH.nil)
    · go_simp
      refine hK.out _ _ ?_ (fun hHeld => ?_)
      · first | exact q4 | exact SB.t | exact SC.t
      clear hK K
      try simp only [Act.put]
      refine wpAnyH_ready (rs := [10]) (by kernel_rfl) (by simp) ?_
      refine AllReadyH.cons (o := _) rfl (fun K hK => ?_) AllReadyH.nil
      go_simp
      go_at_call 60
      refine (pick_to rb (p + 150 + 1 + 1) 5 _ (by omega) (by omega) (by omega) (S4.more hrw (by repeat (first | with_reducible exact Below.refl _ _ | refine Below.drew ?_ | refine Below.alloc ?_ (by first | omega | (simp <;> omega)) _))).rd).mono ?_
      rintro e wB ⟨⟨z, rfl, hz⟩, hrB, hbB⟩
      have SB := (S4.more hrw (by repeat (first | with_reducible exact Below.refl _ _ | refine Below.drew ?_ | refine Below.alloc ?_ (by first | omega | (simp <;> omega)) _))).next hrw hbB hrB
      have szB := SB.size
      obtain ⟨yt, _, _, _, y4, y5, y6⟩ := SB.tree.at_ k x HX.out
      have hbB1 := SB.tree.lt
      go_wp2_with fail
      refine hK.out _ _ ?_ (fun hHeld => ?_)
      · exact SB.t
      clear hK K
      try simp only [Act.put]
      refine wpAnyH_take (i := 11) (oi := _) (v := ?vb11) rfl (by kernel_rfl) (by kernel_rfl) (by kernel_rfl) (fun _ _ _ h => h) (Or.inl ⟨by rfl, ?yb11⟩) (by assumption) ?rb11
      case yb11 => (intro w' hSw; (try dsimp only at hSw); go_simp; try with_reducible rfl)
      try simp only [Act.put]
      refine wpAnyH_ready (rs := [12]) (by kernel_rfl) (by simp) ?_
      refine AllReadyH.cons (o := _) rfl (fun K hK => ?_) AllReadyH.nil
      go_simp
      have SC := SB.more hrw (W' := wB.alloc (Obj.cells #[.string ⟨#[122, 122]⟩, .int .i64 z] 53)) ((Below.refl _ _).alloc (Nat.le_refl _) _)
      obtain ⟨_, _, _, _, c4, c5, _⟩ := SC.tree.at_ k x HX.out
      have hbC := SC.tree.lt
      have szC := SC.size
      refine hK.out _ _ ?_ (fun hHeld => ?_)
      · exact SC.t
      clear hK K
      try simp only [Act.put]
      refine wpAnyH_ready (rs := [13]) (by kernel_rfl) (by simp) ?_
      refine AllReadyH.cons (o := _) rfl (fun K hK => ?_) AllReadyH.nil
      refine step_app_kids _ rfl (.tmp 52) (.tmp 56) rfl (w.heap.size + 1) (vs k) x.kids [⟨⟨#[122, 122]⟩, z⟩] c5 ⟨wB.heap.size, 0, none⟩ 1 1 rfl (by simp [Act.eval]) (by simp [Act.eval]) (fun i u hu => two_at hu) (by have := HB.out.2.2.2.1; omega) (by omega) ?_
      intro v6 w6 hE
      obtain ⟨av, cv, hv6⟩ := hE.own.shape
      generalize hln : (x.kids ++ [(⟨⟨#[122, 122]⟩, (z : Int)⟩ : LEnt)]).length = ln at hv6
      subst hv6
      obtain ⟨d1, d2, d3, d4, S6⟩ := SC.kids (Nat.le_refl _) hrw HX.out (by simp [ByteArray.size]) hE (by have := HKL.out; omega)
      refine hK.out _ _ ?_ (fun hHeld => ?_)
      · exact d1
      clear hK K
      try simp only [Act.put]
      refine wpAnyH_take (i := 14) (oi := _) (v := ?vb14) rfl (by kernel_rfl) (by kernel_rfl) (by kernel_rfl) (fun _ _ _ h => h) (Or.inl ⟨by rfl, ?yb14⟩) (by assumption) ?rb14
      case yb14 => (intro w' hSw; (try dsimp only at hSw); go_simp; try with_reducible rfl)
      try simp only [Act.put]
      refine wpAnyH_take (i := 15) (oi := _) (v := ?vb15) rfl (by kernel_rfl) (by kernel_rfl) (by kernel_rfl) (fun _ _ _ h => h) (Or.inl ⟨by rfl, ?yb15⟩) (by assumption) ?rb15
      case yb15 => (intro w' hSw; (try dsimp only at hSw); go_simp; try with_reducible rfl)
      try simp only [Act.put]
      refine wpAnyH_ready (rs := [16]) (by kernel_rfl) (by simp) ?_
      refine AllReadyH.cons (o := _) rfl (fun K hK => ?_) AllReadyH.nil
      go_simp
      refine hK.out _ _ ?_ (fun hHeld => ?_)
      · exact S6.t
      clear hK K
      try simp only [Act.put]
      refine wpAnyH_done (by kernel_rfl) ?_ _
      go_upto_region 15 with fail
      have q6 := S6.t
      obtain ⟨⟨rv, hr0⟩, hr1, hr2, hz8⟩ := S6.box
      have hz7 := S6.size
      generalize hW6 : w6.setCell ⟨b, k * 4 + 3, none⟩ (.slice av ln cv) = W6 at *
      clear hW6
      go_wp2_with fail
      refine bodyPost_ret (v := .agg #[.slice (some ⟨b, 0, none⟩) 32 c]) (by rw [results, Tryz.results61]; simp [go_sem, World.cell?_setCell_same _ _ _ hr0]) rfl ?_
      exact S6.fin rfl hrw (by omega) _
    · go_simp
      go_at_call 60
      refine (pick_to rb (p + 150 + 1 + 1) 5 _ (by omega) (by omega) (by omega) (S4.more hrw (by repeat (first | with_reducible exact Below.refl _ _ | refine Below.drew ?_ | refine Below.alloc ?_ (by first | omega | (simp <;> omega)) _))).rd).mono ?_
      rintro e wB ⟨⟨z, rfl, hz⟩, hrB, hbB⟩
      have SB := (S4.more hrw (by repeat (first | with_reducible exact Below.refl _ _ | refine Below.drew ?_ | refine Below.alloc ?_ (by first | omega | (simp <;> omega)) _))).next hrw hbB hrB
      have szB := SB.size
      obtain ⟨yt, _, _, _, y4, y5, y6⟩ := SB.tree.at_ k x HX.out
      have hbB1 := SB.tree.lt
      go_wp2_with fail
      refine hK.out _ _ ?_ (fun hHeld => ?_)
      · exact SB.t
      clear hK K
      try simp only [Act.put]
      refine wpAnyH_take (i := 11) (oi := _) (v := ?vc11) rfl (by kernel_rfl) (by kernel_rfl) (by kernel_rfl) (fun _ _ _ h => h) (Or.inl ⟨by rfl, ?yc11⟩) (by assumption) ?rc11
      case yc11 => (intro w' hSw; (try dsimp only at hSw); go_simp; try with_reducible rfl)
      try simp only [Act.put]
      refine wpAnyH_ready (rs := [8, 12]) (by kernel_rfl) (by simp) ?_
      refine AllReadyH.cons (o := _) rfl (fun K hK => ?_) (AllReadyH.cons (o := _) rfl (fun K hK => ?_) AllReadyH.nil)
      · go_simp
        refine hK.out _ _ ?_ (fun hHeld => ?_)
        · first | exact q4 | exact SB.t | exact SC.t
        clear hK K
        try simp only [Act.put]
        refine wpAnyH_ready (rs := [12]) (by kernel_rfl) (by simp) ?_
        refine AllReadyH.cons (o := _) rfl (fun K hK => ?_) AllReadyH.nil
        go_simp
        have SC := SB.more hrw (W' := wB.alloc (Obj.cells #[.string ⟨#[122, 122]⟩, .int .i64 z] 53)) ((Below.refl _ _).alloc (Nat.le_refl _) _)
        obtain ⟨_, _, _, _, c4, c5, _⟩ := SC.tree.at_ k x HX.out
        have hbC := SC.tree.lt
        have szC := SC.size
        refine hK.out _ _ ?_ (fun hHeld => ?_)
        · exact SC.t
        clear hK K
        try simp only [Act.put]
        refine wpAnyH_ready (rs := [13]) (by kernel_rfl) (by simp) ?_
        refine AllReadyH.cons (o := _) rfl (fun K hK => ?_) AllReadyH.nil
        refine step_app_kids _ rfl (.tmp 52) (.tmp 56) rfl (w.heap.size + 1) (vs k) x.kids [⟨⟨#[122, 122]⟩, z⟩] c5 ⟨wB.heap.size, 0, none⟩ 1 1 rfl (by simp [Act.eval]) (by simp [Act.eval]) (fun i u hu => two_at hu) (by have := HB.out.2.2.2.1; omega) (by omega) ?_
        intro v6 w6 hE
        obtain ⟨av, cv, hv6⟩ := hE.own.shape
        generalize hln : (x.kids ++ [(⟨⟨#[122, 122]⟩, (z : Int)⟩ : LEnt)]).length = ln at hv6
        subst hv6
        obtain ⟨d1, d2, d3, d4, S6⟩ := SC.kids (Nat.le_refl _) hrw HX.out (by simp [ByteArray.size]) hE (by have := HKL.out; omega)
        refine hK.out _ _ ?_ (fun hHeld => ?_)
        · exact d1
        clear hK K
        try simp only [Act.put]
        refine wpAnyH_take (i := 14) (oi := _) (v := ?vd14) rfl (by kernel_rfl) (by kernel_rfl) (by kernel_rfl) (fun _ _ _ h => h) (Or.inl ⟨by rfl, ?yd14⟩) (by assumption) ?rd14
        case yd14 => (intro w' hSw; (try dsimp only at hSw); go_simp; try with_reducible rfl)
        try simp only [Act.put]
        refine wpAnyH_take (i := 15) (oi := _) (v := ?vd15) rfl (by kernel_rfl) (by kernel_rfl) (by kernel_rfl) (fun _ _ _ h => h) (Or.inl ⟨by rfl, ?yd15⟩) (by assumption) ?rd15
        case yd15 => (intro w' hSw; (try dsimp only at hSw); go_simp; try with_reducible rfl)
        try simp only [Act.put]
        refine wpAnyH_ready (rs := [16]) (by kernel_rfl) (by simp) ?_
        refine AllReadyH.cons (o := _) rfl (fun K hK => ?_) AllReadyH.nil
        go_simp
        refine hK.out _ _ ?_ (fun hHeld => ?_)
        · exact S6.t
        clear hK K
        try simp only [Act.put]
        refine wpAnyH_done (by kernel_rfl) ?_ _
        go_upto_region 15 with fail
        have q6 := S6.t
        obtain ⟨⟨rv, hr0⟩, hr1, hr2, hz8⟩ := S6.box
        have hz7 := S6.size
        generalize hW6 : w6.setCell ⟨b, k * 4 + 3, none⟩ (.slice av ln cv) = W6 at *
        clear hW6
        go_wp2_with fail
        refine bodyPost_ret (v := .agg #[.slice (some ⟨b, 0, none⟩) 32 c]) (by rw [results, Tryz.results61]; simp [go_sem, World.cell?_setCell_same _ _ _ hr0]) rfl ?_
        exact S6.fin rfl hrw (by omega) _
      · go_simp
        have SC := SB.more hrw (W' := wB.alloc (Obj.cells #[.string ⟨#[122, 122]⟩, .int .i64 z] 53)) ((Below.refl _ _).alloc (Nat.le_refl _) _)
        obtain ⟨_, _, _, _, c4, c5, _⟩ := SC.tree.at_ k x HX.out
        have hbC := SC.tree.lt
        have szC := SC.size
        refine hK.out _ _ ?_ (fun hHeld => ?_)
        · exact SC.t
        clear hK K
        try simp only [Act.put]
        refine wpAnyH_ready (rs := [8]) (by kernel_rfl) (by simp) ?_
        refine AllReadyH.cons (o := _) rfl (fun K hK => ?_) AllReadyH.nil
        go_simp
        refine hK.out _ _ ?_ (fun hHeld => ?_)
        · first | exact q4 | exact SB.t | exact SC.t
        clear hK K
        try simp only [Act.put]
        refine wpAnyH_ready (rs := [13]) (by kernel_rfl) (by simp) ?_
        refine AllReadyH.cons (o := _) rfl (fun K hK => ?_) AllReadyH.nil
        refine step_app_kids _ rfl (.tmp 52) (.tmp 56) rfl (w.heap.size + 1) (vs k) x.kids [⟨⟨#[122, 122]⟩, z⟩] c5 ⟨wB.heap.size, 0, none⟩ 1 1 rfl (by simp [Act.eval]) (by simp [Act.eval]) (fun i u hu => two_at hu) (by have := HB.out.2.2.2.1; omega) (by omega) ?_
        intro v6 w6 hE
        obtain ⟨av, cv, hv6⟩ := hE.own.shape
        generalize hln : (x.kids ++ [(⟨⟨#[122, 122]⟩, (z : Int)⟩ : LEnt)]).length = ln at hv6
        subst hv6
        obtain ⟨d1, d2, d3, d4, S6⟩ := SC.kids (Nat.le_refl _) hrw HX.out (by simp [ByteArray.size]) hE (by have := HKL.out; omega)
        refine hK.out _ _ ?_ (fun hHeld => ?_)
        · exact d1
        clear hK K
        try simp only [Act.put]
        refine wpAnyH_take (i := 14) (oi := _) (v := ?ve14) rfl (by kernel_rfl) (by kernel_rfl) (by kernel_rfl) (fun _ _ _ h => h) (Or.inl ⟨by rfl, ?ye14⟩) (by assumption) ?re14
        case ye14 => (intro w' hSw; (try dsimp only at hSw); go_simp; try with_reducible rfl)
        try simp only [Act.put]
        refine wpAnyH_take (i := 15) (oi := _) (v := ?ve15) rfl (by kernel_rfl) (by kernel_rfl) (by kernel_rfl) (fun _ _ _ h => h) (Or.inl ⟨by rfl, ?ye15⟩) (by assumption) ?re15
        case ye15 => (intro w' hSw; (try dsimp only at hSw); go_simp; try with_reducible rfl)
        try simp only [Act.put]
        refine wpAnyH_ready (rs := [16]) (by kernel_rfl) (by simp) ?_
        refine AllReadyH.cons (o := _) rfl (fun K hK => ?_) AllReadyH.nil
        go_simp
        refine hK.out _ _ ?_ (fun hHeld => ?_)
        · exact S6.t
        clear hK K
        try simp only [Act.put]
        refine wpAnyH_done (by kernel_rfl) ?_ _
        go_upto_region 15 with fail
        have q6 := S6.t
        obtain ⟨⟨rv, hr0⟩, hr1, hr2, hz8⟩ := S6.box
        have hz7 := S6.size
        generalize hW6 : w6.setCell ⟨b, k * 4 + 3, none⟩ (.slice av ln cv) = W6 at *
        clear hW6
        go_wp2_with fail
        refine bodyPost_ret (v := .agg #[.slice (some ⟨b, 0, none⟩) 32 c]) (by rw [results, Tryz.results61]; simp [go_sem, World.cell?_setCell_same _ _ _ hr0]) rfl ?_
        exact S6.fin rfl hrw (by omega) _
  by_cases y3 : y = 3
  · subst y3
    clear x1 x2 x4 y4 y0 y1 y2
    go_upto_region 14 with fail
    go_region_held3 (fun w' => w'.cell? ⟨T, 0, none⟩ = some (.slice (some ⟨b, 0, none⟩) 32 c)) (first | go_keep | exact SB.t | (rw [World.cell?_setCell_other _ _ _ _ (by simp [nT])]; exact SB.t))
      (first
        | (go_at_call 114; refine (of_to rb (p + 150 + 1 + 1) _ 2 2 4 _ (by omega) (by omega) (by omega) (by first | omega | (simp; omega)) (S4.more hrw (by repeat (first | with_reducible exact Below.refl _ _ | refine Below.drew ?_ | refine Below.alloc ?_ (by first | omega | (simp <;> omega)) _))).rd (by intro i hi; match i, hi with | 0, _ => exact ⟨⟨#[65]⟩, by simp [go_sem], by simp [ByteArray.size]⟩ | 1, _ => exact ⟨⟨#[120]⟩, by simp [go_sem], by simp [ByteArray.size]⟩)).mono ?_; rintro e wB ⟨⟨z, rfl, hz⟩, hrB, hbB⟩; have SB := (S4.more hrw (by repeat (first | with_reducible exact Below.refl _ _ | refine Below.drew ?_ | refine Below.alloc ?_ (by first | omega | (simp <;> omega)) _))).next hrw hbB hrB; obtain ⟨_, _, _, y2, _⟩ := SB.tree.at_ k x HX.out; have zB := SB.tree.frozen (k * 4 + 2); have hlB := SB.tree.lt))
    all_goals
      go_upto_region 15 with fail
      have S6 := SB.set (Nat.le_refl _) hrw (k * 4 + 2) (.string z) (SB.tree.setText HX.out z (le_maxLen4 hz)) (by simp) (SB.bn.set k ⟨HB.out.1, HB.out.2.1, hz, HB.out.2.2.2.1, HB.out.2.2.2.2⟩)
      have q6 := S6.t
      obtain ⟨⟨rv, hr0⟩, hr1, hr2, hz8⟩ := S6.box
      have hz7 := S6.size
      generalize hW6 : wB.setCell ⟨b, k * 4 + 2, none⟩ (.string z) = W6 at *
      clear hW6
      go_wp2_with fail
      refine bodyPost_ret (v := .agg #[.slice (some ⟨b, 0, none⟩) 32 c]) (by rw [results, Tryz.results61]; simp [go_sem, World.cell?_setCell_same _ _ _ hr0]) rfl ?_
      exact S6.fin rfl hrw (by omega) _
  have t4 : ((y : Int) == 4) = false := by simp; omega
  have t0 : ((y : Int) == 0) = false := by simp; omega
  have t1 : ((y : Int) == 1) = false := by simp; omega
  have t2 : ((y : Int) == 2) = false := by simp; omega
  have t3 : ((y : Int) == 3) = false := by simp; omega
  clear x1 x2 x3 x4
  go_wp2_with fail
  refine bodyPost_ret (v := .agg #[.slice (some ⟨b, 0, none⟩) 32 c]) (by rw [results, Tryz.results61]; simp [go_sem, World.cell?_setCell_same _ _ _ hr4]) rfl ?_
  exact S4.fin rfl hrw (by omega) _
end Go.Proofs.YtnolbfijcnldjaaGreatDoor

/- Lists that are made shorter: what that is, on lists. -/
namespace Go.Proofs.YtnolbfijcnldjaaGreatDoor
open Go.RowKit

/-! Some of a list. -/
/-! Texts that are void. -/
/-! What is made and goes again. -/
/-! What is moved and moved on. -/
/-! Again and again. -/
/-! What is kept. -/
end Go.Proofs.YtnolbfijcnldjaaGreatDoor

/- Lists that are made shorter: the specification. -/
namespace Go.Proofs.YtnolbfijcnldjaaGreatDoor
open Go.RowKit

theorem opCells_at : ∀ (l : List LOp) (i : Nat) (o : LOp), l[i]? = some o → ∀ t u, o.val[t]? = some u → (opCells l)[i * 7 + t]? = some u
  | [], i, o, h, _, _, _ => by simp at h
  | x :: r, 0, o, h, t, u, hu => by
    simp at h
    subst h
    have ht : t < x.val.toList.length := by
      have := (Array.getElem?_eq_some_iff.1 hu).1
      simpa using this
    simp only [opCells, List.flatMap_cons]
    rw [List.getElem?_append_left (by omega)]
    simpa using hu
  | x :: r, i + 1, o, h, t, u, hu => by
    have ih := opCells_at r i o (by simpa using h) t u hu
    simp only [opCells, List.flatMap_cons]
    have h7 : x.val.toList.length = 7 := by simp [LOp.val]
    rw [List.getElem?_append_right (by omega), h7]
    have e : (i + 1) * 7 + t - 7 = i * 7 + t := by omega
    rw [e]
    exact ih
theorem OwnOps.at_ {w : World} {B : Nat} {v : Value} {l : List LOp} (h : OwnOps w B v l) (hn : ∀ o ∈ l, OpSz o) : ∃ a c, v = .slice a l.length c ∧ OpsAt w B w.heap.size a l.length l := by
  by_cases h0 : l.length = 0
  · obtain rfl : l = [] := List.eq_nil_of_length_eq_zero h0
    rcases h.2 with ⟨rfl, _⟩ | ⟨g, cap, cur, rfl, _⟩
    · exact ⟨_, _, rfl, rfl, by simp [maxLen], fun hn => absurd rfl hn⟩
    · exact ⟨_, _, rfl, rfl, by simp [maxLen], fun hn => absurd rfl hn⟩
  · obtain ⟨g, c, rfl, hb, hlt⟩ := World.ownsRow.form h (by omega)
    have hbd : l.length ≤ maxLen := by
      rcases h.2 with ⟨h', _⟩ | ⟨g', cap', cur, h', _, _, hnc, hcm, _⟩
      · simp at h'
      · omega
    have hc : ∀ i (hi : i < l.length) t u, t < 7 → (l[i]).val[t]? = some u → w.cell? ⟨g, 0 + i * 7 + t, none⟩ = some u := fun i hi t u ht hu => by
      have := World.ownsRow.cellAt h (i * 7 + t) (by omega)
      rw [Nat.zero_add, this]
      exact opCells_at l i l[i] (by simp [hi]) t u hu
    exact ⟨_, _, rfl, rfl, hbd, fun _ => ⟨g, 0, rfl, hb, hlt, fun i hi => ⟨l[i], by simp [hi], hn _ (List.getElem_mem hi), hc i hi 0 _ (by omega) (by simp [LOp.val]), hc i hi 1 _ (by omega) (by simp [LOp.val]), hc i hi 2 _ (by omega) (by simp [LOp.val]), hc i hi 3 _ (by omega) (by simp [LOp.val]), hc i hi 4 _ (by omega) (by simp [LOp.val]), hc i hi 5 _ (by omega) (by simp [LOp.val]), hc i hi 6 _ (by omega) (by simp [LOp.val])⟩⟩⟩
theorem OpsAt.sz {w : World} {L U : Nat} {a : Option Addr} {n : Nat} {ops : List LOp} (h : OpsAt w L U a n ops) : ∀ o ∈ ops, OpSz o := fun o ho => by
  obtain ⟨i, hi, rfl⟩ := List.getElem_of_mem ho
  have hl := h.len
  obtain ⟨b, off, _, _, _, hc⟩ := h.at_ (by omega)
  obtain ⟨o', ho', hs, _⟩ := hc i (by omega)
  rw [List.getElem?_eq_getElem hi] at ho'
  cases ho'
  exact hs
theorem AppOEnd.below {w0 wr w1 : World} {B : Nat} {u v : Value} {l r : List LOp} {o1 : Obj} (hE : AppOEnd (wr.alloc o1) w1 B u v r) (hown : OwnOps wr B u l) (hb : Below B w0 wr) (hsz : B ≤ wr.heap.size) : Below B w0 w1 := by
  have hr : ∀ k, u.ownBlock = some k → B ≤ k := fun k e => (hown.lt k e).1
  exact hb.trans (below_grown ((Below.refl _ _).alloc (by omega) _) hE.grown hr (by simp; omega))
theorem OwnOps.next {w w' : World} {B : Nat} {v : Value} {l : List LOp} (h : OwnOps w B v l) (hb : Below w.heap.size w w') : OwnOps w' B v l := by
  refine ⟨h.1, ?_⟩
  rcases h.2 with hn | ⟨g, cap, cur, rfl, hB, hgg, rest⟩
  · exact .inl hn
  · refine .inr ⟨g, cap, cur, rfl, hB, ?_, rest⟩
    rw [hb.block g (Array.getElem?_eq_some_iff.1 hgg).1]
    exact hgg
/-- What a rule leaves: a list of its own, and all else as it was. -/
def SlimEnd (w : World) (r : List LOp) (e : Ending) (w' : World) : Prop := (∃ v, e = .returned v ∧ OwnOps w' w.heap.size v r) ∧ Below w.heap.size w w'

end Go.Proofs.YtnolbfijcnldjaaGreatDoor

/- Lists that are made shorter: the specification, what goes again. -/
namespace Go.Proofs.YtnolbfijcnldjaaGreatDoor
open Go.RowKit

/-! append of a whole list. -/
theorem OpsAt.cells {w : World} {L U b off n : Nat} {ops : List LOp} (H : OpsAt w L U (some ⟨b, off, none⟩) n ops) : ∀ j u, (opCells ops)[j]? = some u → w.cell? ((⟨b, off, none⟩ : Addr).add j) = some u := by
  intro j u hu
  have hadd : (⟨b, off, none⟩ : Addr).add j = ⟨b, off + j, none⟩ := by unfold Addr.add; split <;> simp_all
  rw [hadd]
  have hj := (List.getElem?_eq_some_iff.1 hu).1
  rw [opCells_len] at hj
  have hl := H.len
  obtain ⟨b', off', ha, _, _, hc⟩ := H.at_ (by omega)
  simp only [Option.some.injEq, Addr.mk.injEq, and_true] at ha
  obtain ⟨rfl, rfl⟩ := ha
  obtain ⟨o, ho, _, hat⟩ := hc (j / 7) (by omega)
  have hv : ∀ t v, t < 7 → j = j / 7 * 7 + t → o.val[t]? = some v → u = v := fun t v ht e hv => by
    have := opCells_at ops (j / 7) o ho t v hv
    rw [← e, hu] at this
    exact Option.some.inj this
  have e7 : j = j / 7 * 7 + j % 7 := by omega
  have hm : j % 7 < 7 := Nat.mod_lt _ (by omega)
  generalize j % 7 = t at e7 hm
  match t, hm with
  | 0, _ => rw [hv 0 _ (by omega) e7 (by simp [LOp.val]; rfl), e7, ← Nat.add_assoc]; exact hat.c0
  | 1, _ => rw [hv 1 _ (by omega) e7 (by simp [LOp.val]; rfl), e7, ← Nat.add_assoc]; exact hat.c1
  | 2, _ => rw [hv 2 _ (by omega) e7 (by simp [LOp.val]; rfl), e7, ← Nat.add_assoc]; exact hat.c2
  | 3, _ => rw [hv 3 _ (by omega) e7 (by simp [LOp.val]; rfl), e7, ← Nat.add_assoc]; exact hat.c3
  | 4, _ => rw [hv 4 _ (by omega) e7 (by simp [LOp.val]; rfl), e7, ← Nat.add_assoc]; exact hat.c4
  | 5, _ => rw [hv 5 _ (by omega) e7 (by simp [LOp.val]; rfl), e7, ← Nat.add_assoc]; exact hat.c5
  | 6, _ => rw [hv 6 _ (by omega) e7 (by simp [LOp.val]; rfl), e7, ← Nat.add_assoc]; exact hat.c6
end Go.Proofs.YtnolbfijcnldjaaGreatDoor

/- Lists that are made shorter: the specification, what is moved on. -/
namespace Go.Proofs.YtnolbfijcnldjaaGreatDoor
open Go.RowKit

theorem OwnOps.one {W : World} {o : LOp} {B q : Nat} (hB : B ≤ W.heap.size) (hq : q = W.heap.size) : OwnOps (W.alloc (Obj.cells o.val 27)) B (.slice (some ⟨q, 0, none⟩) 1 1) [o] := by
  subst hq
  have := World.ownsRow_lit (base := B) (e := 27) (size := 7) W o.val 1 hB (by simp [maxLen]) (by simp [LOp.val])
  simpa [OwnOps, opCells] using this
theorem OpsAt.grown {w w' : World} {L U : Nat} {a : Option Addr} {n : Nat} {ops : List LOp} {row : Option Nat} (H : OpsAt w L U a n ops) (hg : w.grownBy w' row) (hne : ∀ k, row = some k → k < L) (hU : U ≤ w.heap.size) : OpsAt w' L U a n ops :=
  ⟨H.len, H.bd, fun hn => by
    obtain ⟨b, off, ha, hL, hbU, hc⟩ := H.at_ hn
    refine ⟨b, off, ha, hL, hbU, fun i hi => ?_⟩
    obtain ⟨o, ho, hs, h0⟩ := hc i hi
    exact ⟨o, ho, hs, h0.of_block (hg.block b (by omega) (fun e => by have := hne b e.symm; omega))⟩⟩
theorem OwnOps.cut {w : World} {B g n cap k : Nat} {l : List LOp} (h : OwnOps w B (.slice (some ⟨g, 0, none⟩) n cap) l) (hn : n = l.length) (hk : k ≤ n) : OwnOps w B (.slice (some ⟨g, 0, none⟩) k cap) (l.take k) := by
  subst hn
  have hl : (l.take k).length = k := by simp; omega
  refine ⟨by rw [opCells_len], .inr ?_⟩
  rcases h.2 with ⟨h', _⟩ | ⟨g', cap', cur, h', hb, hg, hnc, hcm, hcs, htake⟩
  · simp at h'
  · simp only [Value.slice.injEq, Option.some.injEq, Addr.mk.injEq, and_true, true_and] at h'
    obtain ⟨rfl, rfl⟩ := h'
    refine ⟨g, cap, cur, by rw [hl], hb, hg, by omega, hcm, hcs, ?_⟩
    have e1 : opCells l = opCells (l.take k) ++ opCells (l.drop k) := by rw [← opCells_app, List.take_append_drop]
    have e2 : cur.toList.take (k * 7) = (cur.toList.take (l.length * 7)).take (k * 7) := by rw [List.take_take]; congr 1; omega
    rw [hl, e2, htake, e1, List.take_left' (by rw [opCells_len, hl])]
end Go.Proofs.YtnolbfijcnldjaaGreatDoor

/- Lists that are made shorter: the specification, what is moved on, again and again. -/
namespace Go.Proofs.YtnolbfijcnldjaaGreatDoor
open Go.RowKit

end Go.Proofs.YtnolbfijcnldjaaGreatDoor

/- Lists that are made shorter: the specification, whole. -/
namespace Go.Proofs.YtnolbfijcnldjaaGreatDoor
open Go.RowKit

theorem OwnOps.base {w : World} {B B' : Nat} {v : Value} {l : List LOp} (h : OwnOps w B v l) (hB : B' ≤ B) : OwnOps w B' v l :=
  ⟨h.1, by
    rcases h.2 with h | ⟨g, cap, cu, h1, h2, h3⟩
    · exact .inl h
    · exact .inr ⟨g, cap, cu, h1, by omega, h3⟩⟩
theorem SlimEnd.later {w w1 w' : World} {r : List LOp} {e : Ending} (h : SlimEnd w1 r e w') (hb : Below w.heap.size w w1) : SlimEnd w r e w' := by
  obtain ⟨⟨v, rfl, ho⟩, hb'⟩ := h
  exact ⟨⟨v, rfl, ho.base hb.size⟩, hb.trans (hb'.mono hb.size)⟩

end Go.Proofs.YtnolbfijcnldjaaGreatDoor

/- Lists that are made shorter: the program: what is deleted. -/
namespace Go.Proofs.YtnolbfijcnldjaaGreatDoor
open Go.RowKit

end Go.Proofs.YtnolbfijcnldjaaGreatDoor

/- Lists that are made shorter: the program: texts. -/
namespace Go.Proofs.YtnolbfijcnldjaaGreatDoor
open Go.RowKit

end Go.Proofs.YtnolbfijcnldjaaGreatDoor

/- Lists that are made shorter: the program: what goes again. -/
namespace Go.Proofs.YtnolbfijcnldjaaGreatDoor
open Go.RowKit

def GoEnd (g : Int) (e : Ending) : Prop := e = .returned (.tuple #[.int .i64 (if 0 ≤ g then g else 0), .bool (decide (0 ≤ g))])
theorem GoEnd.no {e : Ending} (h : e = .returned (.tuple #[.int .i64 0, .bool false])) : GoEnd (-1) e := by subst h; rfl
end Go.Proofs.YtnolbfijcnldjaaGreatDoor

/- Lists that are made shorter: the program: what goes again is taken out. -/
namespace Go.Proofs.YtnolbfijcnldjaaGreatDoor
open Go.RowKit

end Go.Proofs.YtnolbfijcnldjaaGreatDoor

/- Lists that are made shorter: the program: what goes again, one at a time. -/
namespace Go.Proofs.YtnolbfijcnldjaaGreatDoor
open Go.RowKit

end Go.Proofs.YtnolbfijcnldjaaGreatDoor

/- Lists that are made shorter: the program: a rule again and again; pairs. -/
namespace Go.Proofs.YtnolbfijcnldjaaGreatDoor
open Go.RowKit

end Go.Proofs.YtnolbfijcnldjaaGreatDoor

/- Lists that are made shorter: the program: where something is then. -/
namespace Go.Proofs.YtnolbfijcnldjaaGreatDoor
open Go.RowKit

end Go.Proofs.YtnolbfijcnldjaaGreatDoor

/- Lists that are made shorter: the program: what moves on. -/
namespace Go.Proofs.YtnolbfijcnldjaaGreatDoor
open Go.RowKit

structure BoxAt (w : World) (q : Nat) (o : LOp) : Prop where
  c0 : w.cell? ⟨q, 0, none⟩ = some (.int .i64 o.kind)
  c1 : w.cell? ⟨q, 1, none⟩ = some (.int .i64 o.dir)
  c2 : w.cell? ⟨q, 2, none⟩ = some (.string o.name)
  c3 : w.cell? ⟨q, 3, none⟩ = some (.int .i64 o.dir2)
  c4 : w.cell? ⟨q, 4, none⟩ = some (.string o.name2)
  c5 : w.cell? ⟨q, 5, none⟩ = some (.int .i64 o.id)
  c6 : w.cell? ⟨q, 6, none⟩ = some (.string o.text)
theorem BoxAt.of {w w' : World} {q : Nat} {o : LOp} (h : BoxAt w q o) (e : w'.heap[q]? = w.heap[q]?) : BoxAt w' q o := by
  have hc : ∀ j, w'.cell? ⟨q, j, none⟩ = w.cell? ⟨q, j, none⟩ := fun j => World.cell?_of_block (w := w) e
  exact ⟨by rw [hc]; exact h.c0, by rw [hc]; exact h.c1, by rw [hc]; exact h.c2, by rw [hc]; exact h.c3, by rw [hc]; exact h.c4, by rw [hc]; exact h.c5, by rw [hc]; exact h.c6⟩
end Go.Proofs.YtnolbfijcnldjaaGreatDoor

/- Lists that are made shorter: the program: what moves on from where it was put. -/
namespace Go.Proofs.YtnolbfijcnldjaaGreatDoor
open Go.RowKit

/-- Taken first, the frame and the list of what came up written out. -/
theorem takeH {P : Program} {md : Region.Mode} {ops : Array Oper} {Q : Exit → Act → World → Prop} {S : World → Prop} {i : Nat} {oi : Oper} {v : Value} {fuel : Nat} {listed : Array Bool} {a : Act} {w : World} (d : Nat) (l2 : Array Bool) (hi : ops[i]? = some oi)
    (hs : Region.noSelect ops = true) (hf : Region.free md ops listed i = true) (hr : (Region.ready md ops listed).contains i = true)
    (hd : oi.dst = some d) (hl : listed.setIfInBounds i true = l2) (hQ : ∀ c a w, Q (.panic c) (a.put oi.dst v) w → Q (.panic c) a w) (hy : YieldsIf P ops S oi v a) (hS : S w)
    (h : wpAnyH P md ops Q S fuel l2 (a.put (some d) v) w) : wpAnyH P md ops Q S (fuel + 1) listed a w :=
  wpAnyH_take hi hs hf hr hQ hy hS (by rw [hl, hd]; exact h)
theorem listH {P : Program} {md : Region.Mode} {ops : Array Oper} {Q : Exit → Act → World → Prop} {S : World → Prop} {fuel : Nat} {listed l2 : Array Bool} {a : Act} {w : World} (hl : listed = l2) (h : wpAnyH P md ops Q S fuel l2 a w) : wpAnyH P md ops Q S fuel listed a w := by
  rw [hl]; exact h

end Go.Proofs.YtnolbfijcnldjaaGreatDoor

/- Lists that are made shorter: the program: what moves on, whole; lists with one put anew. -/
namespace Go.Proofs.YtnolbfijcnldjaaGreatDoor
open Go.RowKit

/-! A row of what is done, read and written. -/
/-! What is left when one goes, or both. -/
end Go.Proofs.YtnolbfijcnldjaaGreatDoor

/- Lists that are made shorter: the program: steps of a region that make and fill boxes. -/
namespace Go.Proofs.YtnolbfijcnldjaaGreatDoor
open Go.RowKit

def zrow (z : Array Value) (i : Nat) : Value := z[i]?.getD default
theorem zrow_new (W : World) (z : Array Value) (t : TypeId) : (W.alloc (.cells z t)).rowIs W.heap.size t z.size (zrow z) := World.rowIs_alloc W z t (zrow z) (fun i hi => by unfold zrow; rw [Array.getElem?_eq_getElem hi]; rfl)
section
variable {ops : Array Oper} {ac : Act} {K : Act → World → Prop} {Q : Exit → Act → World → Prop} {E : Prop} {ty : TypeId} {ps : String} {af : Array Edge}
theorem st_alloc30 (W : World) (d : Nat)
    (h : ∀ q W', q = W.heap.size → Below W.heap.size W W' → W'.rowIs q 27 7 (zrow #[.int .i64 0, .int .i64 0, .string ⟨#[]⟩, .int .i64 0, .string ⟨#[]⟩, .int .i64 0, .string ⟨#[]⟩]) → K (ac.put (some d) (.pointer (some ⟨q, 0, none⟩))) W') :
    if Region.wanted { dst := some d, op := .alloc 27, type := ty, pos := ps, after := af, guard := none } (yielded ops ac.tmps) = true then Oper.wp Tryz.prog { dst := some d, op := .alloc 27, type := ty, pos := ps, after := af, guard := none } ac W K Q else E := by
  rw [if_pos (by simp [Region.wanted])]
  have := h W.heap.size (W.alloc (.cells #[.int .i64 0, .int .i64 0, .string ⟨#[]⟩, .int .i64 0, .string ⟨#[]⟩, .int .i64 0, .string ⟨#[]⟩] 27)) rfl ((Below.refl _ _).alloc (Nat.le_refl _) _) (zrow_new W _ 27)
  unfold Oper.wp
  go_simp
  exact this
theorem st_store30 (W : World) (tp tv : Nat) (q k : Nat) (x : LOp) (nn : Nat) (f : Nat → Value) (hp : ac.tmps[tp]?.getD undef = .pointer (some ⟨q, k, none⟩)) (hv : ac.tmps[tv]?.getD undef = .agg x.val) (hr : W.rowIs q 27 nn f) (hk : k + 7 ≤ nn)
    (hold : ∃ o : LOp, f k = .int .i64 o.kind ∧ f (k + 1) = .int .i64 o.dir ∧ f (k + 2) = .string o.name ∧ f (k + 3) = .int .i64 o.dir2 ∧ f (k + 4) = .string o.name2 ∧ f (k + 5) = .int .i64 o.id ∧ f (k + 6) = .string o.text)
    (h : ∀ W', But q W W' → W'.rowIs q 27 nn (fun i => if i = k + 6 then .string x.text else if i = k + 5 then .int .i64 x.id else if i = k + 4 then .string x.name2 else if i = k + 3 then .int .i64 x.dir2 else if i = k + 2 then .string x.name else if i = k + 1 then .int .i64 x.dir else if i = k then .int .i64 x.kind else f i) → K ac W') :
    if Region.wanted { dst := none, op := .store 27 (.tmp tp) (.tmp tv), type := ty, pos := ps, after := af, guard := none } (yielded ops ac.tmps) = true then Oper.wp Tryz.prog { dst := none, op := .store 27 (.tmp tp) (.tmp tv), type := ty, pos := ps, after := af, guard := none } ac W K Q else E := by
  rw [if_pos (by simp [Region.wanted])]
  obtain ⟨o, o0, o1, o2, o3, o4, o5, o6⟩ := hold
  have c0 : W.cell? ⟨q, k, none⟩ = some (.int .i64 o.kind) := by rw [hr.cell (by omega), o0]
  have c1 : W.cell? ⟨q, k + 1, none⟩ = some (.int .i64 o.dir) := by rw [hr.cell (by omega), o1]
  have c2 : W.cell? ⟨q, k + 2, none⟩ = some (.string o.name) := by rw [hr.cell (by omega), o2]
  have c3 : W.cell? ⟨q, k + 3, none⟩ = some (.int .i64 o.dir2) := by rw [hr.cell (by omega), o3]
  have c4 : W.cell? ⟨q, k + 4, none⟩ = some (.string o.name2) := by rw [hr.cell (by omega), o4]
  have c5 : W.cell? ⟨q, k + 5, none⟩ = some (.int .i64 o.id) := by rw [hr.cell (by omega), o5]
  have c6 : W.cell? ⟨q, k + 6, none⟩ = some (.string o.text) := by rw [hr.cell (by omega), o6]
  have z0 : W.frozen? ⟨q, k, none⟩ = false := hr.frozen _
  have z1 : W.frozen? ⟨q, k + 1, none⟩ = false := hr.frozen _
  have z2 : W.frozen? ⟨q, k + 2, none⟩ = false := hr.frozen _
  have z3 : W.frozen? ⟨q, k + 3, none⟩ = false := hr.frozen _
  have z4 : W.frozen? ⟨q, k + 4, none⟩ = false := hr.frozen _
  have z5 : W.frozen? ⟨q, k + 5, none⟩ = false := hr.frozen _
  have z6 : W.frozen? ⟨q, k + 6, none⟩ = false := hr.frozen _
  have := h (((((((W.setCell ⟨q, k, none⟩ (.int .i64 x.kind)).setCell ⟨q, k + 1, none⟩ (.int .i64 x.dir)).setCell ⟨q, k + 2, none⟩ (.string x.name)).setCell ⟨q, k + 3, none⟩ (.int .i64 x.dir2)).setCell ⟨q, k + 4, none⟩ (.string x.name2)).setCell ⟨q, k + 5, none⟩ (.int .i64 x.id)).setCell ⟨q, k + 6, none⟩ (.string x.text))
    (((((((But.refl q W).set _ _).set _ _).set _ _).set _ _).set _ _).set _ _ |>.set _ _)
    (((((((hr.set k _).set (k + 1) _).set (k + 2) _).set (k + 3) _).set (k + 4) _).set (k + 5) _).set (k + 6) _)
  clear h hr o0 o1 o2 o3 o4 o5 o6
  simp only [LOp.val] at hv
  unfold Oper.wp
  go_simp
  exact this
end
end Go.Proofs.YtnolbfijcnldjaaGreatDoor
