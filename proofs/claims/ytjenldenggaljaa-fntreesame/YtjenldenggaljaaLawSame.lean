/- Two trees as they are drawn; the walk of the law FnTreeSame. -/
import Derived.Test.YtjenldenggaljaaDrawn
import Derived.Test.YtjenldenggaljaaSameAll
namespace Go.Proofs.Ytjenldenggaljaa
open Go.RowKit

/-- In the midst of drawing two trees: the boxes of the answer, the boxes of the trees, the trees. -/
structure TwSt (w W : World) (TA TB b1 n1 c1 b2 n2 c2 BB : Nat) (os1 os2 : List LObj) (vs2 : Nat → Value) : Prop where
  below : Below w.heap.size w W
  r0 : ∃ f, W.rowIs w.heap.size 25 1 f
  r1 : ∃ f, W.rowIs (w.heap.size + 1) 25 1 f
  lo : w.heap.size + 2 ≤ TA
  mid : TA < BB
  hi : BB ≤ TB
  size : TB < W.heap.size
  qa : W.cell? ⟨TA, 0, none⟩ = some (.slice (some ⟨b1, 0, none⟩) n1 c1)
  qb : W.cell? ⟨TB, 0, none⟩ = some (.slice (some ⟨b2, 0, none⟩) n2 c2)
  o1 : ObjsAt W (w.heap.size + 2) TA (some ⟨b1, 0, none⟩) n1 os1
  t2 : OwnT W BB b2 c2 os2 vs2
  u2 : b2 < TB ∧ ∀ i g, i < os2.length → (vs2 i).ownBlock = some g → g < TB
  l2 : n2 = os2.length
  le1 : n1 ≤ 32
  le2 : n2 ≤ 32
  bn : Bn os2
theorem ObjsAt.far {w w' : World} {L U rb : Nat} {a : Option Addr} {n : Nat} {os : List LObj} (h : ObjsAt w L U a n os) (hb : But rb w w') (hr : U ≤ rb) (hU : U ≤ w.heap.size) : ObjsAt w' L U a n os :=
  h.below (B := U) ⟨hb.below.os, hb.below.tape, hb.below.output, hb.below.size, fun k hk => hb.block k (by omega) (by omega)⟩ (Nat.le_refl _)
theorem TwSt.next {w W W' : World} {TA TB b1 n1 c1 b2 n2 c2 BB rb : Nat} {os1 os2 : List LObj} {vs2 : Nat → Value} (h : TwSt w W TA TB b1 n1 c1 b2 n2 c2 BB os1 os2 vs2) (hb : But rb W W') (hr : TB < rb) : TwSt w W' TA TB b1 n1 c1 b2 n2 c2 BB os1 os2 vs2 := by
  obtain ⟨f, hf⟩ := h.r0
  obtain ⟨f', hf'⟩ := h.r1
  have h1 := h.lo
  have h2 := h.mid
  have h3 := h.hi
  have h4 := h.size
  have h5 := h.u2
  exact ⟨h.below.trans (hb.below.mono (by omega)), ⟨f, hf.of_block (hb.block _ (by omega) hf.lt)⟩, ⟨f', hf'.of_block (hb.block _ (by omega) hf'.lt)⟩, h1, h2, h3, by have := hb.below.size; omega, by rw [hb.cell (by simp; omega) (by simp; omega)]; exact h.qa, by rw [hb.cell (by simp; omega) (by simpa using h4)]; exact h.qb, h.o1.far hb (by omega) (by omega),
    h.t2.grown hb.grown (by simp; omega) fun i hi => by
      cases hv : (vs2 i).ownBlock with
      | none => exact .inl rfl
      | some g => right; have := h5.2 i g hi hv; simp; omega, h5, h.l2, h.le1, h.le2, h.bn⟩
theorem TwSt.more {w W W' : World} {TA TB b1 n1 c1 b2 n2 c2 BB : Nat} {os1 os2 : List LObj} {vs2 : Nat → Value} (h : TwSt w W TA TB b1 n1 c1 b2 n2 c2 BB os1 os2 vs2) (hb : Below W.heap.size W W') : TwSt w W' TA TB b1 n1 c1 b2 n2 c2 BB os1 os2 vs2 :=
  h.next (rb := W.heap.size) ⟨hb, fun k _ hk => hb.block k hk⟩ h.size
def TwoEnd (w : World) (e : Ending) (w' : World) : Prop :=
  (∃ b1 n1 c1 os1 b2 n2 c2 os2, e = .returned (.tuple #[.agg #[.slice (some ⟨b1, 0, none⟩) n1 c1], .agg #[.slice (some ⟨b2, 0, none⟩) n2 c2]]) ∧ ObjsAt w' w.heap.size w'.heap.size (some ⟨b1, 0, none⟩) n1 os1 ∧ ObjsAt w' w.heap.size w'.heap.size (some ⟨b2, 0, none⟩) n2 os2 ∧ n1 ≤ 32 ∧ n2 ≤ 32) ∧ Below w.heap.size w w'
/-- The two trees, as they are answered. -/
structure TwFin (w W : World) (TA TB b1 n1 c1 b2 n2 c2 : Nat) (os1 os2 : List LObj) : Prop where
  below : Below w.heap.size w W
  r0 : ∃ f, W.rowIs w.heap.size 25 1 f
  r1 : ∃ f, W.rowIs (w.heap.size + 1) 25 1 f
  ltA : w.heap.size + 2 ≤ TA ∧ TA < W.heap.size
  ltB : w.heap.size + 2 ≤ TB ∧ TB < W.heap.size
  qa : W.cell? ⟨TA, 0, none⟩ = some (.slice (some ⟨b1, 0, none⟩) n1 c1)
  qb : W.cell? ⟨TB, 0, none⟩ = some (.slice (some ⟨b2, 0, none⟩) n2 c2)
  o1 : ObjsAt W (w.heap.size + 2) W.heap.size (some ⟨b1, 0, none⟩) n1 os1
  o2 : ObjsAt W (w.heap.size + 2) W.heap.size (some ⟨b2, 0, none⟩) n2 os2
  le1 : n1 ≤ 32
  le2 : n2 ≤ 32
theorem TwSt.fin {w W : World} {TA TB b1 n1 c1 b2 n2 c2 BB : Nat} {os1 os2 : List LObj} {vs2 : Nat → Value} (h : TwSt w W TA TB b1 n1 c1 b2 n2 c2 BB os1 os2 vs2) : TwFin w W TA TB b1 n1 c1 b2 n2 c2 os1 os2 := by
  have h1 := h.lo
  have h2 := h.mid
  have h3 := h.hi
  have h4 := h.size
  refine ⟨h.below, h.r0, h.r1, by omega, by omega, h.qa, h.qb, h.o1.wide (Nat.le_refl _) (by omega), ?_, h.le1, h.le2⟩
  have := h.t2.to_objs
  rw [← h.l2] at this
  exact this.wide (by omega) (Nat.le_refl _)
theorem TwFin.drew {w W : World} {TA TB b1 n1 c1 b2 n2 c2 : Nat} {os1 os2 : List LObj} (h : TwFin w W TA TB b1 n1 c1 b2 n2 c2 os1 os2) : TwFin w W.drew TA TB b1 n1 c1 b2 n2 c2 os1 os2 :=
  ⟨h.below.drew, h.r0, h.r1, h.ltA, h.ltB, h.qa, h.qb, h.o1.below (Below.refl _ _).drew (Nat.le_refl _), h.o2.below (Below.refl _ _).drew (Nat.le_refl _), h.le1, h.le2⟩
/-- Behind a change of the second tree's own row. -/
theorem TwSt.turned {w W : World} {TA TB b1 n1 c1 b2 n2 c2 BB : Nat} {os1 os2 os2' : List LObj} {vs2 : Nat → Value} (h : TwSt w W TA TB b1 n1 c1 b2 n2 c2 BB os1 os2 vs2) (q : Nat) (v : Value) (hT : OwnT (W.setCell ⟨b2, q, none⟩ v) BB b2 c2 os2' vs2) (hl : os2'.length = os2.length) : TwFin w (W.setCell ⟨b2, q, none⟩ v) TA TB b1 n1 c1 b2 n2 c2 os1 os2' := by
  have h1 := h.lo
  have h2 := h.mid
  have h3 := h.hi
  have h4 := h.size
  have h5 := h.u2.1
  have h6 := h.t2.lo
  obtain ⟨f, hf⟩ := h.r0
  obtain ⟨f', hf'⟩ := h.r1
  have hB : Below BB W (W.setCell ⟨b2, q, none⟩ v) := (Below.refl _ _).setCell (by simpa using h6) _
  have hsz : (W.setCell ⟨b2, q, none⟩ v).heap.size = W.heap.size := by simp
  refine ⟨h.below.trans (hB.mono (by omega)), ⟨f, hf.of_block (hB.block _ (by omega))⟩, ⟨f', hf'.of_block (hB.block _ (by omega))⟩, by omega, by omega, by rw [hB.cell (by simpa using h2)]; exact h.qa, by rw [World.cell?_setCell_other _ _ _ _ (fun e => by have := congrArg Addr.block e; simp at this; omega)]; exact h.qb, (h.o1.below hB (by omega)).wide (Nat.le_refl _) (by simp; omega), ?_, h.le1, h.le2⟩
  have := hT.to_objs
  rw [hl, ← h.l2] at this
  exact this.wide (by omega) (by simp)
theorem two_done {w W : World} {b1 n1 c1 b2 n2 c2 : Nat} {os1 os2 : List LObj} (o1 : ObjsAt W (w.heap.size + 2) W.heap.size (some ⟨b1, 0, none⟩) n1 os1) (o2 : ObjsAt W (w.heap.size + 2) W.heap.size (some ⟨b2, 0, none⟩) n2 os2) (l1 : n1 ≤ 32) (l2 : n2 ≤ 32) (hb : Below w.heap.size w W) (W' : World) (hs : W'.heap.size = W.heap.size) (hB : Below w.heap.size W W') (hk : ∀ k, w.heap.size + 2 ≤ k → W'.heap[k]? = W.heap[k]?) :
    TwoEnd w (.returned (.tuple #[.agg #[.slice (some ⟨b1, 0, none⟩) n1 c1], .agg #[.slice (some ⟨b2, 0, none⟩) n2 c2]])) W' := by
  have hE : ∀ {n b : Nat} {os : List LObj}, ObjsAt W (w.heap.size + 2) W.heap.size (some ⟨b, 0, none⟩) n os → ObjsAt W' w.heap.size W'.heap.size (some ⟨b, 0, none⟩) n os := by
    intro n b os H
    refine ⟨H.len, H.bd, fun hn => ?_⟩
    obtain ⟨b', off, ha, hL, hU, hc⟩ := H.at_ hn
    refine ⟨b', off, ha, by omega, by omega, fun i hi => ?_⟩
    obtain ⟨o, ka, kn, kc, h1, h2, h3, h4, h5, h6, h7⟩ := hc i hi
    have e : ∀ q, W'.cell? ⟨b', q, none⟩ = W.cell? ⟨b', q, none⟩ := fun q => World.cell?_of_block (w := W) (hk b' hL)
    refine ⟨o, ka, kn, kc, h1, h2, by rw [e]; exact h3, by rw [e]; exact h4, by rw [e]; exact h5, by rw [e]; exact h6, ⟨h7.len, h7.bd, fun hk0 => ?_⟩⟩
    obtain ⟨kb, ko, ha', hL', hU', hc'⟩ := h7.at_ hk0
    refine ⟨kb, ko, ha', by omega, by omega, fun j hj => ?_⟩
    obtain ⟨x, x1, x2, x3, x4⟩ := hc' j hj
    have e' : ∀ q, W'.cell? ⟨kb, q, none⟩ = W.cell? ⟨kb, q, none⟩ := fun q => World.cell?_of_block (w := W) (hk kb hL')
    exact ⟨x, x1, x2, by rw [e']; exact x3, by rw [e']; exact x4⟩
  exact ⟨⟨b1, n1, c1, os1, b2, n2, c2, os2, rfl, hE o1, hE o2, l1, l2⟩, hb.trans hB⟩
theorem max_any (x : Nat) (w : World) : Calls Try.prog 121 #[.int .i64 1, .int .i64 x] w fun e w' => e = .returned (.int .i64 ((if x = 0 then 1 else x : Nat) : Int)) ∧ w' = w := by
  by_cases h : x = 0
  · subst h
    go_enter Try.func121, Try.ntmps121
    go_wp2
    go_ret
    exact ⟨rfl, rfl⟩
  · by_cases h1 : (x : Int) < 1
    · omega
    · go_enter Try.func121, Try.ntmps121
      go_wp2
      go_ret
      exact ⟨rfl, rfl⟩

set_option maxHeartbeats 4000000 in
set_option maxRecDepth 20000 in
theorem two_any (a : Option Addr) (n c : Nat) (zs : List Int) (w : World) (hn : n ≤ 1048576) (hc : n ≤ c) (H : BytesAt w w.heap.size a n zs) :
    Calls Try.prog 85 #[.slice a n c] w fun e w' => TwoEnd w e w' := by
  go_enter Try.func85, Try.ntmps85
  go_wp2_with fail
  have hA0 : Below w.heap.size w ((w.alloc (Obj.cells #[.slice none 0 0] 25)).alloc (Obj.cells #[.slice none 0 0] 25)) := ((Below.refl _ _).alloc (Nat.le_refl _) _).alloc (by simp) _
  have hR0 : Hid (∃ f, ((w.alloc (Obj.cells #[.slice none 0 0] 25)).alloc (Obj.cells #[.slice none 0 0] 25)).rowIs w.heap.size 25 1 f) := ⟨_, (row1 w _ 25).of_block (((Below.refl (w.heap.size + 1) (w.alloc (Obj.cells #[.slice none 0 0] 25))).alloc (by simp) _).block _ (by omega))⟩
  have hR1 : Hid (∃ f, ((w.alloc (Obj.cells #[.slice none 0 0] 25)).alloc (Obj.cells #[.slice none 0 0] 25)).rowIs (w.heap.size + 1) 25 1 f) := ⟨fun _ => .slice none 0 0, by simpa using row1 (w.alloc (Obj.cells #[.slice none 0 0] 25)) (.slice none 0 0) 25⟩
  have hz0 : w.heap.size + 2 ≤ ((w.alloc (Obj.cells #[.slice none 0 0] 25)).alloc (Obj.cells #[.slice none 0 0] 25)).heap.size := by simp
  generalize hW0 : (w.alloc (Obj.cells #[.slice none 0 0] 25)).alloc (Obj.cells #[.slice none 0 0] 25) = W0 at *
  clear hW0
  refine (open16 a n c zs w.heap.size _ hn hc (H.below hA0 (Nat.le_refl _))).mono ?_
  rintro e W1 ⟨m1, d1, ys1, rfl, hm1, _, hB1, rfl⟩
  have R1 : RdTo (W0.alloc (.cells #[.slice a m1 d1, .int .i64 0] 115)) W0.heap.size 0 := ⟨0, Nat.le_refl _, rd_start hm1 (by omega) hB1⟩
  clear hB1
  go_wp2_with fail
  refine (bent_any W0.heap.size 0 _ (by omega) (by simp) R1).mono ?_
  rintro e W2 ⟨b1, n1, c1, os1, vs1, rfl, hl1, h321, hT1, hbn1, _, hb2⟩
  have hA2 : Below w.heap.size w W2 := (hA0.alloc (by omega) _).trans (hb2.below.mono (by omega))
  have hz2 : w.heap.size + 3 ≤ W2.heap.size := by have := hb2.below.size; simp at this; omega
  have hk2 : Hid (∀ k, k < w.heap.size + 2 → W2.heap[k]? = W0.heap[k]?) := fun k hk => (hb2.block k (by omega) (by simp; omega)).trans (((Below.refl W0.heap.size W0).alloc (Nat.le_refl _) _).block k (by omega))
  have hO1 : Hid (ObjsAt W2 (w.heap.size + 2) W2.heap.size (some ⟨b1, 0, none⟩) n1 os1) := by
    have h9 := hT1.to_objs
    rw [← hl1] at h9
    exact h9.wide (by simp; omega) (Nat.le_refl _)
  clear hT1 hb2 R1 hbn1 hl1
  go_wp2_with fail
  have hA3 : Below w.heap.size w (W2.alloc (Obj.cells #[.slice (some ⟨b1, 0, none⟩) n1 c1] 25)) := hA2.alloc (by omega) _
  have hq3 : (W2.alloc (Obj.cells #[.slice (some ⟨b1, 0, none⟩) n1 c1] 25)).cell? ⟨W2.heap.size, 0, none⟩ = some (.slice (some ⟨b1, 0, none⟩) n1 c1) := by simp [go_sem]
  have hz3 : W2.heap.size < (W2.alloc (Obj.cells #[.slice (some ⟨b1, 0, none⟩) n1 c1] 25)).heap.size := by simp
  have hk3 : Hid (∀ k, k < W2.heap.size → (W2.alloc (Obj.cells #[.slice (some ⟨b1, 0, none⟩) n1 c1] 25)).heap[k]? = W2.heap[k]?) := fun k hk => ((Below.refl W2.heap.size W2).alloc (Nat.le_refl _) _).block k hk
  have hbl3 : Below W2.heap.size W2 (W2.alloc (Obj.cells #[.slice (some ⟨b1, 0, none⟩) n1 c1] 25)) := (Below.refl _ _).alloc (Nat.le_refl _) _
  generalize hW3 : W2.alloc (Obj.cells #[.slice (some ⟨b1, 0, none⟩) n1 c1] 25) = W3 at *
  generalize hTA : W2.heap.size = TA at *
  clear hW3 hTA
  refine (open16 a n c zs w.heap.size _ hn hc (H.below hA3 (Nat.le_refl _))).mono ?_
  rintro e W4 ⟨m2, d2, ys2, rfl, hm2, _, hB2, rfl⟩
  have R2 : RdTo (W3.alloc (.cells #[.slice a m2 d2, .int .i64 0] 115)) W3.heap.size 0 := ⟨0, Nat.le_refl _, rd_start hm2 (by omega) hB2⟩
  clear hB2
  go_wp2_with fail
  refine (bent_any W3.heap.size 0 _ (by omega) (by simp) R2).mono ?_
  rintro e W5 ⟨b2, n2, c2, os2, vs2, rfl, hl2, h322, hT2, hbn2, _, hb5⟩
  have HS5 : Hid (TwSt w (W5.alloc (Obj.cells #[.slice (some ⟨b2, 0, none⟩) n2 c2] 25)) TA W5.heap.size b1 n1 c1 b2 n2 c2 (W3.heap.size + 1) os1 os2 vs2) := by
    have hs5 := hb5.below.size
    simp at hs5
    have hA5 : Below w.heap.size w W5 := (hA3.alloc (by omega) _).trans (hb5.below.mono (by omega))
    have k5 : ∀ k, k < W3.heap.size → W5.heap[k]? = W3.heap[k]? := fun k hk => (hb5.block k (by omega) (by simp; omega)).trans (((Below.refl W3.heap.size W3).alloc (Nat.le_refl _) _).block k hk)
    have k6 : ∀ k, k < W5.heap.size → (W5.alloc (Obj.cells #[.slice (some ⟨b2, 0, none⟩) n2 c2] 25)).heap[k]? = W5.heap[k]? := fun k hk => ((Below.refl W5.heap.size W5).alloc (Nat.le_refl _) _).block k hk
    have k7 : ∀ k, k < W3.heap.size → (W5.alloc (Obj.cells #[.slice (some ⟨b2, 0, none⟩) n2 c2] 25)).heap[k]? = W3.heap[k]? := fun k hk => (k6 k (by omega)).trans (k5 k hk)
    obtain ⟨f0, hf0⟩ := hR0.out
    obtain ⟨f1, hf1⟩ := hR1.out
    refine ⟨hA5.alloc (by omega) _, ⟨f0, hf0.of_block ?_⟩, ⟨f1, hf1.of_block ?_⟩, by omega, by omega, by omega, by simp, ?_, by simp [go_sem], ?_, ?_, ⟨hT2.lt, fun i g hi hg => ?_⟩, hl2, h321, h322, hbn2⟩
    · rw [k7 _ (by omega), hk3.out _ (by omega), hk2.out _ (by omega)]
    · rw [k7 _ (by omega), hk3.out _ (by omega), hk2.out _ (by omega)]
    · rw [World.cell?_of_block (w := W3) (k7 TA (by omega))]; exact hq3
    · exact hO1.out.below (B := TA) (hbl3.trans (((((Below.refl W3.heap.size W3).alloc (Nat.le_refl _) _).trans hb5.below).alloc (by omega) _).mono (by omega))) (Nat.le_refl _)
    · have h9 := hT2.below ((Below.refl W5.heap.size W5).alloc (Nat.le_refl _) (Obj.cells #[.slice (some ⟨b2, 0, none⟩) n2 c2] 25))
      simpa using h9
    · exact ((hT2.at_ i os2[i] (by simp [hi])).2.2.2.2.2.1.lt g hg).2
  clear hl2 hT2 hb5 R2 hk3 hk2 hO1 hR0 hR1 hbl3 hq3
  go_wp2_with fail
  generalize hTB : W5.heap.size = TB at *
  generalize hW6 : W5.alloc (Obj.cells #[.slice (some ⟨b2, 0, none⟩) n2 c2] 25) = W6 at *
  clear hW6 hTB
  refine (open16 a n c zs w.heap.size _ hn hc (H.below HS5.out.below (Nat.le_refl _))).mono ?_
  rintro e W7 ⟨m3, d3, ys3, rfl, hm3, _, hB3, rfl⟩
  have R3 : RdTo (W6.alloc (.cells #[.slice a m3 d3, .int .i64 0] 115)) W6.heap.size 0 := ⟨0, Nat.le_refl _, rd_start hm3 HS5.out.below.size hB3⟩
  have HS7 : Hid (TwSt w (W6.alloc (.cells #[.slice a m3 d3, .int .i64 0] 115)) TA TB b1 n1 c1 b2 n2 c2 (W3.heap.size + 1) os1 os2 vs2) := HS5.out.more ((Below.refl _ _).alloc (Nat.le_refl _) _)
  have hrb : TB < W6.heap.size := HS5.out.size
  have q7 := HS7.out.qb
  have hz7 := HS7.out.size
  generalize hW7 : W6.alloc (.cells #[.slice a m3 d3, .int .i64 0] 115) = W7 at *
  generalize hRB : W6.heap.size = rb at *
  clear hW7 hRB hB3 HS5 H
  go_wp2_with fail
  refine (max_any n2 _).mono ?_
  rintro e W8 ⟨rfl, hw8⟩
  subst hw8
  have h322 := HS7.out.le2
  generalize hmx : (if n2 = 0 then 1 else n2) = mx at *
  have HMX : Hid ((if n2 = 0 then 1 else n2) = mx) := hmx
  have hmx1 : 1 ≤ mx ∧ mx ≤ 32 := by rw [← hmx]; split <;> omega
  clear hmx
  go_wp2_with fail
  refine (pick_to rb 0 mx _ (by omega) hmx1.1 (by omega) R3).mono ?_
  rintro e W9 ⟨⟨k, rfl, hk⟩, hr9, hb9⟩
  have HS9 : Hid (TwSt w W9 TA TB b1 n1 c1 b2 n2 c2 (W3.heap.size + 1) os1 os2 vs2) := HS7.out.next hb9 hrb
  have q9 := HS9.out.qb
  have hz9 := HS9.out.size
  clear HS7 hb9 R3 q7 hz7
  by_cases hn0 : n2 = 0
  · have t0 : ((n2 : Int) == 0) = true := by simp [hn0]
    clear hn0
    go_upto_region 9 with fail
    have SF := HS9.out.fin
    generalize hWF : W9 = WF at *
    clear hWF
    obtain ⟨f0, hf0⟩ := SF.r0
    obtain ⟨f1, hf1⟩ := SF.r1
    have g0 := hf0.cell (i := 0) (by omega)
    have z0 := hf0.frozen 0
    have g1 := hf1.cell (i := 0) (by omega)
    have z1 := hf1.frozen 0
    have qa := SF.qa
    have qb := SF.qb
    obtain ⟨la1, la2⟩ := SF.ltA
    obtain ⟨lb1, lb2⟩ := SF.ltB
    have e0 : w.heap.size < WF.heap.size := by omega
    have e1 : w.heap.size + 1 < WF.heap.size := by omega
    clear hf0 hf1
    go_region
    all_goals
      go_wp2_with fail
      have k0 : ((WF.setCell ⟨w.heap.size, 0, none⟩ (.slice (some ⟨b1, 0, none⟩) n1 c1)).setCell ⟨w.heap.size + 1, 0, none⟩ (.slice (some ⟨b2, 0, none⟩) n2 c2)).cell? ⟨w.heap.size, 0, none⟩ = some (.slice (some ⟨b1, 0, none⟩) n1 c1) := by
        rw [World.cell?_setCell_other _ _ _ _ (by simp)]; exact World.cell?_setCell_same _ _ _ g0
      have k1 : ((WF.setCell ⟨w.heap.size, 0, none⟩ (.slice (some ⟨b1, 0, none⟩) n1 c1)).setCell ⟨w.heap.size + 1, 0, none⟩ (.slice (some ⟨b2, 0, none⟩) n2 c2)).cell? ⟨w.heap.size + 1, 0, none⟩ = some (.slice (some ⟨b2, 0, none⟩) n2 c2) :=
        World.cell?_setCell_same _ _ _ (by rw [World.cell?_setCell_other _ _ _ _ (by simp)]; exact g1)
      refine bodyPost_ret (v := .tuple #[.agg #[.slice (some ⟨b1, 0, none⟩) n1 c1], .agg #[.slice (some ⟨b2, 0, none⟩) n2 c2]]) (by rw [results, Try.results85]; simp [go_sem, k0, k1]) rfl ?_
      exact two_done SF.o1 SF.o2 SF.le1 SF.le2 SF.below _ (by simp) (((Below.refl _ _).setCell (by simp) _).setCell (by simp) _).drew (fun k hk => (Below.heap_setCell _ _ _ k (by simp; omega)).trans (Below.heap_setCell _ _ _ k (by simp; omega)))
  have t0 : ((n2 : Int) == 0) = false := by simp; omega
  have hk2 : k < n2 := by have := HMX.out; rw [if_neg hn0] at this; omega
  have hkI : (k : Int) < (n2 : Int) := by omega
  clear hn0 HMX
  go_wp2_with fail
  refine (pick_to rb 1 3 _ (by omega) (by omega) (by omega) hr9).mono ?_
  rintro e W10 ⟨⟨y, rfl, hy⟩, hr10, hb10⟩
  have HS10 : Hid (TwSt w W10 TA TB b1 n1 c1 b2 n2 c2 (W3.heap.size + 1) os1 os2 vs2) := HS9.out.next hb10 hrb
  have q10 := HS10.out.qb
  have hz10 := HS10.out.size
  clear HS9 hb10 hr9 q9 hz9
  by_cases hy0 : y = 0
  · subst hy0
    go_upto_region 9 with fail
    have SF := HS10.out.fin
    generalize hWF : W10 = WF at *
    clear hWF
    obtain ⟨f0, hf0⟩ := SF.r0
    obtain ⟨f1, hf1⟩ := SF.r1
    have g0 := hf0.cell (i := 0) (by omega)
    have z0 := hf0.frozen 0
    have g1 := hf1.cell (i := 0) (by omega)
    have z1 := hf1.frozen 0
    have qa := SF.qa
    have qb := SF.qb
    obtain ⟨la1, la2⟩ := SF.ltA
    obtain ⟨lb1, lb2⟩ := SF.ltB
    have e0 : w.heap.size < WF.heap.size := by omega
    have e1 : w.heap.size + 1 < WF.heap.size := by omega
    clear hf0 hf1
    go_region
    all_goals
      go_wp2_with fail
      have k0 : ((WF.setCell ⟨w.heap.size, 0, none⟩ (.slice (some ⟨b1, 0, none⟩) n1 c1)).setCell ⟨w.heap.size + 1, 0, none⟩ (.slice (some ⟨b2, 0, none⟩) n2 c2)).cell? ⟨w.heap.size, 0, none⟩ = some (.slice (some ⟨b1, 0, none⟩) n1 c1) := by
        rw [World.cell?_setCell_other _ _ _ _ (by simp)]; exact World.cell?_setCell_same _ _ _ g0
      have k1 : ((WF.setCell ⟨w.heap.size, 0, none⟩ (.slice (some ⟨b1, 0, none⟩) n1 c1)).setCell ⟨w.heap.size + 1, 0, none⟩ (.slice (some ⟨b2, 0, none⟩) n2 c2)).cell? ⟨w.heap.size + 1, 0, none⟩ = some (.slice (some ⟨b2, 0, none⟩) n2 c2) :=
        World.cell?_setCell_same _ _ _ (by rw [World.cell?_setCell_other _ _ _ _ (by simp)]; exact g1)
      refine bodyPost_ret (v := .tuple #[.agg #[.slice (some ⟨b1, 0, none⟩) n1 c1], .agg #[.slice (some ⟨b2, 0, none⟩) n2 c2]]) (by rw [results, Try.results85]; simp [go_sem, k0, k1]) rfl ?_
      exact two_done SF.o1 SF.o2 SF.le1 SF.le2 SF.below _ (by simp) (((Below.refl _ _).setCell (by simp) _).setCell (by simp) _).drew (fun k hk => (Below.heap_setCell _ _ _ k (by simp; omega)).trans (Below.heap_setCell _ _ _ k (by simp; omega)))
  have ty : ((y : Int) == 0) = false := by simp; omega
  clear hy0
  go_wp2_with fail
  refine (pick_to rb 2 2 _ (by omega) (by omega) (by omega) hr10).mono ?_
  rintro e W11 ⟨⟨z, rfl, hz⟩, hr11, hb11⟩
  have HS11 : Hid (TwSt w W11 TA TB b1 n1 c1 b2 n2 c2 (W3.heap.size + 1) os1 os2 vs2) := HS10.out.next hb11 hrb
  have q11 := HS11.out.qb
  have hz11 := HS11.out.size
  clear HS10 hb11 hr10 q10 hz10
  obtain ⟨x, hx⟩ : ∃ x, os2[k]? = some x := ⟨os2[k]'(by rw [← HS11.out.l2]; exact hk2), by simp⟩
  obtain ⟨xs, x1, x2, x3, x4, x5, x6⟩ := HS11.out.t2.at_ k x hx
  have z2 := HS11.out.t2.frozen (k * 4 + 1)
  have z3 := HS11.out.t2.frozen (k * 4 + 2)
  have hbl := HS11.out.t2.lt
  have HX : Hid (os2[k]? = some x) := hx
  obtain ⟨v1, v2, v3, _⟩ := HS11.out.bn.at hx
  have hne : b2 ≠ TB := by have := HS11.out.u2.1; omega
  clear hx x1 x4 x5 x6
  by_cases hz0 : z = 0
  · subst hz0
    go_upto_region 8 with fail
    go_region
    go_upto_region 9 with fail
    have SF := (HS11.out.turned (k * 4 + 1) (.int .i64 (x.ver + 1)) (HS11.out.t2.setVer HX.out (x.ver + 1)) (by simp)).drew
    generalize hWF : (W11.setCell ⟨b2, k * 4 + 1, none⟩ (.int .i64 (x.ver + 1))).drew = WF at *
    clear hWF
    obtain ⟨f0, hf0⟩ := SF.r0
    obtain ⟨f1, hf1⟩ := SF.r1
    have g0 := hf0.cell (i := 0) (by omega)
    have z0 := hf0.frozen 0
    have g1 := hf1.cell (i := 0) (by omega)
    have z1 := hf1.frozen 0
    have qa := SF.qa
    have qb := SF.qb
    obtain ⟨la1, la2⟩ := SF.ltA
    obtain ⟨lb1, lb2⟩ := SF.ltB
    have e0 : w.heap.size < WF.heap.size := by omega
    have e1 : w.heap.size + 1 < WF.heap.size := by omega
    clear hf0 hf1
    go_region
    all_goals
      go_wp2_with fail
      have k0 : ((WF.setCell ⟨w.heap.size, 0, none⟩ (.slice (some ⟨b1, 0, none⟩) n1 c1)).setCell ⟨w.heap.size + 1, 0, none⟩ (.slice (some ⟨b2, 0, none⟩) n2 c2)).cell? ⟨w.heap.size, 0, none⟩ = some (.slice (some ⟨b1, 0, none⟩) n1 c1) := by
        rw [World.cell?_setCell_other _ _ _ _ (by simp)]; exact World.cell?_setCell_same _ _ _ g0
      have k1 : ((WF.setCell ⟨w.heap.size, 0, none⟩ (.slice (some ⟨b1, 0, none⟩) n1 c1)).setCell ⟨w.heap.size + 1, 0, none⟩ (.slice (some ⟨b2, 0, none⟩) n2 c2)).cell? ⟨w.heap.size + 1, 0, none⟩ = some (.slice (some ⟨b2, 0, none⟩) n2 c2) :=
        World.cell?_setCell_same _ _ _ (by rw [World.cell?_setCell_other _ _ _ _ (by simp)]; exact g1)
      refine bodyPost_ret (v := .tuple #[.agg #[.slice (some ⟨b1, 0, none⟩) n1 c1], .agg #[.slice (some ⟨b2, 0, none⟩) n2 c2]]) (by rw [results, Try.results85]; simp [go_sem, k0, k1]) rfl ?_
      exact two_done SF.o1 SF.o2 SF.le1 SF.le2 SF.below _ (by simp) (((Below.refl _ _).setCell (by simp) _).setCell (by simp) _).drew (fun k hk => (Below.heap_setCell _ _ _ k (by simp; omega)).trans (Below.heap_setCell _ _ _ k (by simp; omega)))
  · have tz : ((z : Int) == 0) = false := by simp; omega
    clear hz0
    go_upto_region 5 with fail
    go_region
    go_upto_region 9 with fail
    have SF := (HS11.out.turned (k * 4 + 2) (.string (x.text ++ ⟨#[113]⟩)) (HS11.out.t2.setText HX.out (x.text ++ ⟨#[113]⟩) (by rw [ByteArray.size_append]; show x.text.size + 1 ≤ maxLen; unfold maxLen; omega)) (by simp)).drew
    generalize hWF : (W11.setCell ⟨b2, k * 4 + 2, none⟩ (.string (x.text ++ ⟨#[113]⟩))).drew = WF at *
    clear hWF
    obtain ⟨f0, hf0⟩ := SF.r0
    obtain ⟨f1, hf1⟩ := SF.r1
    have g0 := hf0.cell (i := 0) (by omega)
    have z0 := hf0.frozen 0
    have g1 := hf1.cell (i := 0) (by omega)
    have z1 := hf1.frozen 0
    have qa := SF.qa
    have qb := SF.qb
    obtain ⟨la1, la2⟩ := SF.ltA
    obtain ⟨lb1, lb2⟩ := SF.ltB
    have e0 : w.heap.size < WF.heap.size := by omega
    have e1 : w.heap.size + 1 < WF.heap.size := by omega
    clear hf0 hf1
    go_region
    all_goals
      go_wp2_with fail
      have k0 : ((WF.setCell ⟨w.heap.size, 0, none⟩ (.slice (some ⟨b1, 0, none⟩) n1 c1)).setCell ⟨w.heap.size + 1, 0, none⟩ (.slice (some ⟨b2, 0, none⟩) n2 c2)).cell? ⟨w.heap.size, 0, none⟩ = some (.slice (some ⟨b1, 0, none⟩) n1 c1) := by
        rw [World.cell?_setCell_other _ _ _ _ (by simp)]; exact World.cell?_setCell_same _ _ _ g0
      have k1 : ((WF.setCell ⟨w.heap.size, 0, none⟩ (.slice (some ⟨b1, 0, none⟩) n1 c1)).setCell ⟨w.heap.size + 1, 0, none⟩ (.slice (some ⟨b2, 0, none⟩) n2 c2)).cell? ⟨w.heap.size + 1, 0, none⟩ = some (.slice (some ⟨b2, 0, none⟩) n2 c2) :=
        World.cell?_setCell_same _ _ _ (by rw [World.cell?_setCell_other _ _ _ _ (by simp)]; exact g1)
      refine bodyPost_ret (v := .tuple #[.agg #[.slice (some ⟨b1, 0, none⟩) n1 c1], .agg #[.slice (some ⟨b2, 0, none⟩) n2 c2]]) (by rw [results, Try.results85]; simp [go_sem, k0, k1]) rfl ?_
      exact two_done SF.o1 SF.o2 SF.le1 SF.le2 SF.below _ (by simp) (((Below.refl _ _).setCell (by simp) _).setCell (by simp) _).drew (fun k hk => (Below.heap_setCell _ _ _ k (by simp; omega)).trans (Below.heap_setCell _ _ _ k (by simp; omega)))

set_option maxHeartbeats 4000000 in
set_option maxRecDepth 20000 in
theorem drawSame (a : Option Addr) (n c : Nat) (zs : List Int) (w : World) (hn : n ≤ 1048576) (hc : n ≤ c) (H : BytesAt w w.heap.size a n zs) :
    Calls Try.prog 32 #[.slice a n c] w fun e w' => TwoEnd w e w' := by
  go_enter Try.func32, Try.ntmps32
  go_wp2_with fail
  have hA0 : Below w.heap.size w ((w.alloc (Obj.cells #[.slice none 0 0] 25)).alloc (Obj.cells #[.slice none 0 0] 25)) := ((Below.refl _ _).alloc (Nat.le_refl _) _).alloc (by simp) _
  have hR0 : Hid (∃ f, ((w.alloc (Obj.cells #[.slice none 0 0] 25)).alloc (Obj.cells #[.slice none 0 0] 25)).rowIs w.heap.size 25 1 f) := ⟨_, (row1 w _ 25).of_block (((Below.refl (w.heap.size + 1) (w.alloc (Obj.cells #[.slice none 0 0] 25))).alloc (by simp) _).block _ (by omega))⟩
  have hR1 : Hid (∃ f, ((w.alloc (Obj.cells #[.slice none 0 0] 25)).alloc (Obj.cells #[.slice none 0 0] 25)).rowIs (w.heap.size + 1) 25 1 f) := ⟨fun _ => .slice none 0 0, by simpa using row1 (w.alloc (Obj.cells #[.slice none 0 0] 25)) (.slice none 0 0) 25⟩
  have hz0 : w.heap.size + 2 ≤ ((w.alloc (Obj.cells #[.slice none 0 0] 25)).alloc (Obj.cells #[.slice none 0 0] 25)).heap.size := by simp
  generalize hW0 : (w.alloc (Obj.cells #[.slice none 0 0] 25)).alloc (Obj.cells #[.slice none 0 0] 25) = W0 at *
  clear hW0
  refine (two_any a n c zs W0 hn hc ((H.below hA0 (Nat.le_refl _)).wide (by omega))).mono ?_
  rintro e WF ⟨⟨b1, n1, c1, os1, b2, n2, c2, os2, rfl, o1, o2, l1, l2⟩, hb⟩
  have hzF := hb.size
  obtain ⟨f0, hf0'⟩ := hR0.out
  obtain ⟨f1, hf1'⟩ := hR1.out
  have hf0 := hf0'.of_block (hb.block _ (by omega))
  have hf1 := hf1'.of_block (hb.block _ (by omega))
  have SF : Hid (ObjsAt WF (w.heap.size + 2) WF.heap.size (some ⟨b1, 0, none⟩) n1 os1 ∧ ObjsAt WF (w.heap.size + 2) WF.heap.size (some ⟨b2, 0, none⟩) n2 os2 ∧ Below w.heap.size w WF) := ⟨o1.wide (by omega) (Nat.le_refl _), o2.wide (by omega) (Nat.le_refl _), hA0.trans (hb.mono (by omega))⟩
  have g0 := hf0.cell (i := 0) (by omega)
  have z0 := hf0.frozen 0
  have g1 := hf1.cell (i := 0) (by omega)
  have z1 := hf1.frozen 0
  have e0 : w.heap.size < WF.heap.size := by omega
  have e1 : w.heap.size + 1 < WF.heap.size := by omega
  clear hf0 hf1 hf0' hf1' o1 o2 hb hR0 hR1 H
  go_wp2_with fail
  have k0 : ((WF.setCell ⟨w.heap.size, 0, none⟩ (.slice (some ⟨b1, 0, none⟩) n1 c1)).setCell ⟨w.heap.size + 1, 0, none⟩ (.slice (some ⟨b2, 0, none⟩) n2 c2)).cell? ⟨w.heap.size, 0, none⟩ = some (.slice (some ⟨b1, 0, none⟩) n1 c1) := by
    rw [World.cell?_setCell_other _ _ _ _ (by simp)]; exact World.cell?_setCell_same _ _ _ g0
  have k1 : ((WF.setCell ⟨w.heap.size, 0, none⟩ (.slice (some ⟨b1, 0, none⟩) n1 c1)).setCell ⟨w.heap.size + 1, 0, none⟩ (.slice (some ⟨b2, 0, none⟩) n2 c2)).cell? ⟨w.heap.size + 1, 0, none⟩ = some (.slice (some ⟨b2, 0, none⟩) n2 c2) :=
    World.cell?_setCell_same _ _ _ (by rw [World.cell?_setCell_other _ _ _ _ (by simp)]; exact g1)
  refine bodyPost_ret (v := .tuple #[.agg #[.slice (some ⟨b1, 0, none⟩) n1 c1], .agg #[.slice (some ⟨b2, 0, none⟩) n2 c2]]) (by rw [results, Try.results32]; simp [go_sem, k0, k1]) rfl ?_
  exact two_done SF.out.1 SF.out.2.1 l1 l2 SF.out.2.2 _ (by simp) (((Below.refl _ _).setCell (by simp) _).setCell (by simp) _) (fun k hk => (Below.heap_setCell _ _ _ k (by simp; omega)).trans (Below.heap_setCell _ _ _ k (by simp; omega)))

theorem listEq_symm {α : Type} {f : α → α → Bool} (hf : ∀ a b, f a b = f b a) : ∀ l m : List α, listEq f l m = listEq f m l
  | [], [] => rfl
  | [], _ :: _ => rfl
  | _ :: _, [] => rfl
  | a :: l, b :: m => by unfold listEq; rw [hf a b, listEq_symm hf l m]
theorem listEq_refl {α : Type} {f : α → α → Bool} (hf : ∀ a, f a a = true) : ∀ l : List α, listEq f l l = true
  | [] => rfl
  | a :: l => by unfold listEq; rw [hf a, listEq_refl hf l]; rfl
theorem sEq_symm (a b : ByteArray) : sEq a b = sEq b a := by unfold sEq; exact Bool.beq_comm
theorem sEq_refl (a : ByteArray) : sEq a a = true := (sEq_iff a a).2 rfl
theorem eEq_symm (a b : LEnt) : eEq a b = eEq b a := by unfold eEq; rw [sEq_symm, Bool.beq_comm (a := a.id)]
theorem eEq_refl (a : LEnt) : eEq a a = true := eEq_yes rfl rfl
theorem oLike_symm (a b : LObj) : oLike a b = oLike b a := by unfold oLike; rw [sEq_symm, Bool.beq_comm (a := a.kind), listEq_symm eEq_symm]
theorem oLike_refl (a : LObj) : oLike a a = true := by unfold oLike; rw [sEq_refl, listEq_refl eEq_refl]; simp
theorem oSame_symm (a b : LObj) : oSame a b = oSame b a := by unfold oSame; rw [oLike_symm, Bool.beq_comm (a := a.ver)]
theorem oSame_refl (a : LObj) : oSame a a = true := by unfold oSame; rw [oLike_refl]; simp
/-- The same Vers. -/
def vEq (a b : LObj) : Bool := a.ver == b.ver
theorem same_like : ∀ l m : List LObj, listEq oSame l m = (listEq oLike l m && listEq vEq l m)
  | [], [] => rfl
  | [], _ :: _ => rfl
  | _ :: _, [] => rfl
  | a :: l, b :: m => by
    unfold listEq
    rw [same_like l m]
    show (a.ver == b.ver && oLike a b && _) = _
    unfold vEq
    cases (a.ver == b.ver) <;> cases oLike a b <;> cases listEq oLike l m <;> simp
theorem cmb {sm lk v : Bool} (h : sm = (lk && v)) : (sm = true ∧ lk = true) ∨ (sm = false ∧ lk = true) ∨ (sm = false ∧ lk = false) := by
  cases sm <;> cases lk <;> cases v <;> simp_all
/-- What is known of the Vers of the first j objects. -/
def VInv (os1 os2 : List LObj) (j : Nat) (vb : Bool) : Prop :=
  (vb = true ∧ os1.length = os2.length ∧ ∀ i, i < j → ∀ x y, os1[i]? = some x → os2[i]? = some y → vEq x y = true) ∨ (vb = false ∧ listEq vEq os1 os2 = false)
theorem VInv.end_ {os1 os2 : List LObj} {j : Nat} {vb : Bool} (h : VInv os1 os2 j vb) (hj : os1.length ≤ j ∨ vb = false) : vb = listEq vEq os1 os2 := by
  rcases h with ⟨rfl, h1, h2⟩ | ⟨rfl, h1⟩
  · rcases hj with hj | hj
    · exact (listEq_yes h1 fun i x y hx hy => h2 i (by have := (List.getElem?_eq_some_iff.1 hx).1; omega) x y hx hy).symm
    · cases hj
  · exact h1.symm
theorem VInv.step {os1 os2 : List LObj} {j : Nat} (h : VInv os1 os2 j true) {x y : LObj} (hx : os1[j]? = some x) (hy : os2[j]? = some y) : VInv os1 os2 (j + 1) (x.ver == y.ver) := by
  rcases h with ⟨_, h1, h2⟩ | ⟨h0, _⟩
  · cases hv : (x.ver == y.ver)
    · exact .inr ⟨rfl, listEq_no hx hy hv⟩
    · refine .inl ⟨rfl, h1, fun i hi u v hu hw => ?_⟩
      by_cases e : i = j
      · subst e
        rw [hx] at hu
        rw [hy] at hw
        obtain rfl : x = u := by simpa using hu
        obtain rfl : y = v := by simpa using hw
        exact hv
      · exact h2 i (by omega) u v hu hw
  · cases h0
theorem SSt.ver {W : World} {L T b n j : Nat} {os : List LObj} (h : ObjsAt W L T (some ⟨b, 0, none⟩) n os) (hj : j < n) : ∃ x, os[j]? = some x ∧ W.cell? ⟨b, j * 4 + 1, none⟩ = some (.int .i64 x.ver) ∧ b < T := by
  obtain ⟨b0, o0, ha0, _, hU0, hcell⟩ := h.at_ (by omega)
  obtain ⟨rfl, rfl⟩ : b = b0 ∧ 0 = o0 := by simpa using ha0
  obtain ⟨o', ka, kn, kc, ho', _, _, c1, _⟩ := hcell j hj
  simp only [Nat.zero_add] at c1
  exact ⟨o', ho', c1, hU0⟩
/-- In the midst of the law: the boxes of the two trees, and the trees. -/
structure SSt (w W : World) (TA TB b1 n1 c1 b2 n2 c2 : Nat) (os1 os2 : List LObj) : Prop where
  below : Below w.heap.size w W
  qa : W.cell? ⟨TA, 0, none⟩ = some (.slice (some ⟨b1, 0, none⟩) n1 c1)
  qb : W.cell? ⟨TB, 0, none⟩ = some (.slice (some ⟨b2, 0, none⟩) n2 c2)
  lo : w.heap.size ≤ TA ∧ TA < TB
  lt : TB < W.heap.size
  o1 : ObjsAt W w.heap.size TA (some ⟨b1, 0, none⟩) n1 os1
  o2 : ObjsAt W w.heap.size TA (some ⟨b2, 0, none⟩) n2 os2
theorem SSt.next {w W W' : World} {TA TB b1 n1 c1 b2 n2 c2 : Nat} {os1 os2 : List LObj} (h : SSt w W TA TB b1 n1 c1 b2 n2 c2 os1 os2) (hb : Below W.heap.size W W') : SSt w W' TA TB b1 n1 c1 b2 n2 c2 os1 os2 := by
  have h1 := h.lo
  have h2 := h.lt
  exact ⟨h.below.trans (hb.mono (by omega)), by rw [hb.cell (by simp; omega)]; exact h.qa, by rw [hb.cell (by simpa using h2)]; exact h.qb, h1, by have := hb.size; omega, h.o1.below hb (by omega), h.o2.below hb (by omega)⟩

set_option maxHeartbeats 4000000 in
set_option maxRecDepth 20000 in
theorem walkTreeSame (a : Option Addr) (n c : Nat) (zs : List Int) (w : World) (hc : n ≤ c) (hcb : n ≤ maxLen) (H : BytesAt w w.heap.size a n zs) :
    Calls Try.prog 4 #[.slice a n c] w fun e w' => e = .returned (.bool true) ∧ Below w.heap.size w w' := by
  unfold maxLen at hcb
  by_cases hbig : 1048576 < n
  · go_enter Try.func4, Try.ntmps4
    go_wp2_with fail
    go_ret
    exact ⟨rfl, Below.refl _ _⟩
  go_enter Try.func4, Try.ntmps4
  go_wp2_with fail
  refine (drawSame a n c zs w (by omega) hc H).mono ?_
  rintro e W1 ⟨⟨b1, n1, c1, os1, b2, n2, c2, os2, rfl, o1, o2, l1, l2⟩, hb1⟩
  have hz1 := hb1.size
  clear H
  go_wp2_with fail
  have S1 : SSt w ((W1.alloc (Obj.cells #[.slice (some ⟨b1, 0, none⟩) n1 c1] 25)).alloc (Obj.cells #[.slice (some ⟨b2, 0, none⟩) n2 c2] 25)) W1.heap.size (W1.heap.size + 1) b1 n1 c1 b2 n2 c2 os1 os2 :=
    ⟨(hb1.alloc hz1 _).alloc (by simp; omega) _, by simp [go_sem], by simp [go_sem], by omega, by simp, o1.below (((Below.refl _ _).alloc (Nat.le_refl _) _).alloc (by simp) _) (Nat.le_refl _), o2.below (((Below.refl _ _).alloc (Nat.le_refl _) _).alloc (by simp) _) (Nat.le_refl _)⟩
  generalize hW2 : (W1.alloc (Obj.cells #[.slice (some ⟨b1, 0, none⟩) n1 c1] 25)).alloc (Obj.cells #[.slice (some ⟨b2, 0, none⟩) n2 c2] 25) = W2 at *
  generalize hTA : W1.heap.size = TA at *
  clear hW2 hTA o1 o2 hb1
  refine (implSame _ _ _ _ _ _ _ _ w.heap.size TA w.heap.size TA _ (by have := S1.lt; omega) (by have := S1.lt; omega) S1.o1 S1.o2).mono ?_
  rintro e W3 ⟨rfl, hb3⟩
  have S3 := S1.next hb3
  have qa3 := S3.qa
  have qb3 := S3.qb
  clear S1 hb3
  generalize hsm : listEq oSame os1 os2 = sm at *
  have HSM : Hid (listEq oSame os1 os2 = sm) := hsm
  clear hsm
  go_wp2_with fail
  refine (implLike _ _ _ _ _ _ _ _ w.heap.size TA w.heap.size TA _ (by have := S3.lt; omega) (by have := S3.lt; omega) S3.o1 S3.o2).mono ?_
  rintro e W4 ⟨rfl, hb4⟩
  have S4 := S3.next hb4
  have qa4 := S4.qa
  have qb4 := S4.qb
  clear S3 hb4 qa3 qb3
  generalize hlk : listEq oLike os1 os2 = lk at *
  have HLK : Hid (listEq oLike os1 os2 = lk) := hlk
  clear hlk
  have HSL : Hid (sm = (lk && listEq vEq os1 os2)) := by show _ = _; rw [← HSM.out, ← HLK.out]; exact same_like os1 os2
  have hcmb : (sm = true ∧ lk = true) ∨ (sm = false ∧ lk = true) ∨ (sm = false ∧ lk = false) := by
    exact cmb HSL.out
  have HRF : Hid (listEq oSame os1 os1 = true) := listEq_refl oSame_refl os1
  have HSY : Hid (listEq oSame os2 os1 = sm) := by show _ = _; rw [listEq_symm oSame_symm]; exact HSM.out
  have HLY : Hid (listEq oLike os2 os1 = lk) := by show _ = _; rw [listEq_symm oLike_symm]; exact HLK.out
  have HV : Hid (∀ vb, vb = listEq vEq os1 os2 → (sm == (lk && vb)) = true) := fun vb hv => by rw [hv, ← HSL.out]; simp
  have hn1 : n1 = os1.length := S4.o1.len
  have hn2 : n2 = os2.length := S4.o2.len
  have HN : Hid (n1 = os1.length ∧ n2 = os2.length) := ⟨hn1, hn2⟩
  clear hn1 hn2 HSL
  rcases hcmb with ⟨rfl, rfl⟩ | ⟨rfl, rfl⟩ | ⟨rfl, rfl⟩
  all_goals
    go_wp2_with fail
    refine (specSame _ _ _ _ _ _ _ _ w.heap.size TA w.heap.size TA _ (by have := S4.lt; omega) (by have := S4.lt; omega) S4.o1 S4.o2).mono ?_
    rintro e W5 ⟨rfl, hb5⟩
    have S5 := S4.next hb5
    have qa5 := S5.qa
    have qb5 := S5.qb
    clear hb5
    rw [HSM.out]
    go_wp2_with fail
    refine (specLike _ _ _ _ _ _ _ _ w.heap.size TA w.heap.size TA _ (by have := S5.lt; omega) (by have := S5.lt; omega) S5.o1 S5.o2).mono ?_
    rintro e W6 ⟨rfl, hb6⟩
    have S6 := S5.next hb6
    have qa6 := S6.qa
    have qb6 := S6.qb
    clear hb6
    rw [HLK.out]
    go_wp2_with fail
    refine (implSame _ _ _ _ _ _ _ _ w.heap.size TA w.heap.size TA _ (by have := S6.lt; omega) (by have := S6.lt; omega) S6.o1 S6.o1).mono ?_
    rintro e W7 ⟨rfl, hb7⟩
    have S7 := S6.next hb7
    have qa7 := S7.qa
    have qb7 := S7.qb
    clear hb7
    rw [HRF.out]
    go_wp2_with fail
    refine (implSame _ _ _ _ _ _ _ _ w.heap.size TA w.heap.size TA _ (by have := S7.lt; omega) (by have := S7.lt; omega) S7.o2 S7.o1).mono ?_
    rintro e W8 ⟨rfl, hb8⟩
    have S8 := S7.next hb8
    have qa8 := S8.qa
    have qb8 := S8.qb
    clear hb8
    rw [HSY.out]
    go_wp2_with fail
    refine (implLike _ _ _ _ _ _ _ _ w.heap.size TA w.heap.size TA _ (by have := S8.lt; omega) (by have := S8.lt; omega) S8.o2 S8.o1).mono ?_
    rintro e W9 ⟨rfl, hb9⟩
    have S9 := S8.next hb9
    have qa9 := S9.qa
    have qb9 := S9.qb
    clear hb9
    rw [HLY.out]
    go_wp2_with fail
    clear qa4 qb4 qa5 qb5 qa6 qb6 qa7 qb7 qa8 qb8 S4 S5 S6 S7 S8 HSM HLK HRF HSY HLY
    go_loopg [7, 8] n1 (fun g v i wr => ∃ j : Nat, j ≤ n1 ∧ Hid (g = n1 - j) ∧ i = .int .i64 j ∧ (∃ vb, v = .bool vb ∧ Hid (VInv os1 os2 j vb)) ∧ Hid (SSt w wr TA (TA + 1) b1 n1 c1 b2 n2 c2 os1 os2))
    case atStart =>
      refine ⟨0, by omega, rfl, rfl, ⟨_, rfl, ?_⟩, S9⟩
      show VInv _ _ _ _
      obtain ⟨e1, e2⟩ := HN.out
      by_cases hnn : n1 = n2
      · exact .inl ⟨by simp [hnn], by omega, fun i hi => by omega⟩
      · exact .inr ⟨by simp; omega, listEq_len (by omega)⟩
    case round =>
      obtain ⟨j, hj, hg, rfl, ⟨vb, rfl, HVI⟩, HL⟩ := hrel
      have qa := HL.out.qa
      have qb := HL.out.qb
      have hl1 := HL.out.lt
      have hl2 := HL.out.lo
      by_cases hlt : j < n1
      · have hltI : (j : Int) < (n1 : Int) := by omega
        cases vb
        · go_wp2_with fail
          go_ret
          exact ⟨ret_bool (by first | (simp; done) | simpa using HV.out false (HVI.out.end_ (.inr rfl))), HL.out.below⟩
        · have hj2 : j < n2 := by
            obtain ⟨e1, e2⟩ := HN.out
            rcases HVI.out with ⟨_, h1, _⟩ | ⟨h0, _⟩
            · omega
            · cases h0
          have hj2I : (j : Int) < (n2 : Int) := by omega
          obtain ⟨x, hx, cx, hbx⟩ := SSt.ver HL.out.o1 hlt
          obtain ⟨y, hy, cy, hby⟩ := SSt.ver HL.out.o2 hj2
          have hb1l : b1 < wr.heap.size := by omega
          have hb2l : b2 < wr.heap.size := by omega
          have HST : Hid (VInv os1 os2 (j + 1) (x.ver == y.ver)) := HVI.out.step hx hy
          clear hx hy
          go_upto_region 12 with fail
          go_quiet (fail)
          go_wp2_with fail
          go_roundg (n1 - (j + 1))
          case measure => have := hg.out; omega
          case rel => exact ⟨j + 1, by omega, rfl, by go_num, ⟨_, rfl, HST⟩, HL.out.next ⟨rfl, rfl, rfl, Nat.le_refl _, fun _ _ => rfl⟩⟩
      · have hltI : ¬ (j : Int) < (n1 : Int) := by omega
        have HE : Hid (vb = listEq vEq os1 os2) := HVI.out.end_ (.inl (by have := HN.out; omega))
        go_wp2_with fail
        go_ret
        exact ⟨ret_bool (by first | (simp; done) | simpa using HV.out vb HE.out), HL.out.below⟩
end Go.Proofs.Ytjenldenggaljaa
