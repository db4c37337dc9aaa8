/-
  At every tree, two numbers and every list of what is done the call of laws.FnExactLogMake returns true: the program's LogMake answers as the specification's, writes into no argument, and its answer owns its memory, behind another call too; its arguments read behind the call as they did. No condition.
-/
import Derived.Test.YtdjffkiiglilnaaLogMk
import Derived.Test.YtdjffkiiglilnaaSameAll
import Derived.Test.YtdjffkiiglilnaaEq
import Derived.Test.YtdjffkiiglilnaaClosed
import Derived.Deep.DeepCutAuto
import Derived.ProofKit
import Derived.OpenShut
import Derived.ShutString
import Derived.ChangeOld
namespace Go.Proofs.Ytdjffkiiglilnaa
open Go.RowKit

theorem OwnBases.at_ {w : World} {B : Nat} {a : Option Addr} {n c : Nat} {l : List LBase} (h : OwnBases w B (.slice a n c) l) (hl : l.length ≤ 1000) : BasesAt w B w.heap.size a n l := by
  obtain ⟨a1, c1, g, cap, f, e, _, hr, hf⟩ := h.row
  simp only [Value.slice.injEq] at e
  obtain ⟨rfl, rfl, rfl⟩ := e
  exact hr.at_ hf rfl (by unfold maxLen; omega)
theorem MakeEnd.log {w w' : World} {l : LLog} {e : Ending} (h : MakeEnd w l e w') (hb : l.bases.length ≤ 32) (hz : ∀ o ∈ l.list, OpSz o) : ∃ a c a' c', e = .returned (.agg #[.int .i64 l.who, .int .i64 l.seq, .slice a l.bases.length c, .slice a' l.list.length c']) ∧ LogAt w' w.heap.size w'.heap.size l.who l.seq a l.bases.length a' l.list.length l ∧ OwnBases w' w.heap.size (.slice a l.bases.length c) l.bases ∧ OwnOps w' w.heap.size (.slice a' l.list.length c') l.list ∧ Below w.heap.size w w' := by
  obtain ⟨⟨v1, v2, rfl, h1, h2⟩, hB⟩ := h
  obtain ⟨a, c, rfl⟩ := h1.form
  obtain ⟨a', c', rfl, h2'⟩ := h2.at_ hz
  exact ⟨a, c, a', c', rfl, ⟨rfl, rfl, h1.at_ (by omega), h2'⟩, h1, h2, hB⟩
theorem logMake_small (os : List LObj) (q s : Int) (ops : List LOp) (hz : ∀ o ∈ ops, OpSz o) : (logMake os q s ops).bases.length ≤ 32 ∧ (logMake os q s ops).list.length ≤ 60 ∧ ∀ o ∈ (logMake os q s ops).list, OpSz o := by
  unfold logMake
  split
  · next h =>
    simp only [Bool.and_eq_true] at h
    exact ⟨by rw [basesL_len]; exact logIds_le _, formsB_len h.2, hz⟩
  · exact ⟨by simp, by simp, fun o ho => by cases ho⟩
theorem OwnOps.capM_ {w : World} {B : Nat} {a : Option Addr} {n c : Nat} {l : List LOp} (h : OwnOps w B (.slice a n c) l) : n ≤ c ∧ c ≤ maxLen := by
  rcases h.2 with ⟨e, h0⟩ | ⟨g, cap, cur, e, _, _, h1, h2, _⟩
  · cases e; exact ⟨by omega, Nat.zero_le _⟩
  · cases e; exact ⟨h1, h2⟩
/-- A tree in its box. -/
structure HeldM (w wx : World) (ta : Option Addr) (tn tc : Nat) : Prop where
  below : Below w.heap.size w wx
  box : wx.cell? ⟨w.heap.size, 0, none⟩ = some (.slice ta tn tc)
  size : w.heap.size < wx.heap.size
theorem HeldM.next {w wx wy : World} {ta : Option Addr} {tn tc : Nat} (h : HeldM w wx ta tn tc) (hb : Below wx.heap.size wx wy) : HeldM w wy ta tn tc :=
  ⟨h.below.trans (hb.mono h.below.size), by rw [hb.cell (by have := h.size; simp; omega)]; exact h.box, by have := hb.size; have := h.size; omega⟩
theorem HeldM.under {w wx wy : World} {ta : Option Addr} {tn tc B : Nat} (h : HeldM w wx ta tn tc) (hb : Below B wx wy) (hB : w.heap.size < B) : HeldM w wy ta tn tc :=
  ⟨h.below.trans (hb.mono (by omega)), by rw [hb.cell (by simpa using hB)]; exact h.box, by have := hb.size; have := h.size; omega⟩
theorem HeldM.new (w : World) (ta : Option Addr) (tn tc : Nat) (t : TypeId) : HeldM w (w.alloc (Obj.cells #[.slice ta tn tc] t)) ta tn tc := ⟨(Below.refl _ _).alloc (Nat.le_refl _) _, by simp [go_sem], by simp⟩
theorem LogBox.mk_ (w : World) (q s : Int) (a : Option Addr) (n c : Nat) (a' : Option Addr) (n' c' : Nat) (t : TypeId) : LogBox (w.alloc (Obj.cells #[.int .i64 q, .int .i64 s, .slice a n c, .slice a' n' c'] t)) w.heap.size q s a n c a' n' c' := ⟨by simp [go_sem], by simp [go_sem], by simp [go_sem], by simp [go_sem]⟩

theorem LogMarked.below {w w' : World} {B : Nat} {a : Option Addr} {n g cap : Nat} {a' : Option Addr} {n' g' cap' : Nat} {f f' : Nat → Value} (h : LogMarked w B a n g cap a' n' g' cap' f f') (hb : Below w.heap.size w w') : LogMarked w' B a n g cap a' n' g' cap' f f' := ⟨h.b.below hb, h.bm, h.o.below hb, h.om⟩
theorem rows_apart {w : World} {B x y : Nat} (hx : x < B) (hy : y < B) (hxy : x ≠ y) (hBw : B ≤ w.heap.size) {a a' : Option Addr} {c c' : Nat} {bs : List LBase} {ops : List LOp} (hb : OwnBases w B (.slice a bs.length c) bs) (ho : OwnOps w B (.slice a' ops.length c') ops) :
    ∃ g cap f g' cap' f', BaseRow w B a bs.length g cap f ∧ (∀ i, i < bs.length → baseC f i) ∧ OpRow w B a' ops.length g' cap' f' ∧ (∀ i, i < ops.length → OpCell f' i) ∧ (g = x ∨ B ≤ g) ∧ g < w.heap.size ∧ (g' = y ∨ B ≤ g') ∧ g' < w.heap.size ∧ g ≠ g' := by
  obtain ⟨a1, c1, g, cap, f, e1, hg, hr, hf⟩ := hb.row
  obtain ⟨a2, c2, g', cap', f', e2, hg', hr', hf'⟩ := ho.row
  simp only [Value.slice.injEq] at e1 e2
  obtain ⟨rfl, _, rfl⟩ := e1
  obtain ⟨rfl, _, rfl⟩ := e2
  have hfc : ∀ i, i < bs.length → baseC f i := fun i hi => ⟨bs[i], hf i bs[i] (by simp [hi])⟩
  by_cases h0 : bs.length = 0
  · by_cases h1 : ops.length = 0
    · exact ⟨x, cap, f, y, cap', f', fun h => absurd h0 h, hfc, fun h => absurd h1 h, hf', .inl rfl, by omega, .inl rfl, by omega, hxy⟩
    · have := (hr' h1).2.2.2.lt
      exact ⟨x, cap, f, g', cap', f', fun h => absurd h0 h, hfc, hr', hf', .inl rfl, by omega, .inr hg', this, by omega⟩
  · have l0 := (hr h0).2.2.2.lt
    by_cases h1 : ops.length = 0
    · exact ⟨g, cap, f, y, cap', f', hr, hfc, fun h => absurd h1 h, hf', .inr hg, l0, .inl rfl, by omega, by omega⟩
    · have l1 := (hr' h1).2.2.2.lt
      refine ⟨g, cap, f, g', cap', f', hr, hfc, hr', hf', .inr hg, l0, .inr hg', l1, fun e => ?_⟩
      obtain ⟨c0, k0, _⟩ := (hr h0).2.2.2
      obtain ⟨c1, k1, _⟩ := (hr' h1).2.2.2
      rw [e, k1] at k0
      simp at k0

section
variable (w : World) (ta : Option Addr) (tn tc : Nat) (l : LLog) (s4 s5 s8 : Nat) (a5 : Option Addr) (c5 : Nat) (a5' : Option Addr) (c5' : Nat) (a8 : Option Addr) (c8 : Nat) (a8' : Option Addr) (c8' : Nat)
/-- What stays to the end. -/
structure MkC (X : World) : Prop where
  hm : HeldM w X ta tn tc
  la : LogAt X s4 s5 l.who l.seq a5 l.bases.length a5' l.list.length l
  bx : LogBox X s5 l.who l.seq a5 l.bases.length c5 a5' l.list.length c5'
  bg : LogBox X s8 l.who l.seq a8 l.bases.length c8 a8' l.list.length c8'
  z5 : s5 < s8
  z : s8 < X.heap.size
  z0 : w.heap.size ≤ s5
variable {w ta tn tc l s4 s5 s8 a5 c5 a5' c5' a8 c8 a8' c8'}
theorem MkC.of {X Y : World} (h : MkC w ta tn tc l s4 s5 s8 a5 c5 a5' c5' a8 c8 a8' c8' X) (hb : Below (s5 + 1) X Y) (h8 : Y.heap[s8]? = X.heap[s8]?) : MkC w ta tn tc l s4 s5 s8 a5 c5 a5' c5' a8 c8 a8' c8' Y :=
  ⟨h.hm.under hb (by have := h.z0; omega), h.la.below hb (by omega), h.bx.of (hb.block _ (by omega)), h.bg.of h8, h.z5, by have := hb.size; have := h.z; omega, h.z0⟩
theorem MkC.next {X Y : World} (h : MkC w ta tn tc l s4 s5 s8 a5 c5 a5' c5' a8 c8 a8' c8' X) (hb : Below X.heap.size X Y) : MkC w ta tn tc l s4 s5 s8 a5 c5 a5' c5' a8 c8 a8' c8' Y := h.of (hb.mono (by have := h.z; have := h.z5; omega)) (hb.block _ h.z)
end
section
variable (l : LLog) (s7 s8 : Nat) (a8 : Option Addr) (a8' : Option Addr) (g cap : Nat) (f : Nat → Value) (g' cap' : Nat) (f' : Nat → Value)
/-- What stays till the log is marked. -/
structure MkB (X : World) : Prop where
  gl : LogAt X s7 s8 l.who l.seq a8 l.bases.length a8' l.list.length l
  rb : BaseRow X s7 a8 l.bases.length g cap f
  ro : OpRow X s7 a8' l.list.length g' cap' f'
  lg : g < s8
  lg' : g' < s8
  z : s8 < X.heap.size
variable {l s7 s8 a8 a8' g cap f g' cap' f'}
theorem MkB.of {X Y : World} (h : MkB l s7 s8 a8 a8' g cap f g' cap' f' X) (hz : s8 < Y.heap.size) (hb : ∀ b, s7 ≤ b → b < s8 → Y.heap[b]? = X.heap[b]?) : MkB l s7 s8 a8 a8' g cap f g' cap' f' Y :=
  ⟨⟨h.gl.q, h.gl.s, h.gl.b.blocks hb, h.gl.o.blocks hb⟩, fun hn => by obtain ⟨h1, h2, h3, h4⟩ := h.rb hn; exact ⟨h1, h2, h3, h4.of_block (hb _ h2 h.lg)⟩, fun hn => by obtain ⟨h1, h2, h3, h4⟩ := h.ro hn; exact ⟨h1, h2, h3, h4.of_block (hb _ h2 h.lg')⟩, h.lg, h.lg', hz⟩
theorem MkB.next {X Y : World} (h : MkB l s7 s8 a8 a8' g cap f g' cap' f' X) (hb : Below X.heap.size X Y) : MkB l s7 s8 a8 a8' g cap f g' cap' f' Y := h.of (by have := hb.size; have := h.z; omega) (fun b _ hb8 => hb.block b (by have := h.z; omega))
end
section
variable (tn : Nat) (os : List LObj) (n : Nat) (ops : List LOp) (t5 s6 s7 b6 b7 : Nat) (f7 : Nat → Value)
/-- What stays till the arguments are marked. -/
structure MkA (X : World) : Prop where
  c11 : X.cell? ⟨s6, 0, none⟩ = some (.slice (some ⟨b6, 0, none⟩) tn tn)
  o : ObjsAt X t5 s6 (some ⟨b6, 0, none⟩) tn os
  ty : TypedO X t5 s6 (some ⟨b6, 0, none⟩) tn os
  row : X.rowIs b7 99 (n * 7) f7
  p : OpsAt X (s6 + 1) s7 (some ⟨b7, 0, none⟩) n ops
  z6 : s6 < s7
  z7 : s7 < X.heap.size
variable {tn os n ops t5 s6 s7 b6 b7 f7}
theorem MkA.next {X Y : World} (h : MkA tn os n ops t5 s6 s7 b6 b7 f7 X) (hb : Below X.heap.size X Y) : MkA tn os n ops t5 s6 s7 b6 b7 f7 Y :=
  ⟨by rw [hb.cell (by have := h.z6; have := h.z7; simp; omega)]; exact h.c11, h.o.below hb (by have := h.z6; have := h.z7; omega), h.ty.keep (Keeps.below hb), h.row.of_block (hb.block _ h.row.lt), h.p.below hb (by have := h.z7; omega), h.z6, by have := hb.size; have := h.z7; omega⟩
end

set_option maxHeartbeats 4000000 in
set_option maxRecDepth 20000 in
theorem walkLogMake (ta : Option Addr) (tn tc : Nat) (os : List LObj) (q s : Int) (a : Option Addr) (n c : Nat) (ops : List LOp) (w : World) (H : ObjsAt w 0 w.heap.size ta tn os) (H' : OpsAt w 0 w.heap.size a n ops) :
    Calls Try.prog 5 #[.agg #[.slice ta tn tc], .int .i64 q, .int .i64 s, .slice a n c] w fun e w' => e = .returned (.bool true) ∧ Below w.heap.size w w' := by
  have hA := HeldM.new w ta tn tc 48
  obtain ⟨hb32, hl60, hzl⟩ := logMake_small os q s ops H'.sz
  obtain ⟨l, hl⟩ : ∃ l, l = logMake os q s ops := ⟨_, rfl⟩
  have HL : Hid (l = logMake os q s ops) := hl
  rw [← hl] at hb32 hl60 hzl
  have HZL : Hid (∀ o ∈ l.list, OpSz o) := hzl
  have HTN : Hid (tn = os.length) := H.len
  clear hl hzl
  go_enter Try.func5, Try.ntmps5
  go_wp2_with fail
  refine (szTree_any _ _ _ os 0 w.heap.size _ _ (by omega) (by omega) hA.below.size (H.below hA.below (Nat.le_refl _))).mono ?_
  rintro x w1 ⟨⟨r1, rfl, hr⟩, hb1⟩
  have HR : Hid (r1 = -1 ∨ 0 ≤ r1 ∧ r1 = 1048576 - tn - totT os) := hr
  have h1 := hA.next hb1
  clear hr hb1 hA
  by_cases hneg : r1 < 0
  · go_wp2_with fail
    go_ret
    exact ⟨rfl, h1.below⟩
  go_wp2_with fail
  refine (szOpS_any _ _ _ _ 0 w.heap.size _ _ (by omega) (by have := HR.out; omega) h1.below.size (H'.below h1.below (Nat.le_refl _))).mono ?_
  rintro x w2 ⟨⟨r2, rfl, hr2⟩, hb2⟩
  have HR2 : Hid (r2 = -1 ∨ 0 ≤ r2 ∧ r2 = r1 - n - totOps ops) := hr2
  have h2 := h1.next hb2
  clear hr2 hb2 h1
  by_cases hneg2 : r2 < 0
  · go_wp2_with fail
    go_ret
    exact ⟨rfl, h2.below⟩
  have htn : tn ≤ 1048576 := by have := HR.out; omega
  have htot : tn + totT os ≤ 1048576 := by have := HR.out; omega
  have hS1 : Sizes os 1048576 := sizes_of (by omega)
  have hn1 : n ≤ 1048576 := by have := HR.out; have := HR2.out; omega
  have HTOT : Hid (tn + totT os ≤ 1048576) := htot
  clear HR HR2 htot
  have bx := h2.box
  have sx := h2.size
  go_wp2_with fail
  refine (toTree_any _ _ _ os 0 w.heap.size _ htn hS1 h2.below.size (H.below h2.below (Nat.le_refl _))).mono ?_
  rintro x w3 ⟨⟨b3, rfl, h3o⟩, hb3⟩
  have h3 := h2.next hb3
  clear hb3 h2 bx sx
  go_wp2_with fail
  refine (toOpS_any _ _ _ _ 0 w.heap.size _ hn1 h3.below.size (H'.below h3.below (Nat.le_refl _))).mono ?_
  rintro x w4 ⟨⟨b4, rfl, h4p⟩, hb4⟩
  have h4 := h3.next hb4
  have h4o := h3o.below hb4 (Nat.le_refl _)
  have hz34 := hb4.size
  clear hb4 h3 h3o
  go_wp2_with fail
  refine (specLogMake _ _ _ os _ _ _ _ _ _ _ ops _ _ _ hz34 (Nat.le_refl _) hS1 h4o h4p).mono ?_
  rintro x w5 hM5
  rw [← HL.out] at hM5
  obtain ⟨a5, c5, a5', c5', rfl, hL5, _, _, hb5⟩ := hM5.log hb32 HZL.out
  have h5 := h4.next hb5
  have hB5 := LogBox.mk_ w5 l.who l.seq a5 l.bases.length c5 a5' l.list.length c5' 29
  have hal5 : Below w5.heap.size w5 (w5.alloc (Obj.cells #[.int .i64 l.who, .int .i64 l.seq, .slice a5 l.bases.length c5, .slice a5' l.list.length c5'] 29)) := (Below.refl _ _).alloc (Nat.le_refl _) _
  obtain ⟨W5, hW5⟩ : ∃ W : World, W = w5.alloc (Obj.cells #[.int .i64 l.who, .int .i64 l.seq, .slice a5 l.bases.length c5, .slice a5' l.list.length c5'] 29) := ⟨_, rfl⟩
  rw [← hW5] at hB5 hal5
  have hzW5 : W5.heap.size = w5.heap.size + 1 := by rw [hW5]; simp
  have h5W := h5.next hal5
  have HLA : Hid (LogAt W5 w4.heap.size w5.heap.size l.who l.seq a5 l.bases.length a5' l.list.length l) := hL5.below hal5 (Nat.le_refl _)
  have HBX : Hid (LogBox W5 w5.heap.size l.who l.seq a5 l.bases.length c5 a5' l.list.length c5') := hB5
  have HHM : Hid (HeldM w W5 ta tn tc) := h5W
  have bx : ∀ o : Obj, (w5.alloc o).cell? ⟨w.heap.size, 0, none⟩ = some (.slice ta tn tc) := fun o => by
    rw [((Below.refl w5.heap.size w5).alloc (Nat.le_refl _) o).cell (by have := h5.size; simpa using this)]; exact h5.box
  have sx := h5W.size
  have hw5 : w.heap.size ≤ w5.heap.size := h5.below.size
  clear hb5 hM5 hB5 hal5 hL5 h4 h5 h4o h4p hz34
  go_wp2_with fail
  rw [← hW5]
  clear hW5
  refine (toTree_u _ _ _ os 0 w.heap.size _ htn hS1 h5W.below.size (H.below h5W.below (Nat.le_refl _))).mono ?_
  rintro x w6 ⟨⟨b6, rfl, h6o⟩, hb6, hu6⟩
  have HTY : Hid (TypedO w6 W5.heap.size w6.heap.size (some ⟨b6, 0, none⟩) tn os) := h6o.typed (Nat.le_refl _) hu6
  have hzb6 := hb6.size
  obtain ⟨W6, hW6⟩ : ∃ W : World, W = w6.alloc (Obj.cells #[.slice (some ⟨b6, 0, none⟩) tn tn] 25) := ⟨_, rfl⟩
  have hal6 : Below w6.heap.size w6 W6 := by rw [hW6]; exact (Below.refl _ _).alloc (Nat.le_refl _) _
  have hzW6 : W6.heap.size = w6.heap.size + 1 := by rw [hW6]; simp
  have c11 : W6.cell? ⟨w6.heap.size, 0, none⟩ = some (.slice (some ⟨b6, 0, none⟩) tn tn) := by rw [hW6]; simp [go_sem]
  have hD6 : Below W5.heap.size W5 W6 := hb6.trans (hal6.mono hzb6)
  have hO6 := h6o.below hal6 (Nat.le_refl _)
  have HTY6 : Hid (TypedO W6 W5.heap.size w6.heap.size (some ⟨b6, 0, none⟩) tn os) := HTY.out.keep (Keeps.below hal6)
  have hM6 := HHM.out.next hD6
  clear hb6 hu6 h6o HTY hal6 bx sx h5W
  go_wp2_with fail
  rw [← hW6]
  clear hW6
  refine (toOpS_row _ _ _ _ 0 w.heap.size _ hn1 hM6.below.size (H'.below hM6.below (Nat.le_refl _))).mono ?_
  rintro x w7 ⟨⟨b7, f7, rfl, hlo7, hhi7, hrow7, hcel7, h7p⟩, hb7⟩
  have hzb7 := hb7.size
  have hD7 : Below W5.heap.size W5 w7 := hD6.trans (hb7.mono (by omega))
  have c11b : w7.cell? ⟨w6.heap.size, 0, none⟩ = some (.slice (some ⟨b6, 0, none⟩) tn tn) := by rw [hb7.cell (by simp; omega)]; exact c11
  have hO7 := hO6.below hb7 (by omega)
  have HTY7 : Hid (TypedO w7 W5.heap.size w6.heap.size (some ⟨b6, 0, none⟩) tn os) := HTY6.out.keep (Keeps.below hb7)
  have HROW7 : Hid (w7.rowIs b7 99 (n * 7) f7 ∧ ∀ i, i < n → OpCell f7 i) := ⟨hrow7, hcel7⟩
  clear hb7 hD6 hO6 HTY6 hM6 c11 hrow7 hcel7
  go_wp2_with fail
  refine (implLogMake _ _ _ os _ _ _ _ _ _ _ ops _ _ _ (by omega) (Nat.le_refl _) (Nat.le_refl _) (by unfold maxLen; omega) hO7 h7p).mono ?_
  rintro x w8 hM8
  rw [← HL.out] at hM8
  obtain ⟨a8, c8, a8', c8', rfl, hL8, hOB8, hOO8, hb8⟩ := hM8.log hb32 HZL.out
  have hzb8 := hb8.size
  obtain ⟨g, cap, f, g', cap', f', hRB, hRC, hRO, hRC', hg, hg8, hg', hg8', hgg⟩ := rows_apart (w := w8) (B := w7.heap.size) (x := w6.heap.size) (y := b7) (by omega) hhi7 (by omega) hzb8 hOB8 hOO8
  have HRC : Hid (∀ i, i < l.bases.length → baseC f i) := hRC
  have HRC' : Hid (∀ i, i < l.list.length → OpCell f' i) := hRC'
  clear hRC hRC'
  obtain ⟨W8, hW8⟩ : ∃ W : World, W = w8.alloc (Obj.cells #[.int .i64 l.who, .int .i64 l.seq, .slice a8 l.bases.length c8, .slice a8' l.list.length c8'] 29) := ⟨_, rfl⟩
  have hal8 : Below w8.heap.size w8 W8 := by rw [hW8]; exact (Below.refl _ _).alloc (Nat.le_refl _) _
  have hzW8 : W8.heap.size = w8.heap.size + 1 := by rw [hW8]; simp
  have HBG : Hid (LogBox W8 w8.heap.size l.who l.seq a8 l.bases.length c8 a8' l.list.length c8') := by show LogBox _ _ _ _ _ _ _ _ _ _; rw [hW8]; exact LogBox.mk_ w8 _ _ _ _ _ _ _ _ _
  have hb78 : Below w7.heap.size w7 W8 := hb8.trans (hal8.mono hzb8)
  have hD8 : Below W5.heap.size W5 W8 := hD7.trans (hb78.mono (by omega))
  have HC8 : Hid (MkC w ta tn tc l w4.heap.size w5.heap.size w8.heap.size a5 c5 a5' c5' a8 c8 a8' c8' W8) :=
    ⟨HHM.out.next hD8, HLA.out.below hD8 (by omega), HBX.out.of (hD8.block _ (by omega)), HBG.out, by omega, by omega, hw5⟩
  have HB8 : Hid (MkB l w7.heap.size w8.heap.size a8 a8' g cap f g' cap' f' W8) :=
    ⟨hL8.below hal8 (Nat.le_refl _), hRB.below hal8, hRO.below hal8, hg8, hg8', by omega⟩
  have HA8 : Hid (MkA tn os n ops W5.heap.size w6.heap.size w7.heap.size b6 b7 f7 W8) :=
    ⟨by rw [hb78.cell (by simp; omega)]; exact c11b, hO7.below hb78 (by omega), HTY7.out.keep (Keeps.below hb78), HROW7.out.1.of_block (hb78.block b7 hhi7), by have := h7p.below hb78 (Nat.le_refl _); rw [hzW6] at this; exact this, by omega, by omega⟩
  have HCEL : Hid (∀ i, i < n → OpCell f7 i) := HROW7.out.2
  have HBX7 : Hid (LogBox w8 w5.heap.size l.who l.seq a5 l.bases.length c5 a5' l.list.length c5') := HBX.out.of ((hD7.trans (hb8.mono (by omega))).block _ (by omega))
  clear hal8 hb78 hD7 c11b hO7 HTY7 HROW7 h7p hM8 hL8 hOB8 hOO8 hb8 hRB hRO
  have hxx : ∀ o : Obj, LogBox (w8.alloc o) w5.heap.size l.who l.seq a5 l.bases.length c5 a5' l.list.length c5' := fun o => HBX7.out.of (((Below.refl w8.heap.size w8).alloc (Nat.le_refl _) o).block _ (by omega))
  have x0 := fun o => (hxx o).1
  have x1 := fun o => (hxx o).2
  have x2 := fun o => (hxx o).3
  have x3 := fun o => (hxx o).4
  clear hxx
  have hs58 : w5.heap.size < W8.heap.size := by omega
  have hs8 : w8.heap.size < W8.heap.size := by omega
  go_wp2_with fail
  rw [← hW8]
  clear hW8
  obtain ⟨s4, hs4⟩ : ∃ s, s = w4.heap.size := ⟨_, rfl⟩
  obtain ⟨s5, hs5⟩ : ∃ s, s = w5.heap.size := ⟨_, rfl⟩
  obtain ⟨t5, ht5⟩ : ∃ s, s = W5.heap.size := ⟨_, rfl⟩
  obtain ⟨s6, hs6⟩ : ∃ s, s = w6.heap.size := ⟨_, rfl⟩
  obtain ⟨s7, hs7⟩ : ∃ s, s = w7.heap.size := ⟨_, rfl⟩
  obtain ⟨s8, hs8'⟩ : ∃ s, s = w8.heap.size := ⟨_, rfl⟩
  rw [hzW5] at ht5
  rw [← hs4, ← hs5, ← hs8'] at HC8
  rw [← hs7, ← hs8'] at HB8
  rw [hzW5, ← hs6, ← hs7] at HA8
  rw [← hs5] at HA8 ht5
  rw [← hs6, ← hs7] at hg
  rw [← hs7] at hg'
  have HNUM : Hid (s5 + 1 ≤ s6 ∧ s6 + 1 ≤ b7 ∧ b7 < s7 ∧ s7 ≤ s8) := ⟨by omega, by omega, by omega, by omega⟩
  have HG : Hid ((g = s6 ∨ s7 ≤ g) ∧ (g' = b7 ∨ s7 ≤ g') ∧ g < s8 ∧ g' < s8 ∧ g ≠ g') := ⟨hg, hg', by omega, by omega, hgg⟩
  rw [← hs5, ← hs6, ← hs8']
  clear hs4 ht5 hs58 hs8 x0 x1 x2 x3 hg hg' hg8 hg8' hgg HBX7 HBG HLA HBX HHM hD8 hzW5 hzW6 hzW8 hzb6 hzb7 hzb8 hlo7 hhi7 hw5 hs5 hs6 hs7 hs8'
  refine (eqLog_same _ _ _ _ _ _ _ _ _ _ _ _ l s7 s8 s4 s5 _ (by have := HB8.out.z; omega) (by have := HC8.out.z; have := HC8.out.z5; omega) HB8.out.gl HC8.out.la).mono ?_
  rintro x w9 ⟨rfl, hb9⟩
  have HC9 : Hid (MkC w ta tn tc l s4 s5 s8 a5 c5 a5' c5' a8 c8 a8' c8' w9) := HC8.out.next hb9
  have HB9 : Hid (MkB l s7 s8 a8 a8' g cap f g' cap' f' w9) := HB8.out.next hb9
  have HA9 : Hid (MkA tn os n ops (s5 + 1) s6 s7 b6 b7 f7 w9) := HA8.out.next hb9
  clear HC8 HB8 HA8 hb9
  have c11 := HA9.out.c11
  have bx9 := HC9.out.hm.box
  have z6 : s6 < w9.heap.size := by have := HA9.out.z6; have := HA9.out.z7; omega
  have zw : w.heap.size < w9.heap.size := HC9.out.hm.size
  go_wp2_with fail
  go_upto_region 14 with fail
  go_cut [52] (fun x wx => x = .bool false ∧ Hid (MkC w ta tn tc l s4 s5 s8 a5 c5 a5' c5' a8 c8 a8' c8' wx) ∧ Hid (MkB l s7 s8 a8 a8' g cap f g' cap' f' wx) ∧ Hid (MkA tn os n ops (s5 + 1) s6 s7 b6 b7 f7 wx))
  case first =>
    have hC := HC9.out.next (Below.refl _ _).drew
    have hA := HA9.out.next (Below.refl _ _).drew
    have hB := HB9.out.next (Below.refl _ _).drew
    go_region_with (first
      | (go_at_call 22; go_must (refine (toTree_any _ _ _ os 0 w.heap.size _ htn hS1 hC.hm.below.size (H.below hC.hm.below (Nat.le_refl _))).mono ?_; rintro x w10 ⟨⟨b10, rfl, h10o⟩, hb10⟩; have hC10 := hC.next hb10; have hA10 := hA.next hb10; have hB10 := hB.next hb10; have c11' := hA10.c11; have z10 : s6 < w10.heap.size := by have := hA10.z6; have := hA10.z7; omega))
      | (go_at_call 26; go_must (refine (eqTree_same _ _ _ _ _ _ (s5 + 1) s6 _ _ _ (by omega) (Nat.le_refl _) hA10.o h10o).mono ?_; rintro x w11 ⟨rfl, hb11⟩)))
    all_goals
      go_wp2_with fail
      go_meet
      exact ⟨rfl, hC10.next hb11, hB10.next hb11, hA10.next hb11⟩
  obtain ⟨rfl, HC12, HB12, HA12⟩ := hcut
  clear HC9 HB9 HA9 c11 bx9 z6 zw
  go_wp2_with fail
  refine (toOpS_any _ _ _ _ 0 w.heap.size _ hn1 HC12.out.hm.below.size (H'.below HC12.out.hm.below (Nat.le_refl _))).mono ?_
  rintro x w13 ⟨⟨b13, rfl, h13⟩, hb13⟩
  have HC13 : Hid (MkC w ta tn tc l s4 s5 s8 a5 c5 a5' c5' a8 c8 a8' c8' w13) := HC12.out.next hb13
  have HB13 : Hid (MkB l s7 s8 a8 a8' g cap f g' cap' f' w13) := HB12.out.next hb13
  have HA13 : Hid (MkA tn os n ops (s5 + 1) s6 s7 b6 b7 f7 w13) := HA12.out.next hb13
  clear HC12 HB12 HA12 hb13
  go_wp2_with fail
  refine (eqOpS_same _ _ _ _ _ _ (s6 + 1) s7 _ _ _ (by have := HA13.out.z7; omega) (Nat.le_refl _) HA13.out.p h13).mono ?_
  rintro x w14 ⟨rfl, hb14⟩
  have HC14 : Hid (MkC w ta tn tc l s4 s5 s8 a5 c5 a5' c5' a8 c8 a8' c8' w14) := HC13.out.next hb14
  have HB14 : Hid (MkB l s7 s8 a8 a8' g cap f g' cap' f' w14) := HB13.out.next hb14
  have HA14 : Hid (MkA tn os n ops (s5 + 1) s6 s7 b6 b7 f7 w14) := HA13.out.next hb14
  clear HC13 HB13 HA13 hb14 h13
  have c11 := HA14.out.c11
  go_wp2_with fail
  refine (markTree_w 1 _ _ _ (s5 + 1) s6 os _ (by omega) (by omega) HTN.out HTOT.out (by have := HA14.out.z6; have := HA14.out.z7; have := HNUM.out; omega) HA14.out.ty).mono ?_
  rintro x w15 ⟨⟨k15, rfl, hk0, hk1⟩, hkeep, honly⟩
  have HC15 : Hid (MkC w ta tn tc l s4 s5 s8 a5 c5 a5' c5' a8 c8 a8' c8' w15) := HC14.out.of honly.1 (honly.2 s8 HC14.out.z (by have := HNUM.out; omega))
  have HB15 : Hid (MkB l s7 s8 a8 a8' g cap f g' cap' f' w15) := HB14.out.of (by have := hkeep.size; have := HB14.out.z; omega) (fun b h7 h8 => honly.2 b (by have := HB14.out.z; omega) (by have := HNUM.out; omega))
  have HROW15 : Hid (w15.rowIs b7 99 (n * 7) f7) := HA14.out.row.of_block (honly.2 b7 HA14.out.row.lt (by have := HNUM.out; omega))
  have HK15 : Hid (1 ≤ k15 ∧ k15 ≤ 1 + 3 * tn + 2 * totT os) := ⟨hk0, hk1⟩
  clear HC14 HB14 HA14 hkeep honly c11 hk0 hk1
  go_wp2_with fail
  refine (markOpS_zto _ (k15 - 1) (by have := HK15.out; omega) (by have := HK15.out; have := HTOT.out; omega) _ n n b7 n 0 f7 _ hn1 (fun _ => ⟨rfl, Nat.zero_le _, Nat.le_refl _, HROW15.out⟩) HCEL.out).mono ?_
  rintro x w16 ⟨rfl, _, hb16⟩
  have HC16 : Hid (MkC w ta tn tc l s4 s5 s8 a5 c5 a5' c5' a8 c8 a8' c8' w16) := HC15.out.of (hb16.below.mono (by have := HNUM.out; omega)) (hb16.block s8 (by have := HNUM.out; omega) HC15.out.z)
  have HB16 : Hid (MkB l s7 s8 a8 a8' g cap f g' cap' f' w16) := HB15.out.of (by have := hb16.below.size; have := HB15.out.z; omega) (fun b h7 h8 => hb16.block b (by have := HNUM.out; omega) (by have := HB15.out.z; omega))
  obtain ⟨k16, hk16⟩ : ∃ k : Nat, k = k15 - 1 + 7 * n + 1 := ⟨_, rfl⟩
  rw [← hk16]
  have hk16' : ¬ (k16 : Int) < 0 := by omega
  clear HC15 HB15 HROW15 HK15 hb16 hk16 HTOT HTN HCEL
  obtain ⟨g0, g1, g2, g3⟩ := HC16.out.bg
  obtain ⟨x0, x1, x2, x3⟩ := HC16.out.bx
  have z8 := HC16.out.z
  have z5 := HC16.out.z5
  go_wp2_with fail
  refine (eqLog_same _ _ _ _ _ _ _ _ _ _ _ _ l s7 s8 s4 s5 _ (by omega) (by omega) HB16.out.gl HC16.out.la).mono ?_
  rintro x w17 ⟨rfl, hb17⟩
  have HC17 : Hid (MkC w ta tn tc l s4 s5 s8 a5 c5 a5' c5' a8 c8 a8' c8' w17) := HC16.out.next hb17
  have HB17 : Hid (MkB l s7 s8 a8 a8' g cap f g' cap' f' w17) := HB16.out.next hb17
  clear HC16 HB16 hb17 g0 g1 g2 g3 x0 x1 x2 x3 z8
  obtain ⟨g0, g1, g2, g3⟩ := HC17.out.bg
  have z8 := HC17.out.z
  go_wp2_with fail
  refine (markLog_any _ _ _ _ _ g cap f _ _ _ g' cap' f' s7 _ (by omega) (by omega) HB17.out.rb HRC.out HB17.out.ro HRC'.out (by have := HG.out; omega) HG.out.2.2.2.2).mono ?_
  rintro x w18 ⟨rfl, ⟨f1, f1', hM⟩, hot⟩
  have HC18 : Hid (MkC w ta tn tc l s4 s5 s8 a5 c5 a5' c5' a8 c8 a8' c8' w18) := HC17.out.of (hot.1 (s5 + 1) (by omega) (by have := HG.out; have := HNUM.out; omega) (by have := HG.out; have := HNUM.out; omega)) (hot.2 s8 z8 (by have := HG.out; omega) (by have := HG.out; omega))
  have HM18 : Hid (LogMarked w18 s7 a8 l.bases.length g cap a8' l.list.length g' cap' f1 f1') := hM
  obtain ⟨k18, hk18⟩ : ∃ k : Nat, k = 2 * l.bases.length + 7 * l.list.length + 1 := ⟨_, rfl⟩
  rw [← hk18]
  have HK18 : Hid (k18 = 2 * l.bases.length + 7 * l.list.length + 1) := hk18
  clear HC17 HB17 hot hM g0 g1 g2 g3 z8 hk18
  obtain ⟨g0, g1, g2, g3⟩ := HC18.out.bg
  have z8 := HC18.out.z
  go_wp2_with fail
  refine (heldLog_any _ _ _ _ _ g cap f1 _ _ _ g' cap' f1' s7 _ (by omega) (by omega) HM18.out).mono ?_
  rintro x w19 ⟨rfl, hb19⟩
  rw [← HK18.out]
  have HC19 : Hid (MkC w ta tn tc l s4 s5 s8 a5 c5 a5' c5' a8 c8 a8' c8' w19) := HC18.out.next hb19
  have HM19 : Hid (LogMarked w19 s7 a8 l.bases.length g cap a8' l.list.length g' cap' f1 f1') := HM18.out.below hb19
  clear HC18 HM18 hb19 g0 g1 g2 g3 z8
  have hk19 : ¬ (k18 : Int) < 0 := by omega
  have hm19 : ((k18 : Int) != (k18 : Int)) = false := by simp
  have bx19 := HC19.out.hm.box
  have zw19 := HC19.out.hm.size
  go_wp2_with fail
  refine (toTree_any _ _ _ os 0 w.heap.size _ htn hS1 HC19.out.hm.below.size (H.below HC19.out.hm.below (Nat.le_refl _))).mono ?_
  rintro x w20 ⟨⟨b20, rfl, h20o⟩, hb20⟩
  have HC20 : Hid (MkC w ta tn tc l s4 s5 s8 a5 c5 a5' c5' a8 c8 a8' c8' w20) := HC19.out.next hb20
  have HM20 : Hid (LogMarked w20 s7 a8 l.bases.length g cap a8' l.list.length g' cap' f1 f1') := HM19.out.below hb20
  clear HC19 HM19 hb20 bx19 zw19
  go_wp2_with fail
  refine (toOpS_any _ _ _ _ 0 w.heap.size _ hn1 HC20.out.hm.below.size (H'.below HC20.out.hm.below (Nat.le_refl _))).mono ?_
  rintro x w21 ⟨⟨b21, rfl, h21⟩, hb21⟩
  have HC21 : Hid (MkC w ta tn tc l s4 s5 s8 a5 c5 a5' c5' a8 c8 a8' c8' w21) := HC20.out.next hb21
  have HM21 : Hid (LogMarked w21 s7 a8 l.bases.length g cap a8' l.list.length g' cap' f1 f1') := HM20.out.below hb21
  have h21o := h20o.below hb21 (Nat.le_refl _)
  have z21 := hb21.size
  clear HC20 HM20 hb21 h20o
  go_wp2_with fail
  refine (implLogMake _ _ _ os _ _ _ _ _ _ _ ops _ _ _ z21 (Nat.le_refl _) (Nat.le_refl _) (by unfold maxLen; omega) h21o h21).mono ?_
  rintro x w22 hM22
  rw [← HL.out] at hM22
  obtain ⟨a22, c22, a22', c22', rfl, hL22, _, _, hb22⟩ := hM22.log hb32 HZL.out
  have HC22 : Hid (MkC w ta tn tc l s4 s5 s8 a5 c5 a5' c5' a8 c8 a8' c8' w22) := HC21.out.next hb22
  have HM22 : Hid (LogMarked w22 s7 a8 l.bases.length g cap a8' l.list.length g' cap' f1 f1') := HM21.out.below hb22
  have HL22 : Hid (LogAt w22 w21.heap.size w22.heap.size l.who l.seq a22 l.bases.length a22' l.list.length l) := hL22
  clear HC21 HM21 hM22 hL22 hb22 h21o h21 z21
  have hxx : ∀ o : Obj, LogBox (w22.alloc o) s5 l.who l.seq a5 l.bases.length c5 a5' l.list.length c5' := fun o => HC22.out.bx.of (((Below.refl w22.heap.size w22).alloc (Nat.le_refl _) o).block _ (by have := HC22.out.z; have := HC22.out.z5; omega))
  have x0 := fun o => (hxx o).1
  have x1 := fun o => (hxx o).2
  have x2 := fun o => (hxx o).3
  have x3 := fun o => (hxx o).4
  clear hxx
  have z22 := HC22.out.z
  go_wp2_with fail
  have hal22 : Below w22.heap.size w22 (w22.alloc (Obj.cells #[.int .i64 l.who, .int .i64 l.seq, .slice a22 l.bases.length c22, .slice a22' l.list.length c22'] 29)) := (Below.refl _ _).alloc (Nat.le_refl _) _
  refine (eqLog_same _ _ _ _ _ _ _ _ _ _ _ _ l _ _ s4 s5 _ hal22.size (by have := hal22.size; omega) (HL22.out.below hal22 (Nat.le_refl _)) (HC22.out.next hal22).la).mono ?_
  rintro x w23 ⟨rfl, hb23⟩
  have HC23 : Hid (MkC w ta tn tc l s4 s5 s8 a5 c5 a5' c5' a8 c8 a8' c8' w23) := (HC22.out.next hal22).next hb23
  have HM23 : Hid (LogMarked w23 s7 a8 l.bases.length g cap a8' l.list.length g' cap' f1 f1') := (HM22.out.below hal22).below hb23
  clear HC22 HM22 HL22 hb23 hal22 x0 x1 x2 x3 z22
  obtain ⟨g0, g1, g2, g3⟩ := HC23.out.bg
  have z8 := HC23.out.z
  go_wp2_with fail
  refine (heldLog_any _ _ _ _ _ g cap f1 _ _ _ g' cap' f1' s7 _ (by omega) (by omega) HM23.out).mono ?_
  rintro x w24 ⟨rfl, hb24⟩
  rw [← HK18.out]
  have HC24 : Hid (MkC w ta tn tc l s4 s5 s8 a5 c5 a5' c5' a8 c8 a8' c8' w24) := HC23.out.next hb24
  clear HC23 HM23 hb24 g0 g1 g2 g3 z8
  go_wp2_with fail
  go_ret
  exact ⟨rfl, HC24.out.hm.below⟩

namespace fnExactLogMake
open Go.ChangeShapes Go.WideShapes Go.ChangeAt Go.RowKit
open Go.ChangeMaps (open_string shut_string)
set_option linter.unusedVariables false

theorem own : ownKnob Try.prog.godebug = none := by kernel_rfl

set_option maxRecDepth 100000 in
theorem lifted (os : Os) (started : os.Started) (H : Type) (enc : TypeId × Value → H) :
    ReturnsInHanded {} Try.checked os 5 .any (Rows.fnExactLogMakeSpec.pre6 enc Try.prog Try.f5 Rows.fnExactLogMakeRow.domain false) (Rows.fnExactLogMakeSpec.post enc Try.prog Try.f5 false true false false) := by
  refine returnsInHanded_of_change (C := Try.checked) own started (by kernel_rfl) Try.func5
    (ChangeSpec.witness6 (enc := enc) (C := Try.checked) false ⟨#[], #[.agg #[.slice none 0 0], .int .i64 0, .int .i64 0, .slice none 0 0], []⟩ 8 (by kernel_rfl) (by kernel_rfl) (by kernel_rfl) (by kernel_rfl)) ?_
  intro W base args ds gs before hval0 hW hcnd _
  have hval : ∀ (j : Nat) t v, Try.f5.params[j]? = some t → args[j]? = some v → Value.okWide Try.prog W .any base t v := hval0
  have hW' := hW
  obtain ⟨p, q, hA0, hV, rfl, hfz, hnd⟩ := hW
  have hA : DataW.TrodAll enc Try.prog W 0 (fun _ => true) true Try.f5.params.toList args.toList ds p := hA0
  rw [Try.params5] at hA hval
  obtain ⟨v0, vs0, d0, ds0, p0, q0, hargs, rfl, rfl, h0, r0⟩ := trodAll_cons hA
  obtain ⟨v1, vs1, d1, ds1, p1, q1, hargs1, rfl, rfl, h1, r1⟩ := trodAll_cons r0
  obtain ⟨v2, vs2, d2, ds2, p2, q2, hargs2, rfl, rfl, h2, r2⟩ := trodAll_cons r1
  obtain ⟨v3, vs3, d3, ds3, p3, q3, hargs3, rfl, rfl, h3, r3⟩ := trodAll_cons r2
  obtain ⟨rfl, rfl, rfl⟩ := trodAll_nil r3
  obtain rfl : args = #[v0, v1, v2, v3] := by cases args; simp_all
  obtain ⟨rfl, rfl⟩ := trodVars_none hV
  have k0 := h0
  have lt0 : ∀ x ∈ p0, x.block < W.heap.size := by obtain ⟨m, hm⟩ := k0; exact DataW.trod_lt m _ _ _ hm
  have k1 := h1
  have lt1 : ∀ x ∈ p1, x.block < W.heap.size := by obtain ⟨m, hm⟩ := k1; exact DataW.trod_lt m _ _ _ hm
  have k2 := h2
  have lt2 : ∀ x ∈ p2, x.block < W.heap.size := by obtain ⟨m, hm⟩ := k2; exact DataW.trod_lt m _ _ _ hm
  have k3 := h3
  have lt3 : ∀ x ∈ p3, x.block < W.heap.size := by obtain ⟨m, hm⟩ := k3; exact DataW.trod_lt m _ _ _ hm
  obtain ⟨a0, n0, c0, o0, rfl, w0⟩ := open_tree (hval 0 48 v0 rfl rfl) h0
  obtain ⟨a1, rfl, rfl, rfl, w1⟩ := open_int Try.underlying3 (hval 1 3 v1 rfl rfl) h1
  obtain ⟨a2, rfl, rfl, rfl, w2⟩ := open_int Try.underlying3 (hval 2 3 v2 rfl rfl) h2
  obtain ⟨x3, y3, z3, rfl⟩ := okWide_slice Try.underlying49 (hval 3 49 v3 rfl rfl)
  obtain ⟨a3, n3, c3, o3, e3, w3⟩ := open_ops h3 rfl
  cases e3
  clear hA0 hval0
  refine (walkLogMake a0 n0 c0 o0 a1 a2 x3 y3 z3 o3 W w0 w3).mono fun e W' ⟨he, bel⟩ => ?_
  subst he
  exact ⟨_, rfl, _, _, _, [], _, [], hW', trodAll_mk1 (shut_bool Try.underlying4 _), (trodAll_cons_mk (Below.trod fLaid (by kernel_rfl) (of_decide_eq_true (by kernel_rfl)) k0 bel lt0) (trodAll_cons_mk (Below.trod fLaid (by kernel_rfl) (of_decide_eq_true (by kernel_rfl)) k1 bel lt1) (trodAll_cons_mk (Below.trod fLaid (by kernel_rfl) (of_decide_eq_true (by kernel_rfl)) k2 bel lt2) (trodAll_cons_mk (Below.trod fLaid (by kernel_rfl) (of_decide_eq_true (by kernel_rfl)) k3 bel lt3) trodAll_mk0)))), rfl, bel.frame _, fun h => by cases h⟩

set_option maxHeartbeats 4000000 in
theorem closed : joinedFacts Try.prog 5 Try.f5 Rows.fnExactLogMakeSpec Rows.fnExactLogMakeRow = true := by
  refine closedOf rfl rfl rfl ?_ ?_ ?_ ?_ ?_ ?_ ?_ ?_ ?_ ?_ ?_ ?_ ?_ ?_ ?_ ?_ ?_ ?_ ?_ rfl rfl ?_ ?_ ?_
  all_goals (as_aux_lemma => kernel_rfl)

theorem over : Rows.fnExactLogMakeRow.holds Try.pinned (OpenSpec.ofChange Rows.fnExactLogMakeSpec) :=
  OpenClaim.holds_of_wide 5 Try.f5 rfl rfl rfl rfl rfl rfl rfl ⟨rfl, rfl, rfl, rfl, rfl⟩ rfl rfl rfl rfl rfl (by kernel_rfl) Try.func5 closed
    (of_decide_eq_true (by kernel_rfl)) (by unfold Func.isWrapper; first | (rw [if_pos (by decide +kernel)]; kernel_rfl) | (rw [if_neg (by decide +kernel)]; exact ⟨rfl, rfl⟩))
    (fun os started H enc _ => lifted os started H enc)
end fnExactLogMake

theorem fnExactLogMake_holds : Rows.FnExactLogMakeSaid := fnExactLogMake.over
#print axioms fnExactLogMake_holds
end Go.Proofs.Ytdjffkiiglilnaa
