/-
  At every two worlds the call of laws.FnExactWorldSame returns true: the program's WorldSame answers as the specification's and writes into neither argument; both read behind the call as they did. No condition.
-/
import Derived.Test.YtohimbdmhljocaaU12
import Derived.Test.YtohimbdmhljocaaU13
import Derived.Test.YtohimbdmhljocaaU14
import Derived.Deep.DeepCutAuto
import Derived.ProofKit
import Derived.OpenShut
import Derived.ShutString
import Derived.ChangeOld
namespace Go.Proofs.Ytohimbdmhljocaa
open Go.RowKit

/-- A box in use. -/
structure HeldB (w wx : World) (q : Nat) (t : TypeId) (vs : List Value) : Prop where
  below : Below w.heap.size w wx
  box : BoxI wx q t vs
  lo : w.heap.size ≤ q
theorem HeldB.next {w wx wy : World} {q : Nat} {t : TypeId} {vs : List Value} (h : HeldB w wx q t vs) (hb : Below wx.heap.size wx wy) : HeldB w wy q t vs := ⟨h.below.trans (hb.mono h.below.size), h.box.next hb h.box.lt, h.lo⟩
theorem HeldB.drew {w wx : World} {q : Nat} {t : TypeId} {vs : List Value} (h : HeldB w wx q t vs) : HeldB w wx.drew q t vs := h.next (Below.refl _ _).drew
theorem HeldB.hi {w wx : World} {q : Nat} {t : TypeId} {vs : List Value} (h : HeldB w wx q t vs) : q < wx.heap.size := h.box.lt
theorem HeldB.new (w : World) (A : Array Value) (t : TypeId) : HeldB w (w.alloc (.cells A t)) w.heap.size t A.toList := ⟨(Below.refl _ _).alloc (Nat.le_refl _) _, BoxI.new rfl, Nat.le_refl _⟩

set_option maxHeartbeats 16000000 in
theorem walkWorldSame (a0 : Option Addr) (n0 c0 : Nat) (a1 : Option Addr) (n1 c1 : Nat) (a2 : Option Addr) (n2 c2 : Nat) (a3 : Option Addr) (n3 c3 : Nat) (a4 : Option Addr) (n4 c4 : Nat) (a5 : Option Addr) (n5 c5 : Nat) (x0 : Option Addr) (m0 y0 : Nat) (x1 : Option Addr) (m1 y1 : Nat) (x2 : Option Addr) (m2 y2 : Nat) (x3 : Option Addr) (m3 y3 : Nat) (x4 : Option Addr) (m4 y4 : Nat) (x5 : Option Addr) (m5 y5 : Nat) (X Y : LWorld) (w : World) (H : WorldAt w 0 w.heap.size a0 n0 a1 n1 a2 n2 a3 n3 a4 n4 a5 n5 X) (H' : WorldAt w 0 w.heap.size x0 m0 x1 m1 x2 m2 x3 m3 x4 m4 x5 m5 Y) :
    Calls Try.prog 5 #[.agg #[.slice a0 n0 c0, .slice a1 n1 c1, .slice a2 n2 c2, .slice a3 n3 c3, .slice a4 n4 c4, .slice a5 n5 c5], .agg #[.slice x0 m0 y0, .slice x1 m1 y1, .slice x2 m2 y2, .slice x3 m3 y3, .slice x4 m4 y4, .slice x5 m5 y5]] w fun e w' => e = .returned (.bool true) ∧ Below w.heap.size w w' := by
  have hA0 : HeldB w ((w.alloc (.cells #[.slice a0 n0 c0, .slice a1 n1 c1, .slice a2 n2 c2, .slice a3 n3 c3, .slice a4 n4 c4, .slice a5 n5 c5] 54)).alloc (.cells #[.slice x0 m0 y0, .slice x1 m1 y1, .slice x2 m2 y2, .slice x3 m3 y3, .slice x4 m4 y4, .slice x5 m5 y5] 54)) w.heap.size 54 [.slice a0 n0 c0, .slice a1 n1 c1, .slice a2 n2 c2, .slice a3 n3 c3, .slice a4 n4 c4, .slice a5 n5 c5] := (HeldB.new w #[.slice a0 n0 c0, .slice a1 n1 c1, .slice a2 n2 c2, .slice a3 n3 c3, .slice a4 n4 c4, .slice a5 n5 c5] 54).next ((Below.refl _ _).alloc (Nat.le_refl _) _)
  have hB0 : HeldB w ((w.alloc (.cells #[.slice a0 n0 c0, .slice a1 n1 c1, .slice a2 n2 c2, .slice a3 n3 c3, .slice a4 n4 c4, .slice a5 n5 c5] 54)).alloc (.cells #[.slice x0 m0 y0, .slice x1 m1 y1, .slice x2 m2 y2, .slice x3 m3 y3, .slice x4 m4 y4, .slice x5 m5 y5] 54)) (w.heap.size + 1) 54 [.slice x0 m0 y0, .slice x1 m1 y1, .slice x2 m2 y2, .slice x3 m3 y3, .slice x4 m4 y4, .slice x5 m5 y5] := ⟨hA0.below, BoxI.new (by simp), by omega⟩
  have HX := hidMk H
  have HY := hidMk H'
  clear H H'
  go_enter Try.func5, Try.ntmps5
  go_wp2_with fail
  refine (szWorld_any _ _ _ _ _ _ _ _ _ _ _ _ _ _ _ _ _ _ X 0 w.heap.size _ _ (by omega) (by omega) hA0.below.size (HX.out.below hA0.below (Nat.le_refl _))).mono ?_
  rintro e w1 ⟨⟨r1, rfl, hr⟩, hb1⟩
  have HR : Hid (r1 = -1 ∨ 0 ≤ r1 ∧ r1 ≤ 1048576 ∧ WorldSm X) := hr
  have h1 := hA0.next hb1
  have g1 := hB0.next hb1
  clear hr hb1 hA0 hB0
  by_cases hneg : r1 < 0
  · go_wp2_with fail
    go_ret
    exact ⟨rfl, h1.below⟩
  obtain ⟨e0, e1, e2, e3, e4, e5⟩ := g1.box.c6
  go_wp2_with fail
  refine (szWorld_any _ _ _ _ _ _ _ _ _ _ _ _ _ _ _ _ _ _ Y 0 w.heap.size _ _ (by omega) (by have := HR.out; omega) h1.below.size (HY.out.below h1.below (Nat.le_refl _))).mono ?_
  rintro e w2 ⟨⟨r2, rfl, hr2⟩, hb2⟩
  have HR2 : Hid (r2 = -1 ∨ 0 ≤ r2 ∧ r2 ≤ r1 ∧ WorldSm Y) := hr2
  have h2 := h1.next hb2
  have g2 := g1.next hb2
  clear hr2 hb2 h1 g1 e0 e1 e2 e3 e4 e5
  by_cases hneg2 : r2 < 0
  · go_wp2_with fail
    go_ret
    exact ⟨rfl, h2.below⟩
  have S1 := (HR.out.resolve_left (by omega)).2.2
  have S2 := (HR2.out.resolve_left (by omega)).2.2
  clear HR HR2
  go_upto_region 8 with fail
  go_cut [6] (fun x wx => x = .bool (worldEq X Y) ∧ HeldB w wx w.heap.size 54 [.slice a0 n0 c0, .slice a1 n1 c1, .slice a2 n2 c2, .slice a3 n3 c3, .slice a4 n4 c4, .slice a5 n5 c5] ∧ HeldB w wx (w.heap.size + 1) 54 [.slice x0 m0 y0, .slice x1 m1 y1, .slice x2 m2 y2, .slice x3 m3 y3, .slice x4 m4 y4, .slice x5 m5 y5])
  case first =>
    have h3 := h2.drew
    have g3 := g2.drew
    obtain ⟨e0, e1, e2, e3, e4, e5⟩ := h2.box.c6
    obtain ⟨f0, f1, f2, f3, f4, f5⟩ := g2.box.c6
    have hz1 := h2.hi
    have hz2 := g2.hi
    go_region_with (first
      | (go_at_call_of 18 (Value.agg #[.slice a0 n0 c0, .slice a1 n1 c1, .slice a2 n2 c2, .slice a3 n3 c3, .slice a4 n4 c4, .slice a5 n5 c5]); go_must (refine (toWorld_any _ _ _ _ _ _ _ _ _ _ _ _ _ _ _ _ _ _ X 0 w.heap.size _ S1 h3.below.size (HX.out.below h3.below (Nat.le_refl _))).mono ?_; rintro e w4 ⟨⟨p0, p1, p2, p3, p4, p5, rfl, h4o⟩, hb4⟩; have h4 := h3.next hb4; have g4 := g3.next hb4; obtain ⟨f0, f1, f2, f3, f4, f5⟩ := g4.box.c6; have hz4 := g4.hi))
      | (go_at_call_of 18 (Value.agg #[.slice x0 m0 y0, .slice x1 m1 y1, .slice x2 m2 y2, .slice x3 m3 y3, .slice x4 m4 y4, .slice x5 m5 y5]); go_must (refine (toWorld_any _ _ _ _ _ _ _ _ _ _ _ _ _ _ _ _ _ _ Y 0 w.heap.size _ S2 h4.below.size (HY.out.below h4.below (Nat.le_refl _))).mono ?_; rintro e w5 ⟨⟨r0, r1, r2, r3, r4, r5, rfl, h5o⟩, hb5⟩; have h5 := h4.next hb5; have g5 := g4.next hb5))
      | (go_at_call 17; go_must (refine (specWorldSame _ _ _ _ _ _ _ _ _ _ _ _ _ _ _ _ _ _ _ _ _ _ _ _ _ _ _ _ _ _ _ _ _ _ _ _ X Y _ _ _ _ _ hb5.size (Nat.le_refl _) (h4o.below hb5 (Nat.le_refl _)) h5o).mono ?_; rintro e w6 ⟨rfl, hb6⟩)))
    all_goals
      go_wp2_with fail
      go_meet
      exact ⟨rfl, h5.next hb6, g5.next hb6⟩
  obtain ⟨rfl, h6, g6⟩ := hcut
  clear h2 g2
  obtain ⟨e0, e1, e2, e3, e4, e5⟩ := h6.box.c6
  go_wp2_with fail
  refine (toWorld_any _ _ _ _ _ _ _ _ _ _ _ _ _ _ _ _ _ _ X 0 w.heap.size _ S1 h6.below.size (HX.out.below h6.below (Nat.le_refl _))).mono ?_
  rintro e w7 ⟨⟨p0, p1, p2, p3, p4, p5, rfl, h7o⟩, hb7⟩
  have h7 := h6.next hb7
  have g7 := g6.next hb7
  clear hb7 h6 g6 e0 e1 e2 e3 e4 e5
  have hX := HeldB.new w7 #[.slice (some ⟨p0, 0, none⟩) n0 n0, .slice (some ⟨p1, 0, none⟩) n1 n1, .slice (some ⟨p2, 0, none⟩) n2 n2, .slice (some ⟨p3, 0, none⟩) n3 n3, .slice (some ⟨p4, 0, none⟩) n4 n4, .slice (some ⟨p5, 0, none⟩) n5 n5] 39
  have h8 := h7.next hX.below
  have g8 := g7.next hX.below
  have h8o := h7o.below hX.below (Nat.le_refl _)
  have hz7 := g7.hi
  clear h7 g7 h7o
  obtain ⟨f0, f1, f2, f3, f4, f5⟩ := g8.box.c6
  go_wp2_with fail
  refine (toWorld_any _ _ _ _ _ _ _ _ _ _ _ _ _ _ _ _ _ _ Y 0 w.heap.size _ S2 h8.below.size (HY.out.below h8.below (Nat.le_refl _))).mono ?_
  rintro e w9 ⟨⟨r0, r1, r2, r3, r4, r5, rfl, h9o⟩, hb9⟩
  have h9 := h8.next hb9
  have g9 := g8.next hb9
  have hX9 := hX.next hb9
  have h9o' := h8o.below hb9 hX.below.size
  clear hb9 h8 g8 hX h8o f0 f1 f2 f3 f4 f5 hz7
  have hY := HeldB.new w9 #[.slice (some ⟨r0, 0, none⟩) m0 m0, .slice (some ⟨r1, 0, none⟩) m1 m1, .slice (some ⟨r2, 0, none⟩) m2 m2, .slice (some ⟨r3, 0, none⟩) m3 m3, .slice (some ⟨r4, 0, none⟩) m4 m4, .slice (some ⟨r5, 0, none⟩) m5 m5] 39
  have h10 := h9.next hY.below
  have g10 := g9.next hY.below
  have hX10 := hX9.next hY.below
  have h10o' := h9o'.below hY.below hX9.below.size
  have h10o := h9o.below hY.below (Nat.le_refl _)
  have hz9 := hX9.hi
  have hlo9 := hX9.below.size
  obtain ⟨s8z, hs8z⟩ : ∃ s, s = (w7.alloc (.cells #[.slice (some ⟨p0, 0, none⟩) n0 n0, .slice (some ⟨p1, 0, none⟩) n1 n1, .slice (some ⟨p2, 0, none⟩) n2 n2, .slice (some ⟨p3, 0, none⟩) n3 n3, .slice (some ⟨p4, 0, none⟩) n4 n4, .slice (some ⟨p5, 0, none⟩) n5 n5] 39)).heap.size := ⟨_, rfl⟩
  rw [← hs8z] at h10o
  clear hs8z
  clear h9 g9 hX9 h9o h9o'
  obtain ⟨f0, f1, f2, f3, f4, f5⟩ := hX10.box.c6
  go_wp2_with fail
  refine (implWorldSame _ _ _ _ _ _ _ _ _ _ _ _ _ _ _ _ _ _ _ _ _ _ _ _ _ _ _ _ _ _ _ _ _ _ _ _ X Y _ _ _ _ _ hX10.below.size hY.below.size h10o' h10o).mono ?_
  rintro e w11 ⟨rfl, hb11⟩
  have h11 := h10.next hb11
  have g11 := g10.next hb11
  have hX11 := hX10.next hb11
  have hY11 := hY.next hb11
  have h11o' := h10o'.below hb11 hX10.below.size
  have h11o := h10o.below hb11 hY.below.size
  clear hb11 h10 g10 hX10 hY h10o h10o' f0 f1 f2 f3 f4 f5 hz9
  go_wp2_with fail
  go_upto_region 14 with fail
  go_cut [39] (fun x wx => x = .bool false ∧ HeldB w wx w.heap.size 54 [.slice a0 n0 c0, .slice a1 n1 c1, .slice a2 n2 c2, .slice a3 n3 c3, .slice a4 n4 c4, .slice a5 n5 c5] ∧ HeldB w wx (w.heap.size + 1) 54 [.slice x0 m0 y0, .slice x1 m1 y1, .slice x2 m2 y2, .slice x3 m3 y3, .slice x4 m4 y4, .slice x5 m5 y5] ∧ HeldB w9 wx w9.heap.size 39 [.slice (some ⟨r0, 0, none⟩) m0 m0, .slice (some ⟨r1, 0, none⟩) m1 m1, .slice (some ⟨r2, 0, none⟩) m2 m2, .slice (some ⟨r3, 0, none⟩) m3 m3, .slice (some ⟨r4, 0, none⟩) m4 m4, .slice (some ⟨r5, 0, none⟩) m5 m5] ∧ WorldAt wx s8z w9.heap.size (some ⟨r0, 0, none⟩) m0 (some ⟨r1, 0, none⟩) m1 (some ⟨r2, 0, none⟩) m2 (some ⟨r3, 0, none⟩) m3 (some ⟨r4, 0, none⟩) m4 (some ⟨r5, 0, none⟩) m5 Y)
  case first =>
    have h12 := h11.drew
    have g12 := g11.drew
    have hX12 := hX11.drew
    have hY12 := hY11.drew
    obtain ⟨e0, e1, e2, e3, e4, e5⟩ := h11.box.c6
    obtain ⟨f0, f1, f2, f3, f4, f5⟩ := hX11.box.c6
    have hz1 := h11.hi
    have hz2 := hX11.hi
    have q12o' := h11o'.below (Below.refl w11.heap.size w11).drew hX11.below.size
    have q12o := h11o.below (Below.refl w11.heap.size w11).drew hY11.below.size
    go_region_with (first
      | (go_at_call 18; go_must (refine (toWorld_any _ _ _ _ _ _ _ _ _ _ _ _ _ _ _ _ _ _ X 0 w.heap.size _ S1 h12.below.size (HX.out.below h12.below (Nat.le_refl _))).mono ?_; rintro e w13 ⟨⟨q0, q1, q2, q3, q4, q5, rfl, h13o⟩, hb13⟩; have h13 := h12.next hb13; have hX13 := hX12.next hb13; obtain ⟨f0, f1, f2, f3, f4, f5⟩ := hX13.box.c6; have hz13 := hX13.hi))
      | (go_at_call 13; go_must (refine (eqWorld_same _ _ _ _ _ _ _ _ _ _ _ _ _ _ _ _ _ _ _ _ _ _ _ _ _ _ _ _ _ _ X _ _ _ _ _ hX13.below.size (Nat.le_refl _) (q12o'.below hb13 hX12.below.size) h13o).mono ?_; rintro e w14 ⟨rfl, hb14⟩)))
    all_goals
      go_wp2_with fail
      go_meet
      exact ⟨rfl, h13.next hb14, (g12.next hb13).next hb14, (hY12.next hb13).next hb14, (q12o.below hb13 hY12.below.size).below hb14 (hY12.next hb13).below.size⟩
  obtain ⟨rfl, h15, g15, hY15, h15o⟩ := hcut
  clear h11 g11 hX11 hY11 h11o h11o' hlo9
  go_wp2_with fail
  go_upto_region 16 with fail
  have h16 := h15.drew
  have g16 := g15.drew
  have hY16 := hY15.drew
  obtain ⟨e0, e1, e2, e3, e4, e5⟩ := g15.box.c6
  obtain ⟨f0, f1, f2, f3, f4, f5⟩ := hY15.box.c6
  have hz1 := g15.hi
  have hz2 := hY15.hi
  have q16o := h15o.below (Below.refl wc.heap.size wc).drew hY15.below.size
  go_region_with (first
    | (go_at_call 18; go_must (refine (toWorld_any _ _ _ _ _ _ _ _ _ _ _ _ _ _ _ _ _ _ Y 0 w.heap.size _ S2 h16.below.size (HY.out.below h16.below (Nat.le_refl _))).mono ?_; rintro e w17 ⟨⟨s0, s1, s2, s3, s4, s5, rfl, h17o⟩, hb17⟩; have h17 := h16.next hb17; have hY17 := hY16.next hb17; obtain ⟨f0, f1, f2, f3, f4, f5⟩ := hY17.box.c6; have hz17 := hY17.hi))
    | (go_at_call 13; go_must (refine (eqWorld_same _ _ _ _ _ _ _ _ _ _ _ _ _ _ _ _ _ _ _ _ _ _ _ _ _ _ _ _ _ _ Y _ _ _ _ _ hY17.below.size (Nat.le_refl _) (q16o.below hb17 hY16.below.size) h17o).mono ?_; rintro e w18 ⟨rfl, hb18⟩)))
  all_goals
    go_wp2_with fail
    go_ret
    exact ⟨rfl, (h17.next hb18).below⟩

namespace fnExactWorldSame
open Go.ChangeShapes Go.WideShapes Go.ChangeAt Go.RowKit
open Go.ChangeMaps (open_string shut_string)
set_option linter.unusedVariables false

theorem own : ownKnob Try.prog.godebug = none := by kernel_rfl

set_option maxRecDepth 100000 in
theorem lifted (os : Os) (started : os.Started) (H : Type) (enc : TypeId × Value → H) :
    ReturnsInHanded {} Try.checked os 5 .any (Rows.fnExactWorldSameSpec.pre6 enc Try.prog Try.f5 Rows.fnExactWorldSameRow.domain false) (Rows.fnExactWorldSameSpec.post enc Try.prog Try.f5 false true false false) := by
  refine returnsInHanded_of_change (C := Try.checked) own started (by kernel_rfl) Try.func5
    (ChangeSpec.witness6 (enc := enc) (C := Try.checked) false ⟨#[], #[.agg #[.slice none 0 0, .slice none 0 0, .slice none 0 0, .slice none 0 0, .slice none 0 0, .slice none 0 0], .agg #[.slice none 0 0, .slice none 0 0, .slice none 0 0, .slice none 0 0, .slice none 0 0, .slice none 0 0]], []⟩ 8 (by kernel_rfl) (by kernel_rfl) (by kernel_rfl) (by kernel_rfl)) ?_
  intro W base args ds gs before hval0 hW hcnd _
  have hval : ∀ (j : Nat) t v, Try.f5.params[j]? = some t → args[j]? = some v → Value.okWide Try.prog W .any base t v := hval0
  have hW' := hW
  obtain ⟨p, q, hA0, hV, rfl, hfz, hnd⟩ := hW
  have hA : DataW.TrodAll enc Try.prog W 0 (fun _ => true) true Try.f5.params.toList args.toList ds p := hA0
  rw [Try.params5] at hA hval
  obtain ⟨v0, vs0, d0, ds0, p0, q0, hargs, rfl, rfl, h0, r0⟩ := trodAll_cons hA
  obtain ⟨v1, vs1, d1, ds1, p1, q1, hargs1, rfl, rfl, h1, r1⟩ := trodAll_cons r0
  obtain ⟨rfl, rfl, rfl⟩ := trodAll_nil r1
  obtain rfl : args = #[v0, v1] := by cases args; simp_all
  obtain ⟨rfl, rfl⟩ := trodVars_none hV
  have k0 := h0
  have lt0 : ∀ x ∈ p0, x.block < W.heap.size := by obtain ⟨m, hm⟩ := k0; exact DataW.trod_lt m _ _ _ hm
  have k1 := h1
  have lt1 : ∀ x ∈ p1, x.block < W.heap.size := by obtain ⟨m, hm⟩ := k1; exact DataW.trod_lt m _ _ _ hm
  obtain ⟨a0, n0, c0, a1, n1, c1, a2, n2, c2, a3, n3, c3, a4, n4, c4, a5, n5, c5, X, rfl, wX⟩ := open_world (hval 0 54 v0 rfl rfl) h0
  obtain ⟨x0, m0, y0, x1, m1, y1, x2, m2, y2, x3, m3, y3, x4, m4, y4, x5, m5, y5, Y, rfl, wY⟩ := open_world (hval 1 54 v1 rfl rfl) h1
  clear hA0 hval0
  refine (walkWorldSame a0 n0 c0 a1 n1 c1 a2 n2 c2 a3 n3 c3 a4 n4 c4 a5 n5 c5 x0 m0 y0 x1 m1 y1 x2 m2 y2 x3 m3 y3 x4 m4 y4 x5 m5 y5 X Y W wX wY).mono fun e W' ⟨he, bel⟩ => ?_
  subst he
  exact ⟨_, rfl, _, _, _, [], _, [], hW', trodAll_mk1 (shut_bool Try.underlying4 _), (trodAll_cons_mk (Below.trod fLaid (by kernel_rfl) (of_decide_eq_true (by kernel_rfl)) k0 bel lt0) (trodAll_cons_mk (Below.trod fLaid (by kernel_rfl) (of_decide_eq_true (by kernel_rfl)) k1 bel lt1) trodAll_mk0)), rfl, bel.frame _, fun h => by cases h⟩

set_option maxHeartbeats 4000000 in
theorem closed : joinedFacts Try.prog 5 Try.f5 Rows.fnExactWorldSameSpec Rows.fnExactWorldSameRow = true := by
  refine closedOf rfl rfl rfl ?_ ?_ ?_ ?_ ?_ ?_ ?_ ?_ ?_ ?_ ?_ ?_ ?_ ?_ ?_ ?_ ?_ ?_ ?_ rfl rfl ?_ ?_ ?_
  all_goals (as_aux_lemma => kernel_rfl)

theorem over : Rows.fnExactWorldSameRow.holds Try.pinned (OpenSpec.ofChange Rows.fnExactWorldSameSpec) :=
  OpenClaim.holds_of_wide 5 Try.f5 rfl rfl rfl rfl rfl rfl rfl ⟨rfl, rfl, rfl, rfl, rfl⟩ rfl rfl rfl rfl rfl (by kernel_rfl) Try.func5 closed
    (of_decide_eq_true (by kernel_rfl)) (by unfold Func.isWrapper; first | (rw [if_pos (by decide +kernel)]; kernel_rfl) | (rw [if_neg (by decide +kernel)]; exact ⟨rfl, rfl⟩))
    (fun os started H enc _ => lifted os started H enc)
end fnExactWorldSame

theorem fnExactWorldSame_holds : Rows.FnExactWorldSameSaid := fnExactWorldSame.over
#print axioms fnExactWorldSame_holds
end Go.Proofs.Ytohimbdmhljocaa
