/-
  At every two messages the call of laws.FnExactMsgSame returns true: the program's MsgSame answers as the specification's and writes into neither argument; both read behind the call as they did. No condition.
-/
import Derived.Test.YtnfegihemhidgaaMsgCD
import Derived.Test.YtnfegihemhidgaaClosed2
import Derived.Deep.DeepCutAuto
import Derived.ProofKit
import Derived.OpenShut
import Derived.ShutString
import Derived.ChangeOld
namespace Go.Proofs.Ytnfegihemhidgaa
open Go.RowKit

theorem msgSz_of2 {bn on tn : Nat} {l : LLog} {os : List LObj} {r left : Int} (hr : r = -1 ∨ (0 ≤ r ∧ r = left - bn - on - totOps l.list - tn - totT os)) (h : ¬ r < 0) (hl : left ≤ 1048576) : MsgSz bn on tn os ∧ r ≤ left :=
  ⟨⟨by omega, by omega, by omega, sizes_of (by omega)⟩, by omega⟩

set_option maxHeartbeats 8000000 in
theorem walkMsgSame (k who seq q s : Int) (ba : Option Addr) (bn bc : Nat) (oa : Option Addr) (on oc : Nat) (code : Int) (ta : Option Addr) (tn tc : Nat) (k' who' seq' q' s' : Int) (ba' : Option Addr) (bn' bc' : Nat) (oa' : Option Addr) (on' oc' : Nat) (code' : Int) (ta' : Option Addr) (tn' tc' : Nat) (l l' : LLog) (os os' : List LObj) (w : World) (H : MsgAt w 0 w.heap.size q s ba bn oa on ta tn l os) (H' : MsgAt w 0 w.heap.size q' s' ba' bn' oa' on' ta' tn' l' os') :
    Calls Try.prog 4 #[.agg #[.int .i64 k, .int .i64 who, .int .i64 seq, .int .i64 q, .int .i64 s, .slice ba bn bc, .slice oa on oc, .int .i64 code, .slice ta tn tc], .agg #[.int .i64 k', .int .i64 who', .int .i64 seq', .int .i64 q', .int .i64 s', .slice ba' bn' bc', .slice oa' on' oc', .int .i64 code', .slice ta' tn' tc']] w fun e w' => e = .returned (.bool true) ∧ Below w.heap.size w w' := by
  have hA0 : HeldM w ((w.alloc (Obj.cells #[.int .i64 k, .int .i64 who, .int .i64 seq, .int .i64 q, .int .i64 s, .slice ba bn bc, .slice oa on oc, .int .i64 code, .slice ta tn tc] 30)).alloc (Obj.cells #[.int .i64 k', .int .i64 who', .int .i64 seq', .int .i64 q', .int .i64 s', .slice ba' bn' bc', .slice oa' on' oc', .int .i64 code', .slice ta' tn' tc'] 30)) w.heap.size k who seq q s ba bn bc oa on oc code ta tn tc := (HeldM.new w k who seq q s ba bn bc oa on oc code ta tn tc 30).next ((Below.refl _ _).alloc (Nat.le_refl _) _)
  have hB0 : HeldM w ((w.alloc (Obj.cells #[.int .i64 k, .int .i64 who, .int .i64 seq, .int .i64 q, .int .i64 s, .slice ba bn bc, .slice oa on oc, .int .i64 code, .slice ta tn tc] 30)).alloc (Obj.cells #[.int .i64 k', .int .i64 who', .int .i64 seq', .int .i64 q', .int .i64 s', .slice ba' bn' bc', .slice oa' on' oc', .int .i64 code', .slice ta' tn' tc'] 30)) (w.heap.size + 1) k' who' seq' q' s' ba' bn' bc' oa' on' oc' code' ta' tn' tc' :=
    ⟨hA0.below, ⟨by simp [go_sem], by simp [go_sem], by simp [go_sem], by simp [go_sem], by simp [go_sem], by simp [go_sem], by simp [go_sem], by simp [go_sem], by simp [go_sem]⟩, by omega, by simp⟩
  go_enter Try.func4, Try.ntmps4
  go_wp2_with fail
  refine (szMsg_any k who seq q s ba bn bc oa on oc code ta tn tc l os 0 w.heap.size _ _ (by omega) (by omega) hA0.below.size (H.below hA0.below (Nat.le_refl _))).mono ?_
  rintro x w1 ⟨⟨r1, rfl, hr⟩, hb1⟩
  have HR : Hid (r1 = -1 ∨ 0 ≤ r1 ∧ r1 = 1048576 - bn - on - totOps l.list - tn - totT os) := hr
  have h1 := hA0.next hb1
  have g1 := hB0.next hb1
  clear hr hb1 hA0 hB0
  by_cases hneg : r1 < 0
  · go_wp2_with fail
    go_ret
    exact ⟨rfl, h1.below⟩
  have hs1 : MsgSz bn on tn os := (msgSz_of2 HR.out hneg (by omega)).1
  have hle1 : r1 ≤ 1048576 := (msgSz_of2 HR.out hneg (by omega)).2
  clear HR
  have e0 := g1.box.c0
  have e1 := g1.box.c1
  have e2 := g1.box.c2
  have e3 := g1.box.c3
  have e4 := g1.box.c4
  have e5 := g1.box.c5
  have e6 := g1.box.c6
  have e7 := g1.box.c7
  have e8 := g1.box.c8
  go_wp2_with fail
  refine (szMsg_any k' who' seq' q' s' ba' bn' bc' oa' on' oc' code' ta' tn' tc' l' os' 0 w.heap.size _ _ (by omega) hle1 h1.below.size (H'.below h1.below (Nat.le_refl _))).mono ?_
  rintro x w2 ⟨⟨r2, rfl, hr2⟩, hb2⟩
  have HR2 : Hid (r2 = -1 ∨ 0 ≤ r2 ∧ r2 = r1 - bn' - on' - totOps l'.list - tn' - totT os') := hr2
  have h2 := h1.next hb2
  have g2 := g1.next hb2
  clear hr2 hb2 h1 g1 e0 e1 e2 e3 e4 e5 e6 e7 e8
  by_cases hneg2 : r2 < 0
  · go_wp2_with fail
    go_ret
    exact ⟨rfl, h2.below⟩
  have hs2 : MsgSz bn' on' tn' os' := (msgSz_of2 HR2.out hneg2 hle1).1
  clear HR2
  go_upto_region 8 with fail
  go_cut [6] (fun x wx => x = .bool (msgEq k who seq code l os k' who' seq' code' l' os') ∧ HeldM w wx w.heap.size k who seq q s ba bn bc oa on oc code ta tn tc ∧ HeldM w wx (w.heap.size + 1) k' who' seq' q' s' ba' bn' bc' oa' on' oc' code' ta' tn' tc')
  case first =>
    have h3 := h2.drew
    have g3 := g2.drew
    have e0 := h2.box.c0
    have e1 := h2.box.c1
    have e2 := h2.box.c2
    have e3 := h2.box.c3
    have e4 := h2.box.c4
    have e5 := h2.box.c5
    have e6 := h2.box.c6
    have e7 := h2.box.c7
    have e8 := h2.box.c8
    have f0 := g2.box.c0
    have f1 := g2.box.c1
    have f2 := g2.box.c2
    have f3 := g2.box.c3
    have f4 := g2.box.c4
    have f5 := g2.box.c5
    have f6 := g2.box.c6
    have f7 := g2.box.c7
    have f8 := g2.box.c8
    have hz1 := h2.hi
    have hz2 := g2.hi
    go_region_with (first
      | (go_at_call_of 7 (Value.agg #[.int .i64 k, .int .i64 who, .int .i64 seq, .int .i64 q, .int .i64 s, .slice ba bn bc, .slice oa on oc, .int .i64 code, .slice ta tn tc]); go_must (refine (toMsg_any k who seq q s ba bn bc oa on oc code ta tn tc l os 0 w.heap.size _ hs1 h3.below.size (H.below h3.below (Nat.le_refl _))).mono ?_; rintro x w4 ⟨⟨b4, b4', b4'', rfl, m4⟩, hb4⟩; have h4 := h3.next hb4; have g4 := g3.next hb4; have f0 := g4.box.c0; have f1 := g4.box.c1; have f2 := g4.box.c2; have f3 := g4.box.c3; have f4 := g4.box.c4; have f5 := g4.box.c5; have f6 := g4.box.c6; have f7 := g4.box.c7; have f8 := g4.box.c8; have hz4 := g4.hi))
      | (go_at_call_of 7 (Value.agg #[.int .i64 k', .int .i64 who', .int .i64 seq', .int .i64 q', .int .i64 s', .slice ba' bn' bc', .slice oa' on' oc', .int .i64 code', .slice ta' tn' tc']); go_must (refine (toMsg_any k' who' seq' q' s' ba' bn' bc' oa' on' oc' code' ta' tn' tc' l' os' 0 w.heap.size _ hs2 h4.below.size (H'.below h4.below (Nat.le_refl _))).mono ?_; rintro x w5 ⟨⟨b5, b5', b5'', rfl, m5⟩, hb5⟩; have h5 := h4.next hb5; have g5 := g4.next hb5))
      | (go_at_call 10; go_must (refine (specMsgSame k who seq q s (some ⟨b4, 0, none⟩) bn bn (some ⟨b4', 0, none⟩) on on code (some ⟨b4'', 0, none⟩) tn tn k' who' seq' q' s' (some ⟨b5, 0, none⟩) bn' bn' (some ⟨b5', 0, none⟩) on' on' code' (some ⟨b5'', 0, none⟩) tn' tn' l l' os os' _ _ _ _ _ hb5.size (Nat.le_refl _) (m4.below hb5 (Nat.le_refl _)) m5).mono ?_; rintro x w6 ⟨rfl, hb6⟩)))
    all_goals
      go_wp2_with fail
      go_meet
      exact ⟨rfl, h5.next hb6, g5.next hb6⟩
  obtain ⟨rfl, h6, g6⟩ := hcut
  clear h2 g2
  have e0 := h6.box.c0
  have e1 := h6.box.c1
  have e2 := h6.box.c2
  have e3 := h6.box.c3
  have e4 := h6.box.c4
  have e5 := h6.box.c5
  have e6 := h6.box.c6
  have e7 := h6.box.c7
  have e8 := h6.box.c8
  go_wp2_with fail
  refine (toMsg_any k who seq q s ba bn bc oa on oc code ta tn tc l os 0 w.heap.size _ hs1 h6.below.size (H.below h6.below (Nat.le_refl _))).mono ?_; rintro x w7 ⟨⟨b7, b7', b7'', rfl, m7⟩, hb7⟩
  have h7 := h6.next hb7
  have g7 := g6.next hb7
  clear hb7 h6 g6 e0 e1 e2 e3 e4 e5 e6 e7 e8
  have hX := HeldM.new w7 k who seq q s (some ⟨b7, 0, none⟩) bn bn (some ⟨b7', 0, none⟩) on on code (some ⟨b7'', 0, none⟩) tn tn 41
  have h8 := h7.next hX.below
  have g8 := g7.next hX.below
  have m8 := m7.below hX.below (Nat.le_refl _)
  have hz7 := g7.hi
  clear h7 g7 m7
  have f0 := g8.box.c0
  have f1 := g8.box.c1
  have f2 := g8.box.c2
  have f3 := g8.box.c3
  have f4 := g8.box.c4
  have f5 := g8.box.c5
  have f6 := g8.box.c6
  have f7 := g8.box.c7
  have f8 := g8.box.c8
  go_wp2_with fail
  refine (toMsg_any k' who' seq' q' s' ba' bn' bc' oa' on' oc' code' ta' tn' tc' l' os' 0 w.heap.size _ hs2 h8.below.size (H'.below h8.below (Nat.le_refl _))).mono ?_; rintro x w9 ⟨⟨b9, b9', b9'', rfl, m9⟩, hb9⟩
  have h9 := h8.next hb9
  have g9 := g8.next hb9
  have hX9 := hX.next hb9
  have m9x := m8.below hb9 hX.below.size
  clear hb9 h8 g8 hX m8 f0 f1 f2 f3 f4 f5 f6 f7 f8 hz7
  have hY := HeldM.new w9 k' who' seq' q' s' (some ⟨b9, 0, none⟩) bn' bn' (some ⟨b9', 0, none⟩) on' on' code' (some ⟨b9'', 0, none⟩) tn' tn' 41
  have h10 := h9.next hY.below
  have g10 := g9.next hY.below
  have hX10 := hX9.next hY.below
  have m10x := m9x.below hY.below hX9.below.size
  have m10 := m9.below hY.below (Nat.le_refl _)
  have hz9 := hX9.hi
  obtain ⟨s8z, hs8z⟩ : ∃ z9 : Nat, z9 = (w7.alloc (Obj.cells #[.int .i64 k, .int .i64 who, .int .i64 seq, .int .i64 q, .int .i64 s, .slice (some ⟨b7, 0, none⟩) bn bn, .slice (some ⟨b7', 0, none⟩) on on, .int .i64 code, .slice (some ⟨b7'', 0, none⟩) tn tn] 41)).heap.size := ⟨_, rfl⟩
  rw [← hs8z] at m10
  clear hs8z
  clear h9 g9 hX9 m9 m9x
  have f0 := hX10.box.c0
  have f1 := hX10.box.c1
  have f2 := hX10.box.c2
  have f3 := hX10.box.c3
  have f4 := hX10.box.c4
  have f5 := hX10.box.c5
  have f6 := hX10.box.c6
  have f7 := hX10.box.c7
  have f8 := hX10.box.c8
  go_wp2_with fail
  refine (implMsgSame k who seq q s (some ⟨b7, 0, none⟩) bn bn (some ⟨b7', 0, none⟩) on on code (some ⟨b7'', 0, none⟩) tn tn k' who' seq' q' s' (some ⟨b9, 0, none⟩) bn' bn' (some ⟨b9', 0, none⟩) on' on' code' (some ⟨b9'', 0, none⟩) tn' tn' l l' os os' _ _ _ _ _ hX10.below.size hY.below.size m10x m10).mono ?_
  rintro x w11 ⟨rfl, hb11⟩
  have h11 := h10.next hb11
  have g11 := g10.next hb11
  have hX11 := hX10.next hb11
  have hY11 := hY.next hb11
  have m11x := m10x.below hb11 hX10.below.size
  have m11 := m10.below hb11 hY.below.size
  clear hb11 h10 g10 hX10 hY m10 m10x f0 f1 f2 f3 f4 f5 f6 f7 f8 hz9
  go_wp2_with fail
  go_upto_region 14 with fail
  go_cut [39] (fun x wx => x = .bool false ∧ HeldM w wx w.heap.size k who seq q s ba bn bc oa on oc code ta tn tc ∧ HeldM w wx (w.heap.size + 1) k' who' seq' q' s' ba' bn' bc' oa' on' oc' code' ta' tn' tc' ∧ HeldM w9 wx w9.heap.size k' who' seq' q' s' (some ⟨b9, 0, none⟩) bn' bn' (some ⟨b9', 0, none⟩) on' on' code' (some ⟨b9'', 0, none⟩) tn' tn' ∧ MsgAt wx s8z w9.heap.size q' s' (some ⟨b9, 0, none⟩) bn' (some ⟨b9', 0, none⟩) on' (some ⟨b9'', 0, none⟩) tn' l' os')
  case first =>
    have h12 := h11.drew
    have g12 := g11.drew
    have hX12 := hX11.drew
    have hY12 := hY11.drew
    have e0 := h11.box.c0
    have e1 := h11.box.c1
    have e2 := h11.box.c2
    have e3 := h11.box.c3
    have e4 := h11.box.c4
    have e5 := h11.box.c5
    have e6 := h11.box.c6
    have e7 := h11.box.c7
    have e8 := h11.box.c8
    have f0 := hX11.box.c0
    have f1 := hX11.box.c1
    have f2 := hX11.box.c2
    have f3 := hX11.box.c3
    have f4 := hX11.box.c4
    have f5 := hX11.box.c5
    have f6 := hX11.box.c6
    have f7 := hX11.box.c7
    have f8 := hX11.box.c8
    have hz1 := h11.hi
    have hz2 := hX11.hi
    have m12x := m11x.below (Below.refl w11.heap.size w11).drew hX11.below.size
    have m12 := m11.below (Below.refl w11.heap.size w11).drew hY11.below.size
    go_region_with (first
      | (go_at_call 7; go_must (refine (toMsg_any k who seq q s ba bn bc oa on oc code ta tn tc l os 0 w.heap.size _ hs1 h12.below.size (H.below h12.below (Nat.le_refl _))).mono ?_; rintro x w13 ⟨⟨b13, b13', b13'', rfl, m13⟩, hb13⟩; have h13 := h12.next hb13; have hX13 := hX12.next hb13; have f0 := hX13.box.c0; have f1 := hX13.box.c1; have f2 := hX13.box.c2; have f3 := hX13.box.c3; have f4 := hX13.box.c4; have f5 := hX13.box.c5; have f6 := hX13.box.c6; have f7 := hX13.box.c7; have f8 := hX13.box.c8; have hz13 := hX13.hi))
      | (go_at_call 9; go_must (refine (eqMsg_same k who seq q s (some ⟨b7, 0, none⟩) bn bn (some ⟨b7', 0, none⟩) on on code (some ⟨b7'', 0, none⟩) tn tn _ _ _ _ _ _ l os _ _ _ _ _ hX13.below.size (Nat.le_refl _) (m12x.below hb13 hX12.below.size) m13).mono ?_; rintro x w14 ⟨rfl, hb14⟩)))
    all_goals
      go_wp2_with fail
      go_meet
      exact ⟨rfl, h13.next hb14, (g12.next hb13).next hb14, (hY12.next hb13).next hb14, (m12.below hb13 hY12.below.size).below hb14 (hY12.next hb13).below.size⟩
  obtain ⟨rfl, h15, g15, hY15, m15⟩ := hcut
  clear h11 g11 hX11 hY11 m11 m11x
  go_wp2_with fail
  go_upto_region 16 with fail
  have h16 := h15.drew
  have g16 := g15.drew
  have hY16 := hY15.drew
  have e0 := g15.box.c0
  have e1 := g15.box.c1
  have e2 := g15.box.c2
  have e3 := g15.box.c3
  have e4 := g15.box.c4
  have e5 := g15.box.c5
  have e6 := g15.box.c6
  have e7 := g15.box.c7
  have e8 := g15.box.c8
  have f0 := hY15.box.c0
  have f1 := hY15.box.c1
  have f2 := hY15.box.c2
  have f3 := hY15.box.c3
  have f4 := hY15.box.c4
  have f5 := hY15.box.c5
  have f6 := hY15.box.c6
  have f7 := hY15.box.c7
  have f8 := hY15.box.c8
  have hz1 := g15.hi
  have hz2 := hY15.hi
  have m16 := m15.below (Below.refl wc.heap.size wc).drew hY15.below.size
  go_region_with (first
    | (go_at_call 7; go_must (refine (toMsg_any k' who' seq' q' s' ba' bn' bc' oa' on' oc' code' ta' tn' tc' l' os' 0 w.heap.size _ hs2 h16.below.size (H'.below h16.below (Nat.le_refl _))).mono ?_; rintro x w17 ⟨⟨b17, b17', b17'', rfl, m17⟩, hb17⟩; have h17 := h16.next hb17; have hY17 := hY16.next hb17; have f0 := hY17.box.c0; have f1 := hY17.box.c1; have f2 := hY17.box.c2; have f3 := hY17.box.c3; have f4 := hY17.box.c4; have f5 := hY17.box.c5; have f6 := hY17.box.c6; have f7 := hY17.box.c7; have f8 := hY17.box.c8; have hz17 := hY17.hi))
    | (go_at_call 9; go_must (refine (eqMsg_same k' who' seq' q' s' (some ⟨b9, 0, none⟩) bn' bn' (some ⟨b9', 0, none⟩) on' on' code' (some ⟨b9'', 0, none⟩) tn' tn' _ _ _ _ _ _ l' os' _ _ _ _ _ hY17.below.size (Nat.le_refl _) (m16.below hb17 hY16.below.size) m17).mono ?_; rintro x w18 ⟨rfl, hb18⟩)))
  all_goals
    go_wp2_with fail
    go_ret
    exact ⟨rfl, (h17.next hb18).below⟩

namespace fnExactMsgSame
open Go.ChangeShapes Go.WideShapes Go.ChangeAt Go.RowKit
open Go.ChangeMaps (open_string shut_string)
set_option linter.unusedVariables false

theorem own : ownKnob Try.prog.godebug = none := by kernel_rfl

set_option maxRecDepth 100000 in
theorem lifted (os : Os) (started : os.Started) (H : Type) (enc : TypeId × Value → H) :
    ReturnsInHanded {} Try.checked os 4 .any (Rows.fnExactMsgSameSpec.pre6 enc Try.prog Try.f4 Rows.fnExactMsgSameRow.domain false) (Rows.fnExactMsgSameSpec.post enc Try.prog Try.f4 false true false false) := by
  refine returnsInHanded_of_change (C := Try.checked) own started (by kernel_rfl) Try.func4
    (ChangeSpec.witness6 (enc := enc) (C := Try.checked) false ⟨#[], #[.agg #[.int .i64 0, .int .i64 0, .int .i64 0, .int .i64 0, .int .i64 0, .slice none 0 0, .slice none 0 0, .int .i64 0, .slice none 0 0], .agg #[.int .i64 0, .int .i64 0, .int .i64 0, .int .i64 0, .int .i64 0, .slice none 0 0, .slice none 0 0, .int .i64 0, .slice none 0 0]], []⟩ 8 (by kernel_rfl) (by kernel_rfl) (by kernel_rfl) (by kernel_rfl)) ?_
  intro W base args ds gs before hval0 hW hcnd _
  have hval : ∀ (j : Nat) t v, Try.f4.params[j]? = some t → args[j]? = some v → Value.okWide Try.prog W .any base t v := hval0
  have hW' := hW
  obtain ⟨p, q, hA0, hV, rfl, hfz, hnd⟩ := hW
  have hA : DataW.TrodAll enc Try.prog W 0 (fun _ => true) true Try.f4.params.toList args.toList ds p := hA0
  rw [Try.params4] at hA hval
  obtain ⟨v0, vs0, d0, ds0, p0, q0, hargs0, rfl, rfl, h0, r0⟩ := trodAll_cons hA
  obtain ⟨v1, vs1, d1, ds1, p1, q1, hargs1, rfl, rfl, h1, r1⟩ := trodAll_cons r0
  obtain ⟨rfl, rfl, rfl⟩ := trodAll_nil r1
  obtain rfl : args = #[v0, v1] := by cases args; simp_all
  obtain ⟨rfl, rfl⟩ := trodVars_none hV
  have k0 := h0
  have lt0 : ∀ x ∈ p0, x.block < W.heap.size := by obtain ⟨m, hm⟩ := k0; exact DataW.trod_lt m _ _ _ hm
  obtain ⟨ak0, awho0, aseq0, aq0, as0, aba0, abn0, abc0, aoa0, aon0, aoc0, acode0, ata0, atn0, atc0, l0, o0, rfl, w0⟩ := open_msg (hval 0 30 v0 rfl rfl) h0
  have k1 := h1
  have lt1 : ∀ x ∈ p1, x.block < W.heap.size := by obtain ⟨m, hm⟩ := k1; exact DataW.trod_lt m _ _ _ hm
  obtain ⟨ak1, awho1, aseq1, aq1, as1, aba1, abn1, abc1, aoa1, aon1, aoc1, acode1, ata1, atn1, atc1, l1, o1, rfl, w1⟩ := open_msg (hval 1 30 v1 rfl rfl) h1
  clear hA0 hval0
  refine (walkMsgSame ak0 awho0 aseq0 aq0 as0 aba0 abn0 abc0 aoa0 aon0 aoc0 acode0 ata0 atn0 atc0 ak1 awho1 aseq1 aq1 as1 aba1 abn1 abc1 aoa1 aon1 aoc1 acode1 ata1 atn1 atc1 l0 l1 o0 o1 W w0 w1).mono fun e W' ⟨he, bel⟩ => ?_
  subst he
  exact ⟨_, rfl, _, _, _, [], _, [], hW', trodAll_mk1 (shut_bool Try.underlying4 _), (trodAll_cons_mk (Below.trod fLaid (by kernel_rfl) (of_decide_eq_true (by kernel_rfl)) k0 bel lt0) (trodAll_cons_mk (Below.trod fLaid (by kernel_rfl) (of_decide_eq_true (by kernel_rfl)) k1 bel lt1) trodAll_mk0)), rfl, bel.frame _, fun h => by cases h⟩

set_option maxHeartbeats 4000000 in
theorem closed : joinedFacts Try.prog 4 Try.f4 Rows.fnExactMsgSameSpec Rows.fnExactMsgSameRow = true := by
  refine closedOf rfl rfl rfl ?_ ?_ ?_ ?_ ?_ ?_ ?_ ?_ ?_ ?_ ?_ ?_ ?_ ?_ ?_ ?_ ?_ ?_ ?_ rfl rfl ?_ ?_ ?_
  all_goals (as_aux_lemma => kernel_rfl)

theorem over : Rows.fnExactMsgSameRow.holds Try.pinned (OpenSpec.ofChange Rows.fnExactMsgSameSpec) :=
  OpenClaim.holds_of_wide 4 Try.f4 rfl rfl rfl rfl rfl rfl rfl ⟨rfl, rfl, rfl, rfl, rfl⟩ rfl rfl rfl rfl rfl (by kernel_rfl) Try.func4 closed
    (of_decide_eq_true (by kernel_rfl)) (by unfold Func.isWrapper; first | (rw [if_pos (by decide +kernel)]; kernel_rfl) | (rw [if_neg (by decide +kernel)]; exact ⟨rfl, rfl⟩))
    (fun os started H enc _ => lifted os started H enc)
end fnExactMsgSame

theorem fnExactMsgSame_holds : Rows.FnExactMsgSameSaid := fnExactMsgSame.over
#print axioms fnExactMsgSame_holds
end Go.Proofs.Ytnfegihemhidgaa
