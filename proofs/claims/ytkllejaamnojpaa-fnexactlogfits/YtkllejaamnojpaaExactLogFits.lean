/-
  At every tree and every log the call of laws.FnExactLogFits returns true: the program's LogFits answers as the specification's, both values, and writes into neither; its arguments read behind the call as they did. No condition.
-/
import Derived.Test.YtkllejaamnojpaaLogF
import Derived.Test.YtkllejaamnojpaaLogX
import Derived.Test.YtkllejaamnojpaaSameAll
import Derived.Test.YtkllejaamnojpaaEq
import Derived.Test.YtkllejaamnojpaaClosed
import Derived.Deep.DeepCutAuto
import Derived.ProofKit
import Derived.OpenShut
import Derived.ShutString
import Derived.ChangeOld
namespace Go.Proofs.Ytkllejaamnojpaa
open Go.RowKit

/-- A tree and a log in their boxes, all else as it was. -/
structure HeldT (w wx : World) (ta : Option Addr) (tn tc : Nat) (p r : Int) (b : Option Addr) (m d : Nat) (b' : Option Addr) (m' d' : Nat) : Prop where
  below : Below w.heap.size w wx
  box1 : wx.cell? ⟨w.heap.size, 0, none⟩ = some (.slice ta tn tc)
  box2 : LogBox wx (w.heap.size + 1) p r b m d b' m' d'
  size : w.heap.size + 1 < wx.heap.size
theorem HeldT.next {w wx wy : World} {ta : Option Addr} {tn tc : Nat} {p r : Int} {b : Option Addr} {m d : Nat} {b' : Option Addr} {m' d' : Nat} (h : HeldT w wx ta tn tc p r b m d b' m' d') (hb : Below wx.heap.size wx wy) : HeldT w wy ta tn tc p r b m d b' m' d' :=
  ⟨h.below.trans (hb.mono h.below.size), by rw [hb.cell (by have := h.size; simp; omega)]; exact h.box1, h.box2.of (hb.block _ h.size), by have := hb.size; have := h.size; omega⟩
/-- A tree in its box. -/
structure HeldB (w wx : World) (ta : Option Addr) (tn tc : Nat) : Prop where
  below : Below w.heap.size w wx
  box : wx.cell? ⟨w.heap.size, 0, none⟩ = some (.slice ta tn tc)
  size : w.heap.size < wx.heap.size
theorem HeldB.next {w wx wy : World} {ta : Option Addr} {tn tc : Nat} (h : HeldB w wx ta tn tc) (hb : Below wx.heap.size wx wy) : HeldB w wy ta tn tc :=
  ⟨h.below.trans (hb.mono h.below.size), by rw [hb.cell (by have := h.size; simp; omega)]; exact h.box, by have := hb.size; have := h.size; omega⟩
theorem HeldB.new (w : World) (ta : Option Addr) (tn tc : Nat) (t : TypeId) : HeldB w (w.alloc (Obj.cells #[.slice ta tn tc] t)) ta tn tc := ⟨(Below.refl _ _).alloc (Nat.le_refl _) _, by simp [go_sem], by simp⟩

set_option maxHeartbeats 4000000 in
theorem walkLogFits (ta : Option Addr) (tn tc : Nat) (os : List LObj) (p r : Int) (b : Option Addr) (m d : Nat) (b' : Option Addr) (m' d' : Nat) (k : LLog) (w : World) (H : ObjsAt w 0 w.heap.size ta tn os) (H' : LogAt w 0 w.heap.size p r b m b' m' k) :
    Calls Try.prog 13 #[.agg #[.slice ta tn tc], .agg #[.int .i64 p, .int .i64 r, .slice b m d, .slice b' m' d']] w fun e w' => e = .returned (.bool true) ∧ Below w.heap.size w w' := by
  have hA : HeldT w ((w.alloc (Obj.cells #[.slice ta tn tc] 58)).alloc (Obj.cells #[.int .i64 p, .int .i64 r, .slice b m d, .slice b' m' d'] 72)) ta tn tc p r b m d b' m' d' :=
    ⟨((Below.refl _ _).alloc (Nat.le_refl _) _).alloc (by simp) _, by simp [go_sem], ⟨by simp [go_sem], by simp [go_sem], by simp [go_sem], by simp [go_sem]⟩, by simp⟩
  go_enter Try.func13, Try.ntmps13
  go_wp2_with fail
  refine (szTree_any _ _ _ os 0 w.heap.size _ _ (by omega) (by omega) hA.below.size (H.below hA.below (Nat.le_refl _))).mono ?_
  rintro x w1 ⟨⟨r1, rfl, hr⟩, hb1⟩
  have HR : Hid (r1 = -1 ∨ 0 ≤ r1 ∧ r1 = 1048576 - tn - totT os) := hr
  have h1 := hA.next hb1
  clear hr hb1 hA
  by_cases hneg : r1 < 0
  · go_wp2_with fail
    go_ret
    exact ⟨rfl, h1.below⟩
  obtain ⟨d0, d1, d2, d3⟩ := h1.box2
  go_wp2_with fail
  refine (szLog_any _ _ _ _ _ _ _ _ k 0 w.heap.size _ _ (by omega) (by have := HR.out; omega) h1.below.size (H'.below h1.below (Nat.le_refl _))).mono ?_
  rintro x w2 ⟨⟨r2, rfl, hr2⟩, hb2⟩
  have HR2 : Hid (r2 = -1 ∨ 0 ≤ r2 ∧ r2 = r1 - m - m' - totOps k.list) := hr2
  have h2 := h1.next hb2
  clear hr2 hb2 h1 d0 d1 d2 d3
  by_cases hneg2 : r2 < 0
  · go_wp2_with fail
    go_ret
    exact ⟨rfl, h2.below⟩
  have hn1 : tn ≤ 1048576 := by have := HR.out; omega
  have hS1 : Sizes os 1048576 := sizes_of (by have := HR.out; omega)
  have hm1 : m ≤ 1048576 := by have := HR.out; have := HR2.out; omega
  have hm2 : m' ≤ 1048576 := by have := HR.out; have := HR2.out; omega
  clear HR HR2
  go_upto_region 8 with fail
  go_cut [6, 7] (fun x y wx => x = .bool (logFits os k).1 ∧ y = .int .i64 (logFits os k).2 ∧ HeldT w wx ta tn tc p r b m d b' m' d')
  case first =>
    have c0 := h2.box1
    obtain ⟨d0, d1, d2, d3⟩ := h2.box2
    have hz2 := h2.size
    have h3 := h2.next (Below.refl _ _).drew
    go_region_with (first
      | (go_at_call 46; go_must (refine (toTree_any _ _ _ os 0 w.heap.size _ hn1 hS1 h3.below.size (H.below h3.below (Nat.le_refl _))).mono ?_; rintro x w4 ⟨⟨b4, rfl, h4l⟩, hb4⟩; have h4 := h3.next hb4; obtain ⟨d0, d1, d2, d3⟩ := h4.box2; have hz4 := h4.size))
      | (go_at_call 57; go_must (refine (toLog_any _ _ _ _ _ _ _ _ k 0 w.heap.size _ hm1 hm2 h4.below.size (H'.below h4.below (Nat.le_refl _))).mono ?_; rintro x w5 ⟨⟨b5, b5', rfl, h5l⟩, hb5⟩; have h5 := h4.next hb5))
      | (go_at_call 31; go_must (refine (specLogFits _ _ _ os _ _ _ _ _ _ _ _ _ _ k _ _ _ hb5.size (Nat.le_refl _) hS1 (h4l.below hb5 (Nat.le_refl _)) h5l).mono ?_; rintro x w6 ⟨rfl, hb6⟩)))
    all_goals
      go_wp2_with fail
      go_meet
      exact ⟨rfl, rfl, h5.next hb6⟩
  obtain ⟨rfl, rfl, h6⟩ := hcut
  clear h2
  have c0 := h6.box1
  go_wp2_with fail
  refine (toTree_any _ _ _ os 0 w.heap.size _ hn1 hS1 h6.below.size (H.below h6.below (Nat.le_refl _))).mono ?_
  rintro x w7 ⟨⟨b7, rfl, h7l⟩, hb7⟩
  have h7 := h6.next hb7
  clear hb7 h6 c0
  have hA7 := HeldB.new w7 (some ⟨b7, 0, none⟩) tn tn 34
  have h8 := h7.next hA7.below
  have h8l := h7l.below hA7.below (Nat.le_refl _)
  have hz7 := h7.size
  obtain ⟨d0, d1, d2, d3⟩ := h8.box2
  go_wp2_with fail
  refine (toLog_any _ _ _ _ _ _ _ _ k 0 w.heap.size _ hm1 hm2 h8.below.size (H'.below h8.below (Nat.le_refl _))).mono ?_
  rintro x w9 ⟨⟨b9, b9', rfl, h9k⟩, hb9⟩
  have h9 := h8.next hb9
  have hA9 := hA7.next hb9
  have h9l := h8l.below hb9 hA7.below.size
  clear hb9 h8 hA7 h8l d0 d1 d2 d3 h7l h7
  have hAx := Held1.new w9 p r (some ⟨b9, 0, none⟩) m m (some ⟨b9', 0, none⟩) m' m' 37
  have h10 := h9.next hAx.below
  have hA10 := hA9.next hAx.below
  have h10l := h9l.below hAx.below hA9.below.size
  have h10k := h9k.below hAx.below (Nat.le_refl _)
  have hz9 := hA9.size
  clear h9 hA9 h9l h9k
  have c0 := hA10.box
  go_wp2_with fail
  refine (implLogFits _ _ _ os _ _ _ _ _ _ _ _ _ _ k _ _ _ hA10.below.size hAx.below.size (Nat.le_refl _) (by unfold maxLen; omega) h10l h10k).mono ?_
  rintro x w11 ⟨rfl, hb11⟩
  have h11 := h10.next hb11
  have hA11 := hA10.next hb11
  have hX11 := hAx.next hb11
  have h11l := h10l.below hb11 hA10.below.size
  have h11k := h10k.below hb11 hAx.below.size
  clear hb11 h10 hA10 hAx h10l h10k c0
  have hne : ((logFits os k).1 != (logFits os k).1) = false := by simp
  have hne2 : ((logFits os k).2 != (logFits os k).2) = false := by simp
  go_upto_region 14 with fail
  go_cut [52] (fun x wx => x = .bool false ∧ HeldT w wx ta tn tc p r b m d b' m' d' ∧ Held1 w9 wx p r (some ⟨b9, 0, none⟩) m m (some ⟨b9', 0, none⟩) m' m' ∧ LogAt wx _ w9.heap.size p r (some ⟨b9, 0, none⟩) m (some ⟨b9', 0, none⟩) m' k)
  case first =>
    have c0 := h11.box1
    have d0 := hA11.box
    have hz := h11.size
    have hzA := hA11.size
    have h12 := h11.next (Below.refl _ _).drew
    have hA12 := hA11.next (Below.refl _ _).drew
    have h12l := h11l.drew
    go_region_with (first
      | (go_at_call 46; go_must (refine (toTree_any _ _ _ os 0 w.heap.size _ hn1 hS1 h12.below.size (H.below h12.below (Nat.le_refl _))).mono ?_; rintro x w13 ⟨⟨b13, rfl, h13l⟩, hb13⟩; have h13 := h12.next hb13; have hA13 := hA12.next hb13; have g13 := h12l.below hb13 hA11.below.size; have d0 := hA13.box; have hzA13 := hA13.size))
      | (go_at_call 50; go_must (refine (eqTree_same _ _ _ _ _ os _ _ _ _ _ (by have := hA13.below.size; omega) (Nat.le_refl _) g13 h13l).mono ?_; rintro x w14 ⟨rfl, hb14⟩)))
    all_goals
      go_wp2_with fail
      go_meet
      exact ⟨rfl, h13.next hb14, ((hX11.next (Below.refl _ _).drew).next hb13).next hb14, ((h11k.drew).below hb13 hX11.below.size).below hb14 (by have := hX11.below.size; have := hb13.size; simp at this; omega)⟩
  obtain ⟨rfl, h15, hX15, h15k⟩ := hcut
  clear h11 hA11 hX11 h11l h11k
  go_upto_region 16 with fail
  go_cut [57] (fun x wx => x = .bool false ∧ Below w.heap.size w wx)
  case first =>
    obtain ⟨c0, c1, c2, c3⟩ := h15.box2
    obtain ⟨d0, d1, d2, d3⟩ := hX15.box
    have hz := h15.size
    have hzA := hX15.size
    have h16 := h15.next (Below.refl _ _).drew
    have hX16 := hX15.next (Below.refl _ _).drew
    have h16k := h15k.drew
    go_region_with (first
      | (go_at_call 57; go_must (refine (toLog_any _ _ _ _ _ _ _ _ k 0 w.heap.size _ hm1 hm2 h16.below.size (H'.below h16.below (Nat.le_refl _))).mono ?_; rintro x w17 ⟨⟨b17, b17', rfl, h17k⟩, hb17⟩; have h17 := h16.next hb17; have hX17 := hX16.next hb17; have g17 := h16k.below hb17 hX15.below.size; obtain ⟨d0, d1, d2, d3⟩ := hX17.box; have hzX17 := hX17.size))
      | (go_at_call 49; go_must (refine (eqLog_same _ _ _ _ _ _ _ _ _ _ _ _ k _ _ _ _ _ (by have := hX17.below.size; omega) (Nat.le_refl _) g17 h17k).mono ?_; rintro x w18 ⟨rfl, hb18⟩)))
    all_goals
      go_wp2_with fail
      go_meet
      exact ⟨rfl, (h17.next hb18).below⟩
  obtain ⟨rfl, hB⟩ := hcut
  go_wp2_with fail
  go_ret
  exact ⟨rfl, hB⟩

namespace fnExactLogFits
open Go.ChangeShapes Go.WideShapes Go.ChangeAt Go.RowKit
open Go.ChangeMaps (open_string shut_string)
set_option linter.unusedVariables false

theorem own : ownKnob Try.prog.godebug = none := by kernel_rfl

set_option maxRecDepth 100000 in
theorem lifted (os : Os) (started : os.Started) (H : Type) (enc : TypeId × Value → H) :
    ReturnsInHanded {} Try.checked os 13 .any (Rows.fnExactLogFitsSpec.pre6 enc Try.prog Try.f13 Rows.fnExactLogFitsRow.domain false) (Rows.fnExactLogFitsSpec.post enc Try.prog Try.f13 false true false false) := by
  refine returnsInHanded_of_change (C := Try.checked) own started (by kernel_rfl) Try.func13
    (ChangeSpec.witness6 (enc := enc) (C := Try.checked) false ⟨#[], #[.agg #[.slice none 0 0], .agg #[.int .i64 0, .int .i64 0, .slice none 0 0, .slice none 0 0]], []⟩ 8 (by kernel_rfl) (by kernel_rfl) (by kernel_rfl) (by kernel_rfl)) ?_
  intro W base args ds gs before hval0 hW hcnd _
  have hval : ∀ (j : Nat) t v, Try.f13.params[j]? = some t → args[j]? = some v → Value.okWide Try.prog W .any base t v := hval0
  have hW' := hW
  obtain ⟨p, q, hA0, hV, rfl, hfz, hnd⟩ := hW
  have hA : DataW.TrodAll enc Try.prog W 0 (fun _ => true) true Try.f13.params.toList args.toList ds p := hA0
  rw [Try.params13] at hA hval
  obtain ⟨v0, vs0, d0, ds0, p0, q0, hargs, rfl, rfl, h0, r0⟩ := trodAll_cons hA
  obtain ⟨v1, vs1, d1, ds1, p1, q1, hargs1, rfl, rfl, h1, r1⟩ := trodAll_cons r0
  obtain ⟨rfl, rfl, rfl⟩ := trodAll_nil r1
  obtain rfl : args = #[v0, v1] := by cases args; simp_all
  obtain ⟨rfl, rfl⟩ := trodVars_none hV
  have k0 := h0
  have lt0 : ∀ x ∈ p0, x.block < W.heap.size := by obtain ⟨m, hm⟩ := k0; exact DataW.trod_lt m _ _ _ hm
  have k1 := h1
  have lt1 : ∀ x ∈ p1, x.block < W.heap.size := by obtain ⟨m, hm⟩ := k1; exact DataW.trod_lt m _ _ _ hm
  obtain ⟨a0, n0, c0, o0, rfl, w0⟩ := open_tree (hval 0 58 v0 rfl rfl) h0
  obtain ⟨q1, s1, a1, n1, c1, a1', n1', c1', o1, rfl, w1⟩ := open_log (hval 1 72 v1 rfl rfl) h1
  clear hA0 hval0
  refine (walkLogFits a0 n0 c0 o0 q1 s1 a1 n1 c1 a1' n1' c1' o1 W w0 w1).mono fun e W' ⟨he, bel⟩ => ?_
  subst he
  exact ⟨_, rfl, _, _, _, [], _, [], hW', trodAll_mk1 (shut_bool Try.underlying4 _), (trodAll_cons_mk (Below.trod fLaid (by kernel_rfl) (of_decide_eq_true (by kernel_rfl)) k0 bel lt0) (trodAll_cons_mk (Below.trod fLaid (by kernel_rfl) (of_decide_eq_true (by kernel_rfl)) k1 bel lt1) trodAll_mk0)), rfl, bel.frame _, fun h => by cases h⟩

set_option maxHeartbeats 4000000 in
theorem closed : joinedFacts Try.prog 13 Try.f13 Rows.fnExactLogFitsSpec Rows.fnExactLogFitsRow = true := by
  refine closedOf rfl rfl rfl ?_ ?_ ?_ ?_ ?_ ?_ ?_ ?_ ?_ ?_ ?_ ?_ ?_ ?_ ?_ ?_ ?_ ?_ ?_ rfl rfl ?_ ?_ ?_
  all_goals (as_aux_lemma => kernel_rfl)

theorem over : Rows.fnExactLogFitsRow.holds Try.pinned (OpenSpec.ofChange Rows.fnExactLogFitsSpec) :=
  OpenClaim.holds_of_wide 13 Try.f13 rfl rfl rfl rfl rfl rfl rfl ⟨rfl, rfl, rfl, rfl, rfl⟩ rfl rfl rfl rfl rfl (by kernel_rfl) Try.func13 closed
    (of_decide_eq_true (by kernel_rfl)) (by unfold Func.isWrapper; first | (rw [if_pos (by decide +kernel)]; kernel_rfl) | (rw [if_neg (by decide +kernel)]; exact ⟨rfl, rfl⟩))
    (fun os started H enc _ => lifted os started H enc)
end fnExactLogFits

theorem fnExactLogFits_holds : Rows.FnExactLogFitsSaid := fnExactLogFits.over
#print axioms fnExactLogFits_holds
end Go.Proofs.Ytkllejaamnojpaa
