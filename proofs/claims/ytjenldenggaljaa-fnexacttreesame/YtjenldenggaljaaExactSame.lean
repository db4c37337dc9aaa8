/-
  At every two trees the call of laws.FnExactTreeSame returns true: the program's TreeSame answers as the specification's, and writes into neither; its arguments read behind the call as they did. No condition.
-/
import Derived.Test.YtjenldenggaljaaTwo
import Derived.Deep.DeepCutAuto
import Derived.Test.YtjenldenggaljaaClosed
import Derived.ProofKit
import Derived.OpenShut
import Derived.ShutString
import Derived.ChangeOld
namespace Go.Proofs.Ytjenldenggaljaa
open Go.RowKit

set_option maxHeartbeats 1000000 in
theorem walkSame (a a' : Option Addr) (n n' c c' : Nat) (os os' : List LObj) (w : World) (H : ObjsAt w 0 w.heap.size a n os) (H' : ObjsAt w 0 w.heap.size a' n' os') :
    Calls Try.prog 13 #[.agg #[.slice a n c], .agg #[.slice a' n' c']] w fun e w' => e = .returned (.bool true) ∧ Below w.heap.size w w' := by
  have hB : ∀ o1 o2, Below w.heap.size w ((w.alloc o1).alloc o2) := fun o1 o2 => ((Below.refl _ _).alloc (Nat.le_refl _) _).alloc (by simp) _
  go_enter Try.func13, Try.ntmps13
  go_wp2_with fail
  refine (szTree_any _ _ _ _ 0 w.heap.size _ _ (by omega) (by omega) (by simp; omega) (H.below (hB _ _) (Nat.le_refl _))).mono ?_
  rintro x w1 ⟨⟨r, rfl, hr⟩, hb1⟩
  have HR : Hid (r = -1 ∨ 0 ≤ r ∧ r = 1048576 - n - totT os) := hr
  clear hr
  obtain ⟨hc, hf⟩ := bcell hb1
  have hx1 : w1.cell? ⟨w.heap.size, 0, none⟩ = some (.slice a n c) := by rw [hc _ _ (by simp; omega)]; simp [go_sem]
  have hx2 : w1.cell? ⟨w.heap.size + 1, 0, none⟩ = some (.slice a' n' c') := by rw [hc _ _ (by simp)]; simp [go_sem]
  have hb0 : Below w.heap.size w w1 := (hB _ _).trans (hb1.mono (by simp; omega))
  have hz1 : w.heap.size + 2 ≤ w1.heap.size := by have := hb1.size; simp at this; omega
  clear hc hf hb1
  by_cases hneg : r < 0
  · go_wp2_with fail
    go_ret
    exact ⟨rfl, hb0⟩
  have hr1 : r ≤ 1048576 := by have := HR.out; omega
  go_wp2_with fail
  refine (szTree_any _ _ _ _ 0 w.heap.size _ _ (by omega) (by omega) hb0.size (H'.below hb0 (Nat.le_refl _))).mono ?_
  rintro x w2 ⟨⟨r2, rfl, hr2⟩, hb2⟩
  have HR2 : Hid (r2 = -1 ∨ 0 ≤ r2 ∧ r2 = r - n' - totT os') := hr2
  clear hr2
  have hx3 : w2.cell? ⟨w.heap.size, 0, none⟩ = some (.slice a n c) := by rw [hb2.cell (by simp; omega)]; exact hx1
  have hx4 : w2.cell? ⟨w.heap.size + 1, 0, none⟩ = some (.slice a' n' c') := by rw [hb2.cell (by simp; omega)]; exact hx2
  have hb3 : Below w.heap.size w w2 := hb0.trans (hb2.mono (by omega))
  have hz2 : w.heap.size + 2 ≤ w2.heap.size := by have := hb2.size; omega
  clear hx1 hx2 hb0 hb2 hz1
  by_cases hneg2 : r2 < 0
  · go_wp2_with fail
    go_ret
    exact ⟨rfl, hb3⟩
  have hS : Sizes os 1048576 ∧ Sizes os' 1048576 ∧ n ≤ 1048576 ∧ n' ≤ 1048576 := by
    have h1 := HR.out
    have h2 := HR2.out
    exact ⟨sizes_of (by omega), sizes_of (by omega), by omega, by omega⟩
  obtain ⟨hS1, hS2, hn1, hn2⟩ := hS
  clear HR HR2
  go_upto_region 8 with fail
  go_cut [6] (fun s6 wx => s6 = .bool (listEq oSame os os') ∧ Two w wx (.slice a n c) (.slice a' n' c'))
  case first =>
    have hO1 := H.below hb3 (Nat.le_refl _)
    have hO2 := H'.below hb3 (Nat.le_refl _)
    go_region_with (first
      | (go_at_call_of 54 (Value.agg #[Value.slice a n c]); go_must (refine (toTree_any _ _ _ _ 0 w.heap.size _ hn1 hS1 (by simp; omega) (by repeat (first | exact hO1 | refine ObjsAt.drew ?_))).mono ?_; rintro x w4 ⟨⟨tb, rfl, hT1⟩, hb4⟩; have hx5 : w4.cell? ⟨w.heap.size + 1, 0, none⟩ = some (.slice a' n' c') := (by rw [hb4.cell (by simp; omega)]; simpa using hx4); have hO3 : ObjsAt w4 0 w.heap.size a' n' os' := hO2.drew.below hb4 (by simp; omega); have hz4 : w.heap.size + 2 ≤ w4.heap.size := (by have := hb4.size; simp at this; omega)))
      | (go_at_call_of 54 (Value.agg #[Value.slice a' n' c']); go_must (refine (toTree_any _ _ _ _ 0 w.heap.size _ hn2 hS2 (by first | omega | (simp; omega)) (by repeat (first | exact hO3 | refine ObjsAt.drew ?_))).mono ?_; rintro x w5 ⟨⟨tb2, rfl, hT2⟩, hb5⟩))
      | (go_at_call 35; go_must (refine (specSame _ _ _ _ _ _ _ _ _ _ _ _ _ hb5.size (Nat.le_refl _) (hT1.below hb5 (Nat.le_refl _)) hT2).mono ?_; rintro x w6 ⟨rfl, hb6⟩)))
    all_goals
      go_wp2_with fail
      go_meet
      exact ⟨rfl, (((Two.drew ⟨hb3, hx3, hx4, hz2⟩).next hb4).next hb5).next hb6⟩
  case rest =>
    clear hx3 hx4 hb3 hz2
    obtain ⟨rfl, hT⟩ := hcut
    have hO1 := H.below hT.below (Nat.le_refl _)
    have hO2 := H'.below hT.below (Nat.le_refl _)
    have hx1 := hT.c0
    have hx2 := hT.c1
    have hz := hT.size
    go_wp2_with fail
    refine (toTree_any _ _ _ _ 0 w.heap.size _ hn1 hS1 (by omega) hO1).mono ?_
    rintro x w4 ⟨⟨tb, rfl, hT1⟩, hb4⟩
    have hU4 := hT.next hb4
    have hx3 := hU4.c0
    have hx4 := hU4.c1
    have hz4 : w.heap.size + 1 < w4.heap.size := by have := hU4.size; omega
    have hz4' : w.heap.size < w4.heap.size := by omega
    go_wp2_with fail
    have hA1 : Below w4.heap.size w4 (w4.alloc (Obj.cells #[Value.slice (some ⟨tb, 0, none⟩) n n] 25)) := (Below.refl _ _).alloc (Nat.le_refl _) _
    have hU5 := hU4.next hA1
    refine (toTree_any _ _ _ _ 0 w.heap.size _ hn2 hS2 (by simp; omega) (H'.below hU5.below (Nat.le_refl _))).mono ?_
    rintro x w6 ⟨⟨tb2, rfl, hT2⟩, hb6⟩
    have hU6 := hU5.next hb6
    have hT1' := (hT1.below hA1 (Nat.le_refl _)).below hb6 (by simp)
    have hy1 : w6.cell? ⟨w4.heap.size, 0, none⟩ = some (.slice (some ⟨tb, 0, none⟩) n n) := by rw [hb6.cell (by simp)]; simp [go_sem]
    have hz6 : w4.heap.size < w6.heap.size := by have := hb6.size; simp at this; omega
    have hx5 := hU6.c0
    have hx6 := hU6.c1
    have hz6' : w.heap.size + 1 < w6.heap.size := by omega
    have hz6'' : w.heap.size < w6.heap.size := by omega
    clear hx1 hx2 hx3 hx4 hU4 hU5 hO1 hO2 hT hz hb4
    go_wp2_with fail
    have hA2 : Below w6.heap.size w6 (w6.alloc (Obj.cells #[Value.slice (some ⟨tb2, 0, none⟩) n' n'] 25)) := (Below.refl _ _).alloc (Nat.le_refl _) _
    have hU7 := hU6.next hA2
    refine (implSame _ _ _ _ _ _ _ _ _ _ _ _ _ (by simp; omega) (by simp) (hT1'.below hA2 (by omega)) (hT2.below hA2 (Nat.le_refl _))).mono ?_
    rintro x w8 ⟨rfl, hb8⟩
    have hU8 := hU7.next hb8
    have hT1'' := (hT1'.below hA2 (by omega)).below hb8 (by simp; omega)
    have hT2' := (hT2.below hA2 (Nat.le_refl _)).below hb8 (by simp)
    have hy3 : w8.cell? ⟨w4.heap.size, 0, none⟩ = some (.slice (some ⟨tb, 0, none⟩) n n) := by rw [hb8.cell (by simp; omega), hA2.cell (by simp; omega)]; exact hy1
    have hy4 : w8.cell? ⟨w6.heap.size, 0, none⟩ = some (.slice (some ⟨tb2, 0, none⟩) n' n') := by rw [hb8.cell (by simp)]; simp [go_sem]
    have hz8 : w6.heap.size < w8.heap.size := by have := hb8.size; simp at this; omega
    have hx7 := hU8.c0
    have hx8 := hU8.c1
    have hw4 := hT1''
    clear hx5 hx6 hU6 hU7 hT1 hT1' hT2 hb6 hb8 hy1
    go_upto_region 14 with fail
    go_cut [39] (fun s39 wx => s39 = .bool false ∧ Two w wx (.slice a n c) (.slice a' n' c') ∧ Below w8.heap.size w8 wx)
    case first =>
      have hO1 := H.below hU8.below (Nat.le_refl _)
      go_region_with (first
        | (go_at_call 54; go_must (refine (toTree_any _ _ _ _ 0 w.heap.size _ hn1 hS1 (by first | omega | (simp; omega)) (by repeat (first | exact hO1 | refine ObjsAt.drew ?_))).mono ?_; rintro x w9 ⟨⟨tb3, rfl, hT3⟩, hb9⟩; have hy5 : w9.cell? ⟨w4.heap.size, 0, none⟩ = some (.slice (some ⟨tb, 0, none⟩) n n) := (by rw [hb9.cell (by simp; omega)]; simpa using hy3)))
        | (go_at_call 50; go_must (refine (eqTree_same _ _ _ _ _ _ _ w8.heap.size _ _ _ (Nat.le_trans (by simp) hb9.size) (Nat.le_refl _) ((hT1''.wide (Nat.zero_le _) (by omega)).drew.below hb9 (by simp)) hT3).mono ?_; rintro x w10 ⟨rfl, hb10⟩)))
      all_goals
        go_wp2_with fail
        go_meet
        exact ⟨rfl, ((hU8.drew).next hb9).next hb10, (((Below.refl _ _).drew).trans hb9).trans (hb10.mono (by have := hb9.size; simpa using this))⟩
    case rest =>
      obtain ⟨rfl, hU9, hbx⟩ := hcut
      have hO2 := H'.below hU9.below (Nat.le_refl _)
      have hy6 : wc.cell? ⟨w6.heap.size, 0, none⟩ = some (.slice (some ⟨tb2, 0, none⟩) n' n') := by rw [hbx.cell (by simp; omega)]; exact hy4
      have hT2'' := hT2'.below hbx (by omega)
      have hx9 := hU9.c0
      have hx10 := hU9.c1
      have hzc := hbx.size
      have hzc' := hU9.size
      clear hx7 hx8 hy3 hy4 hU8
      go_upto_region 16 with fail
      go_cut [44] (fun s44 wx => s44 = .bool false ∧ Below w.heap.size w wx)
      case first =>
        go_region_with (first
          | (go_at_call 54; go_must (refine (toTree_any _ _ _ _ 0 w.heap.size _ hn2 hS2 (by first | omega | (simp; omega)) (by repeat (first | exact hO2 | refine ObjsAt.drew ?_))).mono ?_; rintro x w9 ⟨⟨tb3, rfl, hT3⟩, hb9⟩; have hy5 : w9.cell? ⟨w6.heap.size, 0, none⟩ = some (.slice (some ⟨tb2, 0, none⟩) n' n') := (by rw [hb9.cell (by simp; omega)]; simpa using hy6)))
          | (go_at_call 50; go_must (refine (eqTree_same _ _ _ _ _ _ _ wc.heap.size _ _ _ (Nat.le_trans (by simp) hb9.size) (Nat.le_refl _) ((hT2''.wide (Nat.zero_le _) (by omega)).drew.below hb9 (by simp)) hT3).mono ?_; rintro x w10 ⟨rfl, hb10⟩)))
        all_goals
          go_wp2_with fail
          go_meet
          exact ⟨rfl, (((hU9.drew).next hb9).next hb10).below⟩
      case rest =>
        obtain ⟨rfl, hcut⟩ := hcut
        go_wp2_with fail
        go_ret
        exact ⟨rfl, hcut⟩

namespace fnExactTreeSame
open Go.ChangeShapes Go.WideShapes Go.ChangeAt Go.RowKit
open Go.ChangeMaps (open_string shut_string)
set_option linter.unusedVariables false

theorem own : ownKnob Try.prog.godebug = none := by kernel_rfl

set_option maxRecDepth 100000 in
theorem lifted (os : Os) (started : os.Started) (H : Type) (enc : TypeId × Value → H) :
    ReturnsInHanded {} Try.checked os 13 .any (Rows.fnExactTreeSameSpec.pre6 enc Try.prog Try.f13 Rows.fnExactTreeSameRow.domain false) (Rows.fnExactTreeSameSpec.post enc Try.prog Try.f13 false true false false) := by
  refine returnsInHanded_of_change (C := Try.checked) own started (by kernel_rfl) Try.func13
    (ChangeSpec.witness6 (enc := enc) (C := Try.checked) false ⟨#[], #[.agg #[.slice none 0 0], .agg #[.slice none 0 0]], []⟩ 8 (by kernel_rfl) (by kernel_rfl) (by kernel_rfl) (by kernel_rfl)) ?_
  intro W base args ds gs before hval0 hW hcnd _
  have hval : ∀ (j : Nat) t v, Try.f13.params[j]? = some t → args[j]? = some v → Value.okWide Try.prog W .any base t v := hval0
  have hW' := hW
  obtain ⟨p, q, hA0, hV, rfl, hfz, hnd⟩ := hW
  have hA : DataW.TrodAll enc Try.prog W 0 (fun _ => true) true Try.f13.params.toList args.toList ds p := hA0
  rw [Try.params13] at hA hval
  obtain ⟨v0, vs0, d0, ds0, p0, q0, hargs, rfl, rfl, h0, r0⟩ := trodAll_cons hA
  obtain ⟨v1, vs1, d1, ds1, p1, q1, rfl, rfl, rfl, h1, r1⟩ := trodAll_cons r0
  obtain ⟨rfl, rfl, rfl⟩ := trodAll_nil r1
  obtain rfl : args = #[v0, v1] := by cases args; simp_all
  obtain ⟨rfl, rfl⟩ := trodVars_none hV
  have k0 := h0
  have k1 := h1
  have lt0 : ∀ x ∈ p0, x.block < W.heap.size := by obtain ⟨m, hm⟩ := k0; exact DataW.trod_lt m _ _ _ hm
  have lt1 : ∀ x ∈ p1, x.block < W.heap.size := by obtain ⟨m, hm⟩ := k1; exact DataW.trod_lt m _ _ _ hm
  obtain ⟨a0, n0, c0, o0, rfl, w0⟩ := open_tree (hval 0 53 v0 rfl rfl) h0
  obtain ⟨a1, n1, c1, o1, rfl, w1⟩ := open_tree (hval 1 53 v1 rfl rfl) h1
  clear hA0 hval0
  refine (walkSame a0 a1 n0 n1 c0 c1 o0 o1 W w0 w1).mono fun e W' ⟨he, bel⟩ => ?_
  subst he
  exact ⟨_, rfl, _, _, _, [], _, [], hW', trodAll_mk1 (shut_bool Try.underlying4 _), (trodAll_cons_mk (Below.trod fLaid (by kernel_rfl) (of_decide_eq_true (by kernel_rfl)) k0 bel lt0) (trodAll_cons_mk (Below.trod fLaid (by kernel_rfl) (of_decide_eq_true (by kernel_rfl)) k1 bel lt1) trodAll_mk0)), rfl, bel.frame _, fun h => by cases h⟩

set_option maxHeartbeats 4000000 in
theorem closed : joinedFacts Try.prog 13 Try.f13 Rows.fnExactTreeSameSpec Rows.fnExactTreeSameRow = true := by
  refine closedOf rfl rfl rfl ?_ ?_ ?_ ?_ ?_ ?_ ?_ ?_ ?_ ?_ ?_ ?_ ?_ ?_ ?_ ?_ ?_ ?_ ?_ rfl rfl ?_ ?_ ?_
  all_goals (as_aux_lemma => kernel_rfl)

theorem over : Rows.fnExactTreeSameRow.holds Try.pinned (OpenSpec.ofChange Rows.fnExactTreeSameSpec) :=
  OpenClaim.holds_of_wide 13 Try.f13 rfl rfl rfl rfl rfl rfl rfl ⟨rfl, rfl, rfl, rfl, rfl⟩ rfl rfl rfl rfl rfl (by kernel_rfl) Try.func13 closed
    (of_decide_eq_true (by kernel_rfl)) (by unfold Func.isWrapper; first | (rw [if_pos (by decide +kernel)]; kernel_rfl) | (rw [if_neg (by decide +kernel)]; exact ⟨rfl, rfl⟩))
    (fun os started H enc _ => lifted os started H enc)
end fnExactTreeSame

theorem fnExactTreeSame_holds : Rows.FnExactTreeSameSaid := fnExactTreeSame.over
#print axioms fnExactTreeSame_holds
end Go.Proofs.Ytjenldenggaljaa
