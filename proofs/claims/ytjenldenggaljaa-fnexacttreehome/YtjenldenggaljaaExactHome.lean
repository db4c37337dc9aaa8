/-
  At every tree and argument the call of laws.FnExactTreeHome returns true: the program's TreeHome answers as the specification's, and writes into no argument; its arguments read behind the call as they did. No condition.
-/
import Derived.Test.YtjenldenggaljaaUnder
import Derived.Deep.DeepCutAuto
import Derived.Test.YtjenldenggaljaaClosed
import Derived.ProofKit
import Derived.OpenShut
import Derived.ShutString
import Derived.ChangeOld
namespace Go.Proofs.Ytjenldenggaljaa
open Go.RowKit

set_option maxHeartbeats 1000000 in
theorem walkHome (a : Option Addr) (n c : Nat) (os : List LObj) (id : Int) (w : World) (H : ObjsAt w 0 w.heap.size a n os) :
    Calls Try.prog 16 #[.agg #[.slice a n c], .int .i64 id] w fun e w' => e = .returned (.bool true) ∧ Below w.heap.size w w' := by
  have hB : ∀ o1, Below w.heap.size w (w.alloc o1) := fun o1 => (Below.refl _ _).alloc (Nat.le_refl _) _
  go_enter Try.func16, Try.ntmps16
  go_wp2_with fail
  refine (szTree_any _ _ _ _ 0 w.heap.size _ _ (by omega) (by omega) (by simp) (H.below (hB _) (Nat.le_refl _))).mono ?_
  rintro x w1 ⟨⟨r, rfl, hr⟩, hb1⟩
  have HR : Hid (r = -1 ∨ 0 ≤ r ∧ r = 1048576 - n - totT os) := hr
  clear hr
  have hO := One.start hb1
  clear hb1
  by_cases hneg : r < 0
  · go_wp2_with fail
    go_ret
    exact ⟨rfl, hO.below⟩
  have hS : Sizes os 1048576 ∧ n ≤ 1048576 := by
    have h1 := HR.out
    exact ⟨sizes_of (by omega), by omega⟩
  obtain ⟨hS1, hn1⟩ := hS
  clear HR
  have hx1 := hO.c0
  go_wp2_with fail
  refine (toTree_any _ _ _ _ 0 w.heap.size _ hn1 hS1 hO.below.size (H.below hO.below (Nat.le_refl _))).mono ?_
  rintro x w2 ⟨⟨tb, rfl, hT⟩, hb2⟩
  have hO2 := hO.next hb2
  clear hx1 hO
  go_wp2_with fail
  refine (specHome _ _ _ _ _ _ _ _  hS1 (Nat.le_refl _) hT).mono ?_
  rintro x w3 ⟨rfl, hb3⟩
  have hO3 := hO2.next hb3
  have hx3 := hO3.c0
  clear hO2 hT hb2 hb3
  go_wp2_with fail
  refine (toTree_any _ _ _ _ 0 w.heap.size _ hn1 hS1 hO3.below.size (H.below hO3.below (Nat.le_refl _))).mono ?_
  rintro x w4 ⟨⟨tb4, rfl, hT4⟩, hb4⟩
  have hO4 := hO3.next hb4
  clear hx3 hO3 hb4
  have hA : Below w4.heap.size w4 (w4.alloc (Obj.cells #[Value.slice (some ⟨tb4, 0, none⟩) n n] 25)) := (Below.refl _ _).alloc (Nat.le_refl _) _
  have hO5 := hO4.next hA
  have hz4 : w.heap.size < w4.heap.size := hO4.size
  go_wp2_with fail
  refine (implHome _ _ _ _ _ _ _ _  (by simp) (hT4.below hA (Nat.le_refl _))).mono ?_
  rintro x w6 ⟨rfl, hb6⟩
  have hO6 := hO5.next hb6
  have hy : w6.cell? ⟨w4.heap.size, 0, none⟩ = some (.slice (some ⟨tb4, 0, none⟩) n n) := by rw [hb6.cell (by simp)]; simp [go_sem]
  have hT6 := (hT4.below hA (Nat.le_refl _)).below hb6 (by simp)
  have hz6 : w4.heap.size < w6.heap.size := by have := hb6.size; simp at this; omega
  have hx6 := hO6.c0
  clear hO4 hO5 hb6 hA hT4
  go_upto_region 10 with fail
  go_cut [30] (fun s wx => s = .bool false ∧ Below w.heap.size w wx)
  case first =>
    have hO1 := H.below hO6.below (Nat.le_refl _)
    go_region_with (first
      | (go_at_call 54; go_must (refine (toTree_any _ _ _ _ 0 w.heap.size _ hn1 hS1 (by first | omega | (simp; omega)) (by repeat (first | exact hO1 | refine ObjsAt.drew ?_))).mono ?_; rintro x w9 ⟨⟨tb3, rfl, hT3⟩, hb9⟩; have hy5 : w9.cell? ⟨w4.heap.size, 0, none⟩ = some (.slice (some ⟨tb4, 0, none⟩) n n) := (by rw [hb9.cell (by simp; omega)]; simpa using hy)))
      | (go_at_call 50; go_must (refine (eqTree_same _ _ _ _ _ _ _ w6.heap.size _ _ _ (Nat.le_trans (by simp) hb9.size) (Nat.le_refl _) ((hT6.wide (Nat.zero_le _) (by omega)).drew.below hb9 (by simp)) hT3).mono ?_; rintro x w10 ⟨rfl, hb10⟩)))
    all_goals
      go_wp2_with fail
      go_meet
      exact ⟨rfl, (((hO6.drew).next hb9).next hb10).below⟩
  case rest =>
    obtain ⟨rfl, hcut⟩ := hcut
    go_wp2_with fail
    go_ret
    exact ⟨rfl, hcut⟩

namespace fnExactTreeHome
open Go.ChangeShapes Go.WideShapes Go.ChangeAt Go.RowKit
open Go.ChangeMaps (open_string shut_string)
set_option linter.unusedVariables false

theorem own : ownKnob Try.prog.godebug = none := by kernel_rfl

set_option maxRecDepth 100000 in
theorem lifted (os : Os) (started : os.Started) (H : Type) (enc : TypeId × Value → H) :
    ReturnsInHanded {} Try.checked os 16 .any (Rows.fnExactTreeHomeSpec.pre6 enc Try.prog Try.f16 Rows.fnExactTreeHomeRow.domain false) (Rows.fnExactTreeHomeSpec.post enc Try.prog Try.f16 false true false false) := by
  refine returnsInHanded_of_change (C := Try.checked) own started (by kernel_rfl) Try.func16
    (ChangeSpec.witness6 (enc := enc) (C := Try.checked) false ⟨#[], #[.agg #[.slice none 0 0], .int .i64 0], []⟩ 8 (by kernel_rfl) (by kernel_rfl) (by kernel_rfl) (by kernel_rfl)) ?_
  intro W base args ds gs before hval0 hW hcnd _
  have hval : ∀ (j : Nat) t v, Try.f16.params[j]? = some t → args[j]? = some v → Value.okWide Try.prog W .any base t v := hval0
  have hW' := hW
  obtain ⟨p, q, hA0, hV, rfl, hfz, hnd⟩ := hW
  have hA : DataW.TrodAll enc Try.prog W 0 (fun _ => true) true Try.f16.params.toList args.toList ds p := hA0
  rw [Try.params16] at hA hval
  obtain ⟨v0, vs0, d0, ds0, p0, q0, hargs, rfl, rfl, h0, r0⟩ := trodAll_cons hA
  obtain ⟨v1, vs1, d1, ds1, p1, q1, rfl, rfl, rfl, h1, r1⟩ := trodAll_cons r0
  obtain ⟨rfl, rfl, rfl⟩ := trodAll_nil r1
  obtain rfl : args = #[v0, v1] := by cases args; simp_all
  obtain ⟨rfl, rfl⟩ := trodVars_none hV
  have k0 := h0
  have lt0 : ∀ x ∈ p0, x.block < W.heap.size := by obtain ⟨m, hm⟩ := k0; exact DataW.trod_lt m _ _ _ hm
  obtain ⟨a0, n0, c0, o0, rfl, w0⟩ := open_tree (hval 0 53 v0 rfl rfl) h0
  obtain ⟨x1, rfl, rfl, rfl, w1⟩ := open_int Try.underlying3 (hval 1 3 v1 rfl rfl) h1
  clear hA0 hval0
  refine (walkHome a0 n0 c0 o0 x1 W w0).mono fun e W' ⟨he, bel⟩ => ?_
  subst he
  exact ⟨_, rfl, _, _, _, [], _, [], hW', trodAll_mk1 (shut_bool Try.underlying4 _), (trodAll_cons_mk (Below.trod fLaid (by kernel_rfl) (of_decide_eq_true (by kernel_rfl)) k0 bel lt0) (trodAll_cons_mk (shut_int Try.underlying3 w1) trodAll_mk0)), rfl, bel.frame _, fun h => by cases h⟩

set_option maxHeartbeats 4000000 in
theorem closed : joinedFacts Try.prog 16 Try.f16 Rows.fnExactTreeHomeSpec Rows.fnExactTreeHomeRow = true := by
  refine closedOf rfl rfl rfl ?_ ?_ ?_ ?_ ?_ ?_ ?_ ?_ ?_ ?_ ?_ ?_ ?_ ?_ ?_ ?_ ?_ ?_ ?_ rfl rfl ?_ ?_ ?_
  all_goals (as_aux_lemma => kernel_rfl)

theorem over : Rows.fnExactTreeHomeRow.holds Try.pinned (OpenSpec.ofChange Rows.fnExactTreeHomeSpec) :=
  OpenClaim.holds_of_wide 16 Try.f16 rfl rfl rfl rfl rfl rfl rfl ⟨rfl, rfl, rfl, rfl, rfl⟩ rfl rfl rfl rfl rfl (by kernel_rfl) Try.func16 closed
    (of_decide_eq_true (by kernel_rfl)) (by unfold Func.isWrapper; first | (rw [if_pos (by decide +kernel)]; kernel_rfl) | (rw [if_neg (by decide +kernel)]; exact ⟨rfl, rfl⟩))
    (fun os started H enc _ => lifted os started H enc)
end fnExactTreeHome

theorem fnExactTreeHome_holds : Rows.FnExactTreeHomeSaid := fnExactTreeHome.over
#print axioms fnExactTreeHome_holds
end Go.Proofs.Ytjenldenggaljaa
