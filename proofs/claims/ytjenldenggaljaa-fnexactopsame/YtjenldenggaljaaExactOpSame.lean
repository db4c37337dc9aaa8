/-
  At every two lists of what is done the call of laws.FnExactOpSame returns true: the program's OpSame answers as the specification's, and writes into neither; its arguments read behind the call as they did. No condition.
-/
import Derived.Test.YtjenldenggaljaaOpSame
import Derived.Test.YtjenldenggaljaaClosed
import Derived.ProofKit
import Derived.OpenShut
import Derived.ShutString
import Derived.ChangeOld
namespace Go.Proofs.Ytjenldenggaljaa
open Go.RowKit

set_option maxHeartbeats 1000000 in
theorem walkOpSame (a a' : Option Addr) (n n' c c' : Nat) (ops ops' : List LOp) (w : World) (H : OpsAt w 0 w.heap.size a n ops) (H' : OpsAt w 0 w.heap.size a' n' ops') :
    Calls Try.prog 21 #[.slice a n c, .slice a' n' c'] w fun e w' => e = .returned (.bool true) ∧ Below w.heap.size w w' := by
  go_enter Try.func21, Try.ntmps21
  go_wp2_with fail
  refine (szOpS_any _ _ _ _ 0 w.heap.size _ _ (by omega) (by omega) (Nat.le_refl _) H).mono ?_
  rintro x w1 ⟨⟨r, rfl, hr⟩, hb1⟩
  have HR : Hid (r = -1 ∨ 0 ≤ r ∧ r = 1048576 - n - totOps ops) := hr
  clear hr
  by_cases hneg : r < 0
  · go_wp2_with fail
    go_ret
    exact ⟨rfl, hb1⟩
  have hn1 : n ≤ 1048576 := by have := HR.out; omega
  have hr1 : r ≤ 1048576 := by have := HR.out; omega
  go_wp2_with fail
  refine (szOpS_any _ _ _ _ 0 w.heap.size _ _ (by omega) (by omega) hb1.size (H'.below hb1 (Nat.le_refl _))).mono ?_
  rintro x w2 ⟨⟨r2, rfl, hr2⟩, hb2⟩
  have HR2 : Hid (r2 = -1 ∨ 0 ≤ r2 ∧ r2 = r - n' - totOps ops') := hr2
  have hc2 : Below w.heap.size w w2 := hb1.trans (hb2.mono hb1.size)
  clear hr2 hb1 hb2
  by_cases hneg2 : r2 < 0
  · go_wp2_with fail
    go_ret
    exact ⟨rfl, hc2⟩
  have hn2 : n' ≤ 1048576 := by have := HR2.out; omega
  clear HR HR2
  go_wp2_with fail
  refine (toOpS_any _ _ _ _ 0 w.heap.size _ hn1 hc2.size (H.below hc2 (Nat.le_refl _))).mono ?_
  rintro x w3 ⟨⟨b3, rfl, h3⟩, hb3⟩
  have hc3 : Below w.heap.size w w3 := hc2.trans (hb3.mono hc2.size)
  clear hb3 hc2
  go_wp2_with fail
  refine (toOpS_any _ _ _ _ 0 w.heap.size _ hn2 hc3.size (H'.below hc3 (Nat.le_refl _))).mono ?_
  rintro x w4 ⟨⟨b4, rfl, h4⟩, hb4⟩
  have hc4 : Below w.heap.size w w4 := hc3.trans (hb4.mono hc3.size)
  have h34 := h3.below hb4 (Nat.le_refl _)
  clear hc3
  go_wp2_with fail
  refine (specOpSame _ _ _ _ _ _ _ _ _ _ _ _ _ h34 h4).mono ?_
  rintro x w5 ⟨rfl, hw5⟩
  have hc5 : Below w.heap.size w w5 := by obtain ⟨m, rfl⟩ := hw5; exact hc4.trans ((Below.drewN _ _).mono hc4.size)
  clear hw5 hc4 h34 h3 h4 hb4
  go_wp2_with fail
  refine (toOpS_any _ _ _ _ 0 w.heap.size _ hn1 hc5.size (H.below hc5 (Nat.le_refl _))).mono ?_
  rintro x w6 ⟨⟨b6, rfl, h6⟩, hb6⟩
  have hc6 : Below w.heap.size w w6 := hc5.trans (hb6.mono hc5.size)
  clear hb6 hc5
  go_wp2_with fail
  refine (toOpS_any _ _ _ _ 0 w.heap.size _ hn2 hc6.size (H'.below hc6 (Nat.le_refl _))).mono ?_
  rintro x w7 ⟨⟨b7, rfl, h7⟩, hb7⟩
  have hc7 : Below w.heap.size w w7 := hc6.trans (hb7.mono hc6.size)
  have h67 := h6.below hb7 (Nat.le_refl _)
  clear hc6 h6
  have hz67 := hb7.size
  clear hb7
  go_wp2_with fail
  refine (implOpSame _ _ _ _ _ _ _ _ _ _ _ _ _ h67 h7).mono ?_
  rintro x w8 ⟨rfl, hw8⟩
  have hb8 : Below w7.heap.size w7 w8 := by obtain ⟨m, rfl⟩ := hw8; exact Below.drewN _ _
  have hc8 : Below w.heap.size w w8 := hc7.trans (hb8.mono hc7.size)
  have h68 := h67.below hb8 (by omega)
  have h78 := h7.below hb8 (Nat.le_refl _)
  have hz78 := hb8.size
  clear hw8 hb8 h67 h7 hc7
  go_wp2_with fail
  refine (toOpS_any _ _ _ _ 0 w.heap.size _ hn1 hc8.size (H.below hc8 (Nat.le_refl _))).mono ?_
  rintro x w9 ⟨⟨b9, rfl, h9⟩, hb9⟩
  have hc9 : Below w.heap.size w w9 := hc8.trans (hb9.mono hc8.size)
  have h69 := h68.below hb9 (by omega)
  have h79 := h78.below hb9 (by omega)
  have hz89 := hb9.size
  clear hb9 h68 h78 hc8
  go_wp2_with fail
  refine (eqOpS_same _ _ _ _ _ _ _ _ _ _ _ (by omega) (Nat.le_refl _) h69 h9).mono ?_
  rintro x wa ⟨rfl, hba⟩
  have hca : Below w.heap.size w wa := hc9.trans (hba.mono hc9.size)
  have h7a := h79.below hba (by omega)
  have hz9a := hba.size
  clear hba h69 h79 hc9 h9
  go_wp2_with fail
  refine (toOpS_any _ _ _ _ 0 w.heap.size _ hn2 hca.size (H'.below hca (Nat.le_refl _))).mono ?_
  rintro x wb ⟨⟨bb, rfl, hb⟩, hbb⟩
  have hcb : Below w.heap.size w wb := hca.trans (hbb.mono hca.size)
  have h7b := h7a.below hbb (by omega)
  have hzab := hbb.size
  clear hbb h7a hca
  go_wp2_with fail
  refine (eqOpS_same _ _ _ _ _ _ _ _ _ _ _ (by omega) (Nat.le_refl _) h7b hb).mono ?_
  rintro x wd ⟨rfl, hbd⟩
  have hcd : Below w.heap.size w wd := hcb.trans (hbd.mono hcb.size)
  go_wp2_with fail
  go_ret
  exact ⟨rfl, hcd⟩

namespace fnExactOpSame
open Go.ChangeShapes Go.WideShapes Go.ChangeAt Go.RowKit
open Go.ChangeMaps (open_string shut_string)
set_option linter.unusedVariables false

theorem own : ownKnob Try.prog.godebug = none := by kernel_rfl

set_option maxRecDepth 100000 in
theorem lifted (os : Os) (started : os.Started) (H : Type) (enc : TypeId × Value → H) :
    ReturnsInHanded {} Try.checked os 21 .any (Rows.fnExactOpSameSpec.pre6 enc Try.prog Try.f21 Rows.fnExactOpSameRow.domain false) (Rows.fnExactOpSameSpec.post enc Try.prog Try.f21 false true false false) := by
  refine returnsInHanded_of_change (C := Try.checked) own started (by kernel_rfl) Try.func21
    (ChangeSpec.witness6 (enc := enc) (C := Try.checked) false ⟨#[], #[.slice none 0 0, .slice none 0 0], []⟩ 8 (by kernel_rfl) (by kernel_rfl) (by kernel_rfl) (by kernel_rfl)) ?_
  intro W base args ds gs before hval0 hW hcnd _
  have hval : ∀ (j : Nat) t v, Try.f21.params[j]? = some t → args[j]? = some v → Value.okWide Try.prog W .any base t v := hval0
  have hW' := hW
  obtain ⟨p, q, hA0, hV, rfl, hfz, hnd⟩ := hW
  have hA : DataW.TrodAll enc Try.prog W 0 (fun _ => true) true Try.f21.params.toList args.toList ds p := hA0
  rw [Try.params21] at hA hval
  obtain ⟨v0, vs0, d0, ds0, p0, q0, hargs, rfl, rfl, h0, r0⟩ := trodAll_cons hA
  obtain ⟨v1, vs1, d1, ds1, p1, q1, hargs1, rfl, rfl, h1, r1⟩ := trodAll_cons r0
  obtain ⟨rfl, rfl, rfl⟩ := trodAll_nil r1
  obtain rfl : args = #[v0, v1] := by cases args; simp_all
  obtain ⟨rfl, rfl⟩ := trodVars_none hV
  have k0 := h0
  have lt0 : ∀ x ∈ p0, x.block < W.heap.size := by obtain ⟨m, hm⟩ := k0; exact DataW.trod_lt m _ _ _ hm
  have k1 := h1
  have lt1 : ∀ x ∈ p1, x.block < W.heap.size := by obtain ⟨m, hm⟩ := k1; exact DataW.trod_lt m _ _ _ hm
  obtain ⟨x0, y0, z0, rfl⟩ := okWide_slice Try.underlying72 (hval 0 72 v0 rfl rfl)
  obtain ⟨a0, n0, c0, o0, e0, w0⟩ := open_ops h0 rfl
  cases e0
  obtain ⟨x1, y1, z1, rfl⟩ := okWide_slice Try.underlying72 (hval 1 72 v1 rfl rfl)
  obtain ⟨a1, n1, c1, o1, e1, w1⟩ := open_ops h1 rfl
  cases e1
  clear hA0 hval0
  refine (walkOpSame x0 x1 y0 y1 z0 z1 o0 o1 W w0 w1).mono fun e W' ⟨he, bel⟩ => ?_
  subst he
  exact ⟨_, rfl, _, _, _, [], _, [], hW', trodAll_mk1 (shut_bool Try.underlying4 _), (trodAll_cons_mk (Below.trod fLaid (by kernel_rfl) (of_decide_eq_true (by kernel_rfl)) k0 bel lt0) (trodAll_cons_mk (Below.trod fLaid (by kernel_rfl) (of_decide_eq_true (by kernel_rfl)) k1 bel lt1) trodAll_mk0)), rfl, bel.frame _, fun h => by cases h⟩

set_option maxHeartbeats 4000000 in
theorem closed : joinedFacts Try.prog 21 Try.f21 Rows.fnExactOpSameSpec Rows.fnExactOpSameRow = true := by
  refine closedOf rfl rfl rfl ?_ ?_ ?_ ?_ ?_ ?_ ?_ ?_ ?_ ?_ ?_ ?_ ?_ ?_ ?_ ?_ ?_ ?_ ?_ rfl rfl ?_ ?_ ?_
  all_goals (as_aux_lemma => kernel_rfl)

theorem over : Rows.fnExactOpSameRow.holds Try.pinned (OpenSpec.ofChange Rows.fnExactOpSameSpec) :=
  OpenClaim.holds_of_wide 21 Try.f21 rfl rfl rfl rfl rfl rfl rfl ⟨rfl, rfl, rfl, rfl, rfl⟩ rfl rfl rfl rfl rfl (by kernel_rfl) Try.func21 closed
    (of_decide_eq_true (by kernel_rfl)) (by unfold Func.isWrapper; first | (rw [if_pos (by decide +kernel)]; kernel_rfl) | (rw [if_neg (by decide +kernel)]; exact ⟨rfl, rfl⟩))
    (fun os started H enc _ => lifted os started H enc)
end fnExactOpSame

theorem fnExactOpSame_holds : Rows.FnExactOpSameSaid := fnExactOpSame.over
#print axioms fnExactOpSame_holds
end Go.Proofs.Ytjenldenggaljaa
