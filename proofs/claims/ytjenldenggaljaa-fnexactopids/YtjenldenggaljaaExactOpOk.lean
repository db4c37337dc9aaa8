/-
  At every thing that is done the call of laws.FnExactOpOk returns true: the program's OpOk answers as the specification's; its argument reads behind the call as it did. No condition.
-/
import Derived.Test.YtjenldenggaljaaOpImpl
import Derived.Test.YtjenldenggaljaaClosed
import Derived.ProofKit
import Derived.OpenShut
import Derived.ShutString
import Derived.ChangeOld
namespace Go.Proofs.Ytjenldenggaljaa
open Go.RowKit

/-- An argument of seven cells, in its box. -/
structure OneOp (w wx : World) (o : LOp) : Prop where
  below : Below w.heap.size w wx
  size : w.heap.size < wx.heap.size
  c0 : wx.cell? ⟨w.heap.size, 0, none⟩ = some (.int .i64 o.kind)
  c1 : wx.cell? ⟨w.heap.size, 1, none⟩ = some (.int .i64 o.dir)
  c2 : wx.cell? ⟨w.heap.size, 2, none⟩ = some (.string o.name)
  c3 : wx.cell? ⟨w.heap.size, 3, none⟩ = some (.int .i64 o.dir2)
  c4 : wx.cell? ⟨w.heap.size, 4, none⟩ = some (.string o.name2)
  c5 : wx.cell? ⟨w.heap.size, 5, none⟩ = some (.int .i64 o.id)
  c6 : wx.cell? ⟨w.heap.size, 6, none⟩ = some (.string o.text)
theorem OneOp.next {w wx wy : World} {o : LOp} (h : OneOp w wx o) (k : Below wx.heap.size wx wy) : OneOp w wy o := by
  have hc : ∀ i, wy.cell? ⟨w.heap.size, i, none⟩ = wx.cell? ⟨w.heap.size, i, none⟩ := fun i => k.cell (by have := h.size; simp; omega)
  exact ⟨h.below.trans (k.mono h.below.size), by have := k.size; have := h.size; omega, by rw [hc]; exact h.c0, by rw [hc]; exact h.c1, by rw [hc]; exact h.c2, by rw [hc]; exact h.c3, by rw [hc]; exact h.c4, by rw [hc]; exact h.c5, by rw [hc]; exact h.c6⟩
theorem OneOp.box (w : World) (o : LOp) (t : TypeId) : OneOp w (w.alloc (.cells #[.int .i64 o.kind, .int .i64 o.dir, .string o.name, .int .i64 o.dir2, .string o.name2, .int .i64 o.id, .string o.text] t)) o :=
  ⟨(Below.refl _ _).alloc (Nat.le_refl _) _, by simp, by simp [go_sem], by simp [go_sem], by simp [go_sem], by simp [go_sem], by simp [go_sem], by simp [go_sem], by simp [go_sem]⟩

set_option maxHeartbeats 400000 in
theorem walkOpOk (o : LOp) (hs : OpSz o) (w : World) : Calls Try.prog 19 #[.agg o.val] w fun e w' => e = .returned (.bool true) ∧ Below w.heap.size w w' := by
  have HSZ := fun l w h0 h1 => szOp_any o l w h0 h1 hs
  have HTO := toOp_any o
  have HSP := fun w => opOk_any o w hs.name hs.name2 hs.text
  have HIM := fun w => implOpOk o w hs
  have HB := OneOp.box w o 62
  simp only [LOp.val] at *
  go_enter Try.func19, Try.ntmps19
  go_wp2_with fail
  refine (HSZ _ _ (by omega) (by omega)).mono ?_
  rintro x w1 ⟨⟨r, rfl, _⟩, hb1⟩
  have h1 := HB.next hb1
  clear HB hb1
  by_cases hneg : r < 0
  · go_wp2_with fail
    go_ret
    exact ⟨rfl, h1.below⟩
  obtain ⟨c0, c1, c2, c3, c4, c5, c6⟩ := (⟨h1.c0, h1.c1, h1.c2, h1.c3, h1.c4, h1.c5, h1.c6⟩ : _ ∧ _ ∧ _ ∧ _ ∧ _ ∧ _ ∧ _)
  have hz1 := h1.size
  go_wp2_with fail
  refine (HTO _).mono ?_
  rintro x w2 ⟨rfl, hb2⟩
  have h2 := h1.next hb2
  clear h1 hb2 c0 c1 c2 c3 c4 c5 c6 hz1
  go_wp2_with fail
  refine (HSP _).mono ?_
  rintro x w3 ⟨rfl, rfl⟩
  have h3 := h2.next ((Below.refl _ _).alloc (Nat.le_refl _) (Obj.cells #[.int .i64 o.kind, .int .i64 o.dir, .string o.name, .int .i64 o.dir2, .string o.name2, .int .i64 o.id, .string o.text] 65))
  obtain ⟨c0, c1, c2, c3, c4, c5, c6⟩ := (⟨h2.c0, h2.c1, h2.c2, h2.c3, h2.c4, h2.c5, h2.c6⟩ : _ ∧ _ ∧ _ ∧ _ ∧ _ ∧ _ ∧ _)
  have hz2 := h2.size
  clear h2
  go_wp2_with fail
  refine (HTO _).mono ?_
  rintro x w4 ⟨rfl, hb4⟩
  have h4 := h3.next hb4
  clear h3 hb4 c0 c1 c2 c3 c4 c5 c6 hz2
  go_wp2_with fail
  refine (HIM _).mono ?_
  rintro x w5 ⟨rfl, hb5⟩
  have h5 := (h4.next hb5).below
  clear h4 hb5
  go_wp2_with fail
  go_ret
  exact ⟨rfl, h5⟩

namespace fnExactOpOk
open Go.ChangeShapes Go.WideShapes Go.ChangeAt Go.RowKit
open Go.ChangeMaps (open_string shut_string)
set_option linter.unusedVariables false

theorem own : ownKnob Try.prog.godebug = none := by kernel_rfl

set_option maxRecDepth 100000 in
theorem lifted (os : Os) (started : os.Started) (H : Type) (enc : TypeId × Value → H) :
    ReturnsInHanded {} Try.checked os 19 .any (Rows.fnExactOpOkSpec.pre6 enc Try.prog Try.f19 Rows.fnExactOpOkRow.domain false) (Rows.fnExactOpOkSpec.post enc Try.prog Try.f19 false true false false) := by
  refine returnsInHanded_of_change (C := Try.checked) own started (by kernel_rfl) Try.func19
    (ChangeSpec.witness6 (enc := enc) (C := Try.checked) false ⟨#[], #[.agg #[.int .i64 0, .int .i64 0, .string ByteArray.empty, .int .i64 0, .string ByteArray.empty, .int .i64 0, .string ByteArray.empty]], []⟩ 8 (by kernel_rfl) (by kernel_rfl) (by kernel_rfl) (by kernel_rfl)) ?_
  intro W base args ds gs before hval0 hW hcnd _
  have hval : ∀ (j : Nat) t v, Try.f19.params[j]? = some t → args[j]? = some v → Value.okWide Try.prog W .any base t v := hval0
  have hW' := hW
  obtain ⟨p, q, hA0, hV, rfl, hfz, hnd⟩ := hW
  have hA : DataW.TrodAll enc Try.prog W 0 (fun _ => true) true Try.f19.params.toList args.toList ds p := hA0
  rw [Try.params19] at hA hval
  obtain ⟨v0, vs0, d0, ds0, p0, q0, hargs, rfl, rfl, h0, r0⟩ := trodAll_cons hA
  obtain ⟨rfl, rfl, rfl⟩ := trodAll_nil r0
  obtain rfl : args = #[v0] := by cases args; simp_all
  obtain ⟨rfl, rfl⟩ := trodVars_none hV
  have k0 := h0
  have lt0 : ∀ x ∈ p0, x.block < W.heap.size := by obtain ⟨m, hm⟩ := k0; exact DataW.trod_lt m _ _ _ hm
  obtain ⟨o0, rfl, w0⟩ := open_op (hval 0 62 v0 rfl rfl) h0
  clear hA0 hval0
  refine (walkOpOk o0 w0 W).mono fun e W' ⟨he, bel⟩ => ?_
  subst he
  exact ⟨_, rfl, _, _, _, [], _, [], hW', trodAll_mk1 (shut_bool Try.underlying4 _), (trodAll_cons_mk (Below.trod fLaid (by kernel_rfl) (of_decide_eq_true (by kernel_rfl)) k0 bel lt0) trodAll_mk0), rfl, bel.frame _, fun h => by cases h⟩

set_option maxHeartbeats 4000000 in
theorem closed : joinedFacts Try.prog 19 Try.f19 Rows.fnExactOpOkSpec Rows.fnExactOpOkRow = true := by
  refine closedOf rfl rfl rfl ?_ ?_ ?_ ?_ ?_ ?_ ?_ ?_ ?_ ?_ ?_ ?_ ?_ ?_ ?_ ?_ ?_ ?_ ?_ rfl rfl ?_ ?_ ?_
  all_goals (as_aux_lemma => kernel_rfl)

theorem over : Rows.fnExactOpOkRow.holds Try.pinned (OpenSpec.ofChange Rows.fnExactOpOkSpec) :=
  OpenClaim.holds_of_wide 19 Try.f19 rfl rfl rfl rfl rfl rfl rfl ⟨rfl, rfl, rfl, rfl, rfl⟩ rfl rfl rfl rfl rfl (by kernel_rfl) Try.func19 closed
    (of_decide_eq_true (by kernel_rfl)) (by unfold Func.isWrapper; first | (rw [if_pos (by decide +kernel)]; kernel_rfl) | (rw [if_neg (by decide +kernel)]; exact ⟨rfl, rfl⟩))
    (fun os started H enc _ => lifted os started H enc)
end fnExactOpOk

theorem fnExactOpOk_holds : Rows.FnExactOpOkSaid := fnExactOpOk.over
#print axioms fnExactOpOk_holds
end Go.Proofs.Ytjenldenggaljaa
