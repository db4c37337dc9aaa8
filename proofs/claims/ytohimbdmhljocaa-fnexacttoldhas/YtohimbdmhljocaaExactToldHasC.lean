/-
  At every list of logs and every two numbers the call of laws.FnExactToldHas returns true: the program answers as the specification and writes into no argument; all read behind the call as they did. No condition.
-/
import Derived.Test.YtohimbdmhljocaaV04
import Derived.Deep.DeepCutAuto
import Derived.ProofKit
import Derived.OpenShut
import Derived.ShutString
import Derived.ChangeOld
namespace Go.Proofs.Ytohimbdmhljocaa
open Go.RowKit Go.ChangeShapes Go.WideShapes

section
variable {H : Type} {enc : TypeId × Value → H} {w : World} {spare : Nat → Bool} {held : Bool}
/-- A log whose numbers are such as an int can be. -/
def LogF (w : World) (L U : Nat) (vs : List Value) (l : LLog) : Prop := LogE w L U vs l ∧ Fits l.who ∧ Fits l.seq
theorem open_logs_fit {fuel : Nat} {v : Value} {x : DataW H × List MemPlace} (h : DataW.trod enc Try.prog w 0 spare held fuel 22 [v] = some x) : ∃ a n k es, v = .slice a n k ∧ RowsAt 4 LogE w 0 w.heap.size a n es ∧ ∀ l ∈ es, Fits l.who ∧ Fits l.seq := by
  obtain ⟨a, n, k, es, e, H⟩ := open_rows (E := LogF) Try.underlying22 (c := 4) (by kernel_rfl) (by omega) (fun fuel cs x hl h => by
    obtain ⟨v0, v1, v2, v3, rfl⟩ := list4w hl
    obtain ⟨q, s, a, n, c, a', n', c', l, rfl, rfl, rfl, rfl, hL⟩ := open_log_cells h
    have c3 : Try.prog.cellsOf 3 = 1 := by kernel_rfl
    obtain ⟨y0, y1, y2, y3, n2, _, _, t0, t1, _, _⟩ := Go.Joins.trod_struct4 Try.underlying62 h
    simp [c3] at t0 t1
    obtain ⟨k0, e0, _, w0⟩ := DataW.trod_int Try.underlying3 t0
    obtain ⟨k1, e1, _, w1⟩ := DataW.trod_int Try.underlying3 t1
    simp at e0 e1
    subst e0 e1
    exact ⟨l, ⟨_, _, a, n, c, a', n', c', rfl, hL⟩, by rw [← hL.q]; exact w0, by rw [← hL.s]; exact w1⟩) h
  refine ⟨a, n, k, es, e, ⟨H.len, H.bd, fun hn => ?_⟩, fun l hl => ?_⟩
  · obtain ⟨b, off, h1, h2, h3, h4⟩ := H.at_ hn
    exact ⟨b, off, h1, h2, h3, fun i hi => by obtain ⟨x, vs, p1, p2, p3⟩ := h4 i hi; exact ⟨x, vs, p1, p2, p3.1⟩⟩
  · obtain ⟨i, hi⟩ := List.getElem?_of_mem hl
    have hin : i < n := by rw [H.len]; exact (List.getElem?_eq_some_iff.1 hi).1
    obtain ⟨b, off, h1, h2, h3, h4⟩ := H.at_ (by omega)
    obtain ⟨x, vs, p1, p2, p3⟩ := h4 i hin
    rw [hi] at p1
    cases p1
    exact p3.2
end
set_option maxHeartbeats 4000000 in
theorem walkToldHas (a : Option Addr) (n c : Nat) (q s : Int) (xs : List LLog) (w : World) (H : RowsAt 4 LogE w 0 w.heap.size a n xs) (hf : ∀ l ∈ xs, Fits l.who ∧ Fits l.seq) (hq : Fits q) (hs : Fits s) :
    Calls Try.prog 3 #[.slice a n c, .int .i64 q, .int .i64 s] w fun e w' => e = .returned (.bool true) ∧ Below w.heap.size w w' := by
  have HH := hidMk H
  clear H
  go_enter Try.func3, Try.ntmps3
  go_wp2_with fail
  refine (szLogS_any _ _ _ xs 0 w.heap.size _ _ (by omega) (by omega) (Nat.le_refl _) HH.out).mono ?_
  rintro e w1 ⟨⟨r1, rfl, hr⟩, hb1⟩
  have HR : Hid (r1 = -1 ∨ 0 ≤ r1 ∧ r1 ≤ 1048576 ∧ n ≤ 1048576 ∧ ∀ x ∈ xs, LogSm x) := hr
  clear hr
  by_cases hneg : r1 < 0
  · go_wp2_with fail
    go_ret
    exact ⟨rfl, hb1⟩
  have S1 := HR.out.resolve_left (by omega)
  have HS := hidMk S1.2.2.2
  have hn := S1.2.2.1
  clear HR S1
  have z1 := hb1.size
  go_wp2_with fail
  refine (toLogS_any _ _ _ xs 0 w.heap.size _ hn HS.out z1 (HH.out.below eltLog hb1 (Nat.le_refl _))).mono ?_
  rintro e w2 ⟨⟨b2, rfl, h2⟩, hb2⟩
  have hB2 := hb1.trans (hb2.mono z1)
  have H2 := hidMk h2
  clear h2 hb2 hb1
  have z2 := hB2.size
  go_wp2_with fail
  refine (specToldHas _ _ _ xs q s _ _ _ (Nat.le_refl _) H2.out).mono ?_
  rintro e w3 ⟨rfl, hb3⟩
  have hB3 := hB2.trans (hb3.mono z2)
  clear hb3 H2 hB2
  have z3 := hB3.size
  go_wp2_with fail
  refine (toLogS_any _ _ _ xs 0 w.heap.size _ hn HS.out z3 (HH.out.below eltLog hB3 (Nat.le_refl _))).mono ?_
  rintro e w4 ⟨⟨b4, rfl, h4⟩, hb4⟩
  have hB4 := hB3.trans (hb4.mono z3)
  have H4 := hidMk h4
  clear h4 hb4 hB3
  have z4 := hB4.size
  go_wp2_with fail
  refine (implToldHas _ _ _ xs q s _ _ _ (Nat.le_refl _) H4.out hf hq hs).mono ?_
  rintro e w5 ⟨rfl, hb5⟩
  have hB5 := hB4.trans (hb5.mono z4)
  have H5 := hidMk (H4.out.below eltLog hb5 (Nat.le_refl _))
  have z45 := hb5.size
  clear hb5 H4 hB4
  have z5 := hB5.size
  go_wp2_with fail
  refine (toLogS_any _ _ _ xs 0 w.heap.size _ hn HS.out z5 (HH.out.below eltLog hB5 (Nat.le_refl _))).mono ?_
  rintro e w6 ⟨⟨b6, rfl, h6⟩, hb6⟩
  have hB6 := hB5.trans (hb6.mono z5)
  have H6 := hidMk h6
  have H5b := hidMk (H5.out.below eltLog hb6 z45)
  have z56 := hb6.size
  clear h6 hb6 hB5 H5
  go_wp2_with fail
  refine (eqLogS_same _ _ _ _ _ xs _ _ _ _ _ (by omega) (Nat.le_refl _) H5b.out H6.out).mono ?_
  rintro e w7 ⟨rfl, hb7⟩
  go_wp2_with fail
  go_ret
  exact ⟨rfl, hB6.trans (hb7.mono hB6.size)⟩

namespace fnExactToldHas
open Go.ChangeShapes Go.WideShapes Go.ChangeAt Go.RowKit
open Go.ChangeMaps (open_string shut_string)
set_option linter.unusedVariables false

theorem own : ownKnob Try.prog.godebug = none := by kernel_rfl

set_option maxRecDepth 100000 in
theorem lifted (os : Os) (started : os.Started) (H : Type) (enc : TypeId × Value → H) :
    ReturnsInHanded {} Try.checked os 3 .any (Rows.fnExactToldHasSpec.pre6 enc Try.prog Try.f3 Rows.fnExactToldHasRow.domain false) (Rows.fnExactToldHasSpec.post enc Try.prog Try.f3 false true false false) := by
  refine returnsInHanded_of_change (C := Try.checked) own started (by kernel_rfl) Try.func3
    (ChangeSpec.witness6 (enc := enc) (C := Try.checked) false ⟨#[], #[.slice none 0 0, .int .i64 0, .int .i64 0], []⟩ 8 (by kernel_rfl) (by kernel_rfl) (by kernel_rfl) (by kernel_rfl)) ?_
  intro W base args ds gs before hval0 hW hcnd _
  have hval : ∀ (j : Nat) t v, Try.f3.params[j]? = some t → args[j]? = some v → Value.okWide Try.prog W .any base t v := hval0
  have hW' := hW
  obtain ⟨p, q, hA0, hV, rfl, hfz, hnd⟩ := hW
  have hA : DataW.TrodAll enc Try.prog W 0 (fun _ => true) true Try.f3.params.toList args.toList ds p := hA0
  rw [Try.params3] at hA hval
  obtain ⟨v0, vs0, d0, ds0, p0, q0, hargs, rfl, rfl, h0, r0⟩ := trodAll_cons hA
  obtain ⟨v1, vs1, d1, ds1, p1, q1, hargs1, rfl, rfl, h1, r1⟩ := trodAll_cons r0
  obtain ⟨v2, vs2, d2, ds2, p2, q2, hargs2, rfl, rfl, h2, r2⟩ := trodAll_cons r1
  obtain ⟨rfl, rfl, rfl⟩ := trodAll_nil r2
  obtain rfl : args = #[v0, v1, v2] := by cases args; simp_all
  obtain ⟨rfl, rfl⟩ := trodVars_none hV
  have k0 := h0
  have lt0 : ∀ x ∈ p0, x.block < W.heap.size := by obtain ⟨m, hm⟩ := k0; exact DataW.trod_lt m _ _ _ hm
  have k1 := h1
  have lt1 : ∀ x ∈ p1, x.block < W.heap.size := by obtain ⟨m, hm⟩ := k1; exact DataW.trod_lt m _ _ _ hm
  have k2 := h2
  have lt2 : ∀ x ∈ p2, x.block < W.heap.size := by obtain ⟨m, hm⟩ := k2; exact DataW.trod_lt m _ _ _ hm
  obtain ⟨x0, y0, z0, rfl⟩ := okWide_slice Try.underlying22 (hval 0 22 v0 rfl rfl)
  obtain ⟨fu0, hfu0⟩ := h0
  obtain ⟨a0, n0, c0, o0, e0, w0, wf0⟩ := open_logs_fit (by simpa [Value.cells] using hfu0)
  cases e0
  obtain ⟨a1, rfl, rfl, rfl, w1⟩ := open_int Try.underlying3 (hval 1 3 v1 rfl rfl) h1
  obtain ⟨a2, rfl, rfl, rfl, w2⟩ := open_int Try.underlying3 (hval 2 3 v2 rfl rfl) h2
  clear hA0 hval0
  refine (walkToldHas x0 y0 z0 a1 a2 o0 W w0 wf0 w1 w2).mono fun e W' ⟨he, bel⟩ => ?_
  subst he
  exact ⟨_, rfl, _, _, _, [], _, [], hW', trodAll_mk1 (shut_bool Try.underlying4 _), (trodAll_cons_mk (Below.trod fLaid (by kernel_rfl) (of_decide_eq_true (by kernel_rfl)) k0 bel lt0) (trodAll_cons_mk (Below.trod fLaid (by kernel_rfl) (of_decide_eq_true (by kernel_rfl)) k1 bel lt1) (trodAll_cons_mk (Below.trod fLaid (by kernel_rfl) (of_decide_eq_true (by kernel_rfl)) k2 bel lt2) trodAll_mk0))), rfl, bel.frame _, fun h => by cases h⟩

set_option maxHeartbeats 4000000 in
theorem closed : joinedFacts Try.prog 3 Try.f3 Rows.fnExactToldHasSpec Rows.fnExactToldHasRow = true := by
  refine closedOf rfl rfl rfl ?_ ?_ ?_ ?_ ?_ ?_ ?_ ?_ ?_ ?_ ?_ ?_ ?_ ?_ ?_ ?_ ?_ ?_ ?_ rfl rfl ?_ ?_ ?_
  all_goals (as_aux_lemma => kernel_rfl)

theorem over : Rows.fnExactToldHasRow.holds Try.pinned (OpenSpec.ofChange Rows.fnExactToldHasSpec) :=
  OpenClaim.holds_of_wide 3 Try.f3 rfl rfl rfl rfl rfl rfl rfl ⟨rfl, rfl, rfl, rfl, rfl⟩ rfl rfl rfl rfl rfl (by kernel_rfl) Try.func3 closed
    (of_decide_eq_true (by kernel_rfl)) (by unfold Func.isWrapper; first | (rw [if_pos (by decide +kernel)]; kernel_rfl) | (rw [if_neg (by decide +kernel)]; exact ⟨rfl, rfl⟩))
    (fun os started H enc _ => lifted os started H enc)
end fnExactToldHas

theorem fnExactToldHas_holds : Rows.FnExactToldHasSaid := fnExactToldHas.over
#print axioms fnExactToldHas_holds
end Go.Proofs.Ytohimbdmhljocaa
