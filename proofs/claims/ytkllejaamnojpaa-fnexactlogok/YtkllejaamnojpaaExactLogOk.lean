/-
  At every log the call of laws.FnExactLogOk returns true: the program's LogOk answers as the specification's, and writes into no argument; its argument reads behind the call as it did. No condition.
-/
import Derived.Test.YtkllejaamnojpaaLogE
import Derived.Test.YtkllejaamnojpaaLogX
import Derived.Test.YtkllejaamnojpaaClosed
import Derived.Deep.DeepCutAuto
import Derived.ProofKit
import Derived.OpenShut
import Derived.ShutString
import Derived.ChangeOld
namespace Go.Proofs.Ytkllejaamnojpaa
open Go.RowKit

set_option maxHeartbeats 2000000 in
theorem walkLogOk (q s : Int) (a : Option Addr) (n c : Nat) (a' : Option Addr) (n' c' : Nat) (l : LLog) (w : World) (H : LogAt w 0 w.heap.size q s a n a' n' l) :
    Calls Try.prog 11 #[.agg #[.int .i64 q, .int .i64 s, .slice a n c, .slice a' n' c']] w fun e w' => e = .returned (.bool true) ∧ Below w.heap.size w w' := by
  have hA := Held1.new w q s a n c a' n' c' 72
  go_enter Try.func11, Try.ntmps11
  go_wp2_with fail
  refine (szLog_any _ _ _ _ _ _ _ _ l 0 w.heap.size _ _ (by omega) (by omega) (by simp) (H.below hA.below (Nat.le_refl _))).mono ?_
  rintro x w1 ⟨⟨r, rfl, hr⟩, hb1⟩
  have HR : Hid (r = -1 ∨ 0 ≤ r ∧ r = 1048576 - n - n' - totOps l.list) := hr
  have h1 := hA.next hb1
  clear hr hb1 hA
  by_cases hneg : r < 0
  · go_wp2_with fail
    go_ret
    exact ⟨rfl, h1.below⟩
  have hn1 : n ≤ 1048576 := by have := HR.out; omega
  have hn2 : n' ≤ 1048576 := by have := HR.out; omega
  clear HR
  obtain ⟨c0, c1, c2, c3⟩ := h1.box
  go_wp2_with fail
  refine (toLog_any _ _ _ _ _ _ _ _ l 0 w.heap.size _ hn1 hn2 h1.below.size (H.below h1.below (Nat.le_refl _))).mono ?_
  rintro x w2 ⟨⟨b2, b2', rfl, h2l⟩, hb2⟩
  have h2 := h1.next hb2
  clear hb2 h1 c0 c1 c2 c3
  go_wp2_with fail
  refine (specLogOk _ _ _ _ _ _ _ _ l _ _ _ (Nat.le_refl _) h2l).mono ?_
  rintro x w3 ⟨rfl, hb3⟩
  have h3 := h2.next hb3
  clear hb3 h2 h2l
  obtain ⟨c0, c1, c2, c3⟩ := h3.box
  go_wp2_with fail
  refine (toLog_any _ _ _ _ _ _ _ _ l 0 w.heap.size _ hn1 hn2 h3.below.size (H.below h3.below (Nat.le_refl _))).mono ?_
  rintro x w4 ⟨⟨b4, b4', rfl, h4l⟩, hb4⟩
  have h4 := h3.next hb4
  clear hb4 h3 c0 c1 c2 c3
  have hA4 := Held1.new w4 q s (some ⟨b4, 0, none⟩) n n (some ⟨b4', 0, none⟩) n' n' 37
  have h5 := h4.next hA4.below
  have h5l := h4l.below hA4.below (Nat.le_refl _)
  go_wp2_with fail
  refine (implLogOk _ _ _ _ _ _ _ _ l _ _ _ hA4.below.size (Nat.le_refl _) (by unfold maxLen; omega) h5l).mono ?_
  rintro x w6 ⟨rfl, hb6⟩
  have h6 := h5.next hb6
  have hA6 := hA4.next hb6
  have h6l := h5l.below hb6 hA4.below.size
  clear hb6 h5 h5l hA4 h4 h4l
  have hne : ((logOk l) != (logOk l)) = false := by simp
  go_upto_region 10 with fail
  go_cut [26] (fun x wx => x = .bool false ∧ Below w.heap.size w wx)
  case first =>
    obtain ⟨c0, c1, c2, c3⟩ := h6.box
    obtain ⟨d0, d1, d2, d3⟩ := hA6.box
    have hz6 := h6.size
    have hzA := hA6.size
    have h7 := h6.next (Below.refl _ _).drew
    have hA7 := hA6.next (Below.refl _ _).drew
    have h7l := h6l.drew
    go_region_with (first
      | (go_at_call 57; go_must (refine (toLog_any _ _ _ _ _ _ _ _ l 0 w.heap.size _ hn1 hn2 h7.below.size (H.below h7.below (Nat.le_refl _))).mono ?_; rintro x w8 ⟨⟨b8, b8', rfl, h8l⟩, hb8⟩; have h8 := h7.next hb8; have hA8 := hA7.next hb8; have g8 := h7l.below hb8 hA6.below.size; obtain ⟨d0, d1, d2, d3⟩ := hA8.box; have hzA8 := hA8.size))
      | (go_at_call 49; go_must (refine (eqLog_same _ _ _ _ _ _ _ _ _ _ _ _ l _ _ _ _ _ (by have := hA8.below.size; omega) (Nat.le_refl _) g8 h8l).mono ?_; rintro x w9 ⟨rfl, hb9⟩)))
    all_goals
      go_wp2_with fail
      go_meet
      exact ⟨rfl, (h8.next hb9).below⟩
  obtain ⟨rfl, hB⟩ := hcut
  go_wp2_with fail
  go_ret
  exact ⟨rfl, hB⟩

namespace fnExactLogOk
open Go.ChangeShapes Go.WideShapes Go.ChangeAt Go.RowKit
open Go.ChangeMaps (open_string shut_string)
set_option linter.unusedVariables false

theorem own : ownKnob Try.prog.godebug = none := by kernel_rfl

set_option maxRecDepth 100000 in
theorem lifted (os : Os) (started : os.Started) (H : Type) (enc : TypeId × Value → H) :
    ReturnsInHanded {} Try.checked os 11 .any (Rows.fnExactLogOkSpec.pre6 enc Try.prog Try.f11 Rows.fnExactLogOkRow.domain false) (Rows.fnExactLogOkSpec.post enc Try.prog Try.f11 false true false false) := by
  refine returnsInHanded_of_change (C := Try.checked) own started (by kernel_rfl) Try.func11
    (ChangeSpec.witness6 (enc := enc) (C := Try.checked) false ⟨#[], #[.agg #[.int .i64 0, .int .i64 0, .slice none 0 0, .slice none 0 0]], []⟩ 8 (by kernel_rfl) (by kernel_rfl) (by kernel_rfl) (by kernel_rfl)) ?_
  intro W base args ds gs before hval0 hW hcnd _
  have hval : ∀ (j : Nat) t v, Try.f11.params[j]? = some t → args[j]? = some v → Value.okWide Try.prog W .any base t v := hval0
  have hW' := hW
  obtain ⟨p, q, hA0, hV, rfl, hfz, hnd⟩ := hW
  have hA : DataW.TrodAll enc Try.prog W 0 (fun _ => true) true Try.f11.params.toList args.toList ds p := hA0
  rw [Try.params11] at hA hval
  obtain ⟨v0, vs0, d0, ds0, p0, q0, hargs, rfl, rfl, h0, r0⟩ := trodAll_cons hA
  obtain ⟨rfl, rfl, rfl⟩ := trodAll_nil r0
  obtain rfl : args = #[v0] := by cases args; simp_all
  obtain ⟨rfl, rfl⟩ := trodVars_none hV
  have k0 := h0
  have lt0 : ∀ x ∈ p0, x.block < W.heap.size := by obtain ⟨m, hm⟩ := k0; exact DataW.trod_lt m _ _ _ hm
  obtain ⟨q0, s0, a0, n0, c0, a0', n0', c0', o0, rfl, w0⟩ := open_log (hval 0 72 v0 rfl rfl) h0
  clear hA0 hval0
  refine (walkLogOk q0 s0 a0 n0 c0 a0' n0' c0' o0 W w0).mono fun e W' ⟨he, bel⟩ => ?_
  subst he
  exact ⟨_, rfl, _, _, _, [], _, [], hW', trodAll_mk1 (shut_bool Try.underlying4 _), (trodAll_cons_mk (Below.trod fLaid (by kernel_rfl) (of_decide_eq_true (by kernel_rfl)) k0 bel lt0) trodAll_mk0), rfl, bel.frame _, fun h => by cases h⟩

set_option maxHeartbeats 4000000 in
theorem closed : joinedFacts Try.prog 11 Try.f11 Rows.fnExactLogOkSpec Rows.fnExactLogOkRow = true := by
  refine closedOf rfl rfl rfl ?_ ?_ ?_ ?_ ?_ ?_ ?_ ?_ ?_ ?_ ?_ ?_ ?_ ?_ ?_ ?_ ?_ ?_ ?_ rfl rfl ?_ ?_ ?_
  all_goals (as_aux_lemma => kernel_rfl)

theorem over : Rows.fnExactLogOkRow.holds Try.pinned (OpenSpec.ofChange Rows.fnExactLogOkSpec) :=
  OpenClaim.holds_of_wide 11 Try.f11 rfl rfl rfl rfl rfl rfl rfl ⟨rfl, rfl, rfl, rfl, rfl⟩ rfl rfl rfl rfl rfl (by kernel_rfl) Try.func11 closed
    (of_decide_eq_true (by kernel_rfl)) (by unfold Func.isWrapper; first | (rw [if_pos (by decide +kernel)]; kernel_rfl) | (rw [if_neg (by decide +kernel)]; exact ⟨rfl, rfl⟩))
    (fun os started H enc _ => lifted os started H enc)
end fnExactLogOk

theorem fnExactLogOk_holds : Rows.FnExactLogOkSaid := fnExactLogOk.over
#print axioms fnExactLogOk_holds
end Go.Proofs.Ytkllejaamnojpaa
