/-
  At every list of what is done the call of laws.FnExactSlim returns true: the program answers as the specification, writes into no argument, and its answer owns its memory, behind another call too; its argument reads behind the call as it did. No condition.
-/
import Derived.Test.YtmmgomgpnkahjaaSlimI14
import Derived.Test.YtmmgomgpnkahjaaSlimX
import Derived.Test.YtmmgomgpnkahjaaClosed
import Derived.ProofKit
import Derived.OpenShut
import Derived.ShutString
import Derived.ChangeOld
namespace Go.Proofs.Ytmmgomgpnkahjaa
open Go.RowKit

set_option maxHeartbeats 2000000 in
theorem walkSlim (a : Option Addr) (n c : Nat) (ops : List LOp) (w : World) (H : OpsAt w 0 w.heap.size a n ops) :
    Calls Try.prog 10 #[.slice a n c] w fun e w' => e = .returned (.bool true) ∧ Below w.heap.size w w' := by
  have HZ : Hid (∀ o ∈ ifOk slimL ops, OpSz o) := ifOk_sz (slimL_all sz_keeps ⟨H.sz, Nat.le_refl _⟩)
  have HL6 : (ifOk slimL ops).length ≤ 60 := ifOk_len (slimL_all sz_keeps (P := OpSz) ⟨H.sz, Nat.le_refl _⟩).2
  go_enter Try.func10, Try.ntmps10
  go_wp2_with fail
  refine (szOpS_any _ _ _ _ 0 w.heap.size _ _ (by omega) (by omega) (Nat.le_refl _) H).mono ?_
  rintro x w1 ⟨⟨r, rfl, hr⟩, hb1⟩
  have HR : Hid (r = -1 ∨ 0 ≤ r ∧ r = 1048576 - n - totOps ops) := hr
  clear hr
  by_cases hneg : r < 0
  · go_wp2_with fail
    go_ret
    exact ⟨rfl, hb1⟩
  have hn1 : n ≤ 1048576 := by have := HR.out; omega
  clear HR
  go_wp2_with fail
  refine (toOpS_any _ _ _ _ 0 w.heap.size _ hn1 hb1.size (H.below hb1 (Nat.le_refl _))).mono ?_
  rintro x w2 ⟨⟨b2, rfl, h2⟩, hb2⟩
  have hc2 : Below w.heap.size w w2 := hb1.trans (hb2.mono hb1.size)
  clear hb2 hb1
  go_wp2_with fail
  refine (specSlim _ _ _ ops _ _ _ (Nat.le_refl _) h2).mono ?_
  rintro x w3 ⟨⟨v3, rfl, ho3⟩, hb3⟩
  have hc3 : Below w.heap.size w w3 := hc2.trans (hb3.mono hc2.size)
  obtain ⟨a3, c3, rfl, hA3⟩ := ho3.at_ HZ.out
  have hz23 := hb3.size
  clear hb3 h2 ho3
  go_wp2_with fail
  refine (toOpS_row _ _ _ _ 0 w.heap.size _ hn1 hc3.size (H.below hc3 (Nat.le_refl _))).mono ?_
  rintro x w4 ⟨⟨b4, f4, rfl, hlo4, hhi4, hrow4, hcel4, h4⟩, hb4⟩
  have hc4 : Below w.heap.size w w4 := hc3.trans (hb4.mono hc3.size)
  have hA4 := hA3.below hb4 (Nat.le_refl _)
  have hz34 := hb4.size
  have HROW4 : Hid (w4.rowIs b4 30 (n * 7) f4 ∧ ∀ i, i < n → OpCell f4 i) := ⟨hrow4, hcel4⟩
  clear hb4 hA3 hrow4 hcel4
  go_wp2_with fail
  refine (implSlim _ _ _ ops _ _ _ (Nat.le_refl _) (Nat.le_refl _) h4).mono ?_
  rintro x w5 ⟨⟨v5, rfl, ho5⟩, hb5⟩
  have hc5 : Below w.heap.size w w5 := hc4.trans (hb5.mono hc4.size)
  have hA5 := hA4.below hb5 (by omega)
  have h45 := h4.below hb5 (Nat.le_refl _)
  have HROW5 : Hid (w5.rowIs b4 30 (n * 7) f4 ∧ ∀ i, i < n → OpCell f4 i) := ⟨HROW4.out.1.of_block (hb5.block b4 hhi4), HROW4.out.2⟩
  have HO5 : Hid (OwnOps w5 w4.heap.size v5 (ifOk slimL ops)) := ho5
  obtain ⟨a5, c5, rfl, hG5⟩ := ho5.at_ HZ.out
  have hz45 := hb5.size
  clear hb5 hA4 h4 HROW4 ho5
  go_wp2_with fail
  refine (eqOpS_same _ _ _ _ _ _ _ _ _ _ _ (Nat.le_refl _) (by omega) hG5 hA5).mono ?_
  rintro x w6 ⟨rfl, hb6⟩
  have hc6 : Below w.heap.size w w6 := hc5.trans (hb6.mono hc5.size)
  have hA6 := hA5.below hb6 (by omega)
  have h46 := h45.below hb6 (by omega)
  have hG6 := hG5.below hb6 (Nat.le_refl _)
  have HROW6 : Hid (w6.rowIs b4 30 (n * 7) f4 ∧ ∀ i, i < n → OpCell f4 i) := ⟨HROW5.out.1.of_block (hb6.block b4 (by omega)), HROW5.out.2⟩
  have HO6 : Hid (OwnOps w6 w4.heap.size _ (ifOk slimL ops)) := HO5.out.next hb6
  have hz56 := hb6.size
  clear hb6 hA5 h45 hG5 HROW5 HO5
  go_wp2_with fail
  refine (toOpS_any _ _ _ _ 0 w.heap.size _ hn1 hc6.size (H.below hc6 (Nat.le_refl _))).mono ?_
  rintro x w7 ⟨⟨b7, rfl, h7⟩, hb7⟩
  have hc7 : Below w.heap.size w w7 := hc6.trans (hb7.mono hc6.size)
  have hA7 := hA6.below hb7 (by omega)
  have h47 := h46.below hb7 (by omega)
  have hG7 := hG6.below hb7 (by omega)
  have HROW7 : Hid (w7.rowIs b4 30 (n * 7) f4 ∧ ∀ i, i < n → OpCell f4 i) := ⟨HROW6.out.1.of_block (hb7.block b4 (by omega)), HROW6.out.2⟩
  have HO7 : Hid (OwnOps w7 w4.heap.size _ (ifOk slimL ops)) := HO6.out.next hb7
  have hz67 := hb7.size
  clear hb7 hA6 h46 hG6 HROW6 HO6
  go_wp2_with fail
  refine (eqOpS_same _ _ _ _ _ _ _ _ _ _ _ (by omega) (Nat.le_refl _) h47 h7).mono ?_
  rintro x w8 ⟨rfl, hb8⟩
  have hc8 : Below w.heap.size w w8 := hc7.trans (hb8.mono hc7.size)
  have hA8 := hA7.below hb8 (by omega)
  have hG8 := hG7.below hb8 (by omega)
  have HROW8 : Hid (w8.rowIs b4 30 (n * 7) f4 ∧ ∀ i, i < n → OpCell f4 i) := ⟨HROW7.out.1.of_block (hb8.block b4 (by omega)), HROW7.out.2⟩
  have HO8 : Hid (OwnOps w8 w4.heap.size _ (ifOk slimL ops)) := HO7.out.next hb8
  have hz78 := hb8.size
  clear hb8 hA7 h47 h7 hG7 HROW7 HO7
  go_wp2_with fail
  refine (markOpS_any _ n n b4 n 0 f4 _ hn1 (fun _ => ⟨rfl, Nat.zero_le _, Nat.le_refl _, HROW8.out.1⟩) HROW8.out.2).mono ?_
  rintro x w9 ⟨rfl, _, hb9⟩
  have hc9 : Below w.heap.size w w9 := But.under hc8 hb9 (by have := hc3.size; omega)
  have hA9 := hA8.but hb9 (by omega) (.inr (by omega))
  have hG9 := hG8.but hb9 (by omega) (.inl (by omega))
  have HO9 : Hid (OwnOps w9 w4.heap.size _ (ifOk slimL ops)) := HO8.out.but hb9 hhi4
  have hz89 := hb9.below.size
  have hk9 : ¬ ((7 * n + 1 : Nat) : Int) < 0 := by omega
  clear hb9 hA8 hG8 HROW8 HO8 hc8
  go_wp2_with fail
  refine (eqOpS_same _ _ _ _ _ _ _ _ _ _ _ (by omega) (by omega) hG9 hA9).mono ?_
  rintro x w10 ⟨rfl, hb10⟩
  have hc10 : Below w.heap.size w w10 := hc9.trans (hb10.mono hc9.size)
  have hA10 := hA9.below hb10 (by omega)
  have HO10 : Hid (OwnOps w10 w4.heap.size _ (ifOk slimL ops)) := HO9.out.next hb10
  have hz910 := hb10.size
  clear hb10 hA9 hG9 HO9 hc9
  obtain ⟨ga, gc, g, cap, f10, hgv, hgB, hgr, hgc⟩ := HO10.out.row
  simp only [Value.slice.injEq] at hgv
  obtain ⟨rfl, _, rfl⟩ := hgv
  go_wp2_with fail
  refine (markOpS_any _ _ _ g cap w4.heap.size f10 _ (by omega) hgr hgc).mono ?_
  rintro x w11 ⟨rfl, ⟨f11, HM11⟩, hb11⟩
  have hc11 : Below w.heap.size w w11 := But.under hc10 hb11 (by have := hc4.size; omega)
  have hA11 := hA10.but hb11 (by omega) (.inr (by omega))
  have hz1011 := hb11.below.size
  clear hb11 hA10 hgr hgc HO10 hc10
  go_wp2_with fail
  refine (heldOpS_any _ _ _ g cap w4.heap.size f11 _ (by omega) HM11.out.1 HM11.out.2).mono ?_
  rintro x w12 ⟨rfl, hb12⟩
  have hc12 : Below w.heap.size w w12 := hc11.trans (hb12.mono hc11.size)
  have hA12 := hA11.below hb12 (by omega)
  have HR12 : Hid (OpRow w12 w4.heap.size _ _ g cap f11) := HM11.out.1.next hb12
  have hz1112 := hb12.size
  have hk12 : ¬ ((7 * (ifOk slimL ops).length + 1 : Nat) : Int) < 0 := by omega
  have hm12 : (((7 * (ifOk slimL ops).length + 1 : Nat) : Int) != ((7 * (ifOk slimL ops).length + 1 : Nat) : Int)) = false := by simp
  clear hb12 hA11 hc11
  go_wp2_with fail
  refine (toOpS_any _ _ _ _ 0 w.heap.size _ hn1 hc12.size (H.below hc12 (Nat.le_refl _))).mono ?_
  rintro x w13 ⟨⟨b13, rfl, h13⟩, hb13⟩
  have hc13 : Below w.heap.size w w13 := hc12.trans (hb13.mono hc12.size)
  have hA13 := hA12.below hb13 (by omega)
  have HR13 : Hid (OpRow w13 w4.heap.size _ _ g cap f11) := HR12.out.next hb13
  have hz1213 := hb13.size
  clear hb13 hA12 hc12 HR12
  go_wp2_with fail
  refine (implSlim _ _ _ ops _ _ _ (Nat.le_refl _) (Nat.le_refl _) h13).mono ?_
  rintro x w14 ⟨⟨v14, rfl, ho14⟩, hb14⟩
  have hc14 : Below w.heap.size w w14 := hc13.trans (hb14.mono hc13.size)
  have hA14 := hA13.below hb14 (by omega)
  have HR14 : Hid (OpRow w14 w4.heap.size _ _ g cap f11) := HR13.out.next hb14
  obtain ⟨a14, c14, rfl, hG14⟩ := ho14.at_ HZ.out
  have hz1314 := hb14.size
  clear hb14 hA13 hc13 HR13 ho14 h13
  go_wp2_with fail
  refine (eqOpS_same _ _ _ _ _ _ _ _ _ _ _ (Nat.le_refl _) (by omega) hG14 hA14).mono ?_
  rintro x w15 ⟨rfl, hb15⟩
  have hc15 : Below w.heap.size w w15 := hc14.trans (hb15.mono hc14.size)
  have HR15 : Hid (OpRow w15 w4.heap.size _ _ g cap f11) := HR14.out.next hb15
  clear hb15 hc14 hA14 hG14 HR14
  go_wp2_with fail
  refine (heldOpS_any _ _ _ g cap w4.heap.size f11 _ (by omega) HR15.out HM11.out.2).mono ?_
  rintro x w16 ⟨rfl, hb16⟩
  have hc16 : Below w.heap.size w w16 := hc15.trans (hb16.mono hc15.size)
  clear hb16 hc15
  go_wp2_with fail
  go_ret
  exact ⟨rfl, hc16⟩

namespace fnExactSlim
open Go.ChangeShapes Go.WideShapes Go.ChangeAt Go.RowKit
open Go.ChangeMaps (open_string shut_string)
set_option linter.unusedVariables false

theorem own : ownKnob Try.prog.godebug = none := by kernel_rfl

set_option maxRecDepth 100000 in
theorem lifted (os : Os) (started : os.Started) (H : Type) (enc : TypeId × Value → H) :
    ReturnsInHanded {} Try.checked os 10 .any (Rows.fnExactSlimSpec.pre6 enc Try.prog Try.f10 Rows.fnExactSlimRow.domain false) (Rows.fnExactSlimSpec.post enc Try.prog Try.f10 false true false false) := by
  refine returnsInHanded_of_change (C := Try.checked) own started (by kernel_rfl) Try.func10
    (ChangeSpec.witness6 (enc := enc) (C := Try.checked) false ⟨#[], #[.slice none 0 0], []⟩ 8 (by kernel_rfl) (by kernel_rfl) (by kernel_rfl) (by kernel_rfl)) ?_
  intro W base args ds gs before hval0 hW hcnd _
  have hval : ∀ (j : Nat) t v, Try.f10.params[j]? = some t → args[j]? = some v → Value.okWide Try.prog W .any base t v := hval0
  have hW' := hW
  obtain ⟨p, q, hA0, hV, rfl, hfz, hnd⟩ := hW
  have hA : DataW.TrodAll enc Try.prog W 0 (fun _ => true) true Try.f10.params.toList args.toList ds p := hA0
  rw [Try.params10] at hA hval
  obtain ⟨v0, vs0, d0, ds0, p0, q0, hargs, rfl, rfl, h0, r0⟩ := trodAll_cons hA
  obtain ⟨rfl, rfl, rfl⟩ := trodAll_nil r0
  obtain rfl : args = #[v0] := by cases args; simp_all
  obtain ⟨rfl, rfl⟩ := trodVars_none hV
  have k0 := h0
  have lt0 : ∀ x ∈ p0, x.block < W.heap.size := by obtain ⟨m, hm⟩ := k0; exact DataW.trod_lt m _ _ _ hm
  obtain ⟨x0, y0, z0, rfl⟩ := okWide_slice Try.underlying32 (hval 0 32 v0 rfl rfl)
  obtain ⟨a0, n0, c0, o0, e0, w0⟩ := open_ops h0 rfl
  cases e0
  clear hA0 hval0
  refine (walkSlim x0 y0 z0 o0 W w0).mono fun e W' ⟨he, bel⟩ => ?_
  subst he
  exact ⟨_, rfl, _, _, _, [], _, [], hW', trodAll_mk1 (shut_bool Try.underlying4 _), (trodAll_cons_mk (Below.trod fLaid (by kernel_rfl) (of_decide_eq_true (by kernel_rfl)) k0 bel lt0) trodAll_mk0), rfl, bel.frame _, fun h => by cases h⟩

set_option maxHeartbeats 4000000 in
theorem closed : joinedFacts Try.prog 10 Try.f10 Rows.fnExactSlimSpec Rows.fnExactSlimRow = true := by
  refine closedOf rfl rfl rfl ?_ ?_ ?_ ?_ ?_ ?_ ?_ ?_ ?_ ?_ ?_ ?_ ?_ ?_ ?_ ?_ ?_ ?_ ?_ rfl rfl ?_ ?_ ?_
  all_goals (as_aux_lemma => kernel_rfl)

theorem over : Rows.fnExactSlimRow.holds Try.pinned (OpenSpec.ofChange Rows.fnExactSlimSpec) :=
  OpenClaim.holds_of_wide 10 Try.f10 rfl rfl rfl rfl rfl rfl rfl ⟨rfl, rfl, rfl, rfl, rfl⟩ rfl rfl rfl rfl rfl (by kernel_rfl) Try.func10 closed
    (of_decide_eq_true (by kernel_rfl)) (by unfold Func.isWrapper; first | (rw [if_pos (by decide +kernel)]; kernel_rfl) | (rw [if_neg (by decide +kernel)]; exact ⟨rfl, rfl⟩))
    (fun os started H enc _ => lifted os started H enc)
end fnExactSlim

theorem fnExactSlim_holds : Rows.FnExactSlimSaid := fnExactSlim.over
#print axioms fnExactSlim_holds
end Go.Proofs.Ytmmgomgpnkahjaa
