/-
  At every server the call of laws.FnExactShopOk returns true: the program's ShopOk answers as the specification's and does not write into its argument, which reads behind the call as it did. No condition.
-/
import Derived.Test.YtdjffkiiglilnaaShopC
import Derived.Test.YtdjffkiiglilnaaClosed
import Derived.Deep.DeepCutAuto
import Derived.ProofKit
import Derived.OpenShut
import Derived.ShutString
import Derived.ChangeOld
namespace Go.Proofs.Ytdjffkiiglilnaa
open Go.RowKit

/-- A server in a box of its own. -/
structure HeldS (w wx : World) (q : Nat) (a : Option Addr) (n c : Nat) (a' : Option Addr) (n' c' : Nat) : Prop where
  below : Below w.heap.size w wx
  c0 : wx.cell? ⟨q, 0, none⟩ = some (.slice a n c)
  c1 : wx.cell? ⟨q, 1, none⟩ = some (.slice a' n' c')
  lo : w.heap.size ≤ q
  hi : q < wx.heap.size
theorem HeldS.next {w wx wy : World} {q : Nat} {a : Option Addr} {n c : Nat} {a' : Option Addr} {n' c' : Nat} (h : HeldS w wx q a n c a' n' c') (hb : Below wx.heap.size wx wy) : HeldS w wy q a n c a' n' c' :=
  ⟨h.below.trans (hb.mono h.below.size), by rw [hb.cell (by have := h.hi; simp; omega)]; exact h.c0, by rw [hb.cell (by have := h.hi; simp; omega)]; exact h.c1, h.lo, by have := hb.size; have := h.hi; omega⟩
theorem HeldS.new (w : World) (a : Option Addr) (n c : Nat) (a' : Option Addr) (n' c' : Nat) (t : TypeId) : HeldS w (w.alloc (Obj.cells #[.slice a n c, .slice a' n' c'] t)) w.heap.size a n c a' n' c' := ⟨(Below.refl _ _).alloc (Nat.le_refl _) _, by simp [go_sem], by simp [go_sem], Nat.le_refl _, by simp⟩
theorem HeldS.drew {w wx : World} {q : Nat} {a : Option Addr} {n c : Nat} {a' : Option Addr} {n' c' : Nat} (h : HeldS w wx q a n c a' n' c') : HeldS w wx.drew q a n c a' n' c' := h.next (Below.refl _ _).drew

set_option maxHeartbeats 4000000 in
theorem walkShopOk (a : Option Addr) (n c : Nat) (os : List LObj) (a' : Option Addr) (n' c' : Nat) (ds : List LDone) (w : World) (H : ObjsAt w 0 w.heap.size a n os) (H' : DonesAt w 0 w.heap.size a' n' ds) :
    Calls Try.prog 7 #[.agg #[.slice a n c, .slice a' n' c']] w fun e w' => e = .returned (.bool true) ∧ Below w.heap.size w w' := by
  have hA := HeldS.new w a n c a' n' c' 70
  go_enter Try.func7, Try.ntmps7
  go_wp2_with fail
  refine (szShop_any _ _ _ os _ _ _ ds 0 w.heap.size _ _ (by omega) (by omega) hA.below.size (H.below hA.below (Nat.le_refl _)) (H'.below hA.below (Nat.le_refl _))).mono ?_
  rintro x w1 ⟨⟨r1, rfl, hr⟩, hb1⟩
  have HR : Hid (r1 = -1 ∨ 0 ≤ r1 ∧ r1 = 1048576 - n - totT os - n') := hr
  have h1 := hA.next hb1
  clear hr hb1 hA
  by_cases hneg : r1 < 0
  · go_wp2_with fail
    go_ret
    exact ⟨rfl, h1.below⟩
  have hn1 : n ≤ 1048576 := by have := HR.out; omega
  have hS1 : Sizes os 1048576 := sizes_of (by have := HR.out; omega)
  have hn2 : n' ≤ 1048576 := by have := HR.out; omega
  clear HR
  have e0 := h1.c0
  have e1 := h1.c1
  go_wp2_with fail
  refine (toShop_any _ _ _ os _ _ _ ds 0 w.heap.size _ hn1 hS1 hn2 h1.below.size (H.below h1.below (Nat.le_refl _)) (H'.below h1.below (Nat.le_refl _))).mono ?_
  rintro x w2 ⟨⟨b2, b2', rfl, h2o, h2d⟩, hb2⟩
  have h2 := h1.next hb2
  clear hb2 h1 e0 e1
  go_wp2_with fail
  refine (specShopOk _ _ _ os _ _ _ ds _ _ _ _ _ hS1 (Nat.le_refl _) (Nat.le_refl _) h2o h2d).mono ?_
  rintro x w3 ⟨rfl, hb3⟩
  have h3 := h2.next hb3
  clear hb3 h2 h2o h2d
  have e0 := h3.c0
  have e1 := h3.c1
  go_wp2_with fail
  refine (toShop_any _ _ _ os _ _ _ ds 0 w.heap.size _ hn1 hS1 hn2 h3.below.size (H.below h3.below (Nat.le_refl _)) (H'.below h3.below (Nat.le_refl _))).mono ?_
  rintro x w4 ⟨⟨b4, b4', rfl, h4o, h4d⟩, hb4⟩
  have h4 := h3.next hb4
  clear hb4 h3 e0 e1
  have hX := HeldS.new w4 (some ⟨b4, 0, none⟩) n n (some ⟨b4', 0, none⟩) n' n' 63
  have h5 := h4.next hX.below
  have h5o := h4o.below hX.below (Nat.le_refl _)
  have h5d := h4d.below hX.below (Nat.le_refl _)
  clear h4 h4o h4d
  go_wp2_with fail
  refine (implShopOk _ _ _ os _ _ _ ds _ _ _ _ _ hX.below.size hX.below.size h5o h5d).mono ?_
  rintro x w6 ⟨rfl, hb6⟩
  have h6 := h5.next hb6
  have hX6 := hX.next hb6
  have h6o := h5o.below hb6 hX.below.size
  have h6d := h5d.below hb6 hX.below.size
  clear hb6 h5 hX h5o h5d
  have e0 := h6.c0
  have e1 := h6.c1
  have f0 := hX6.c0
  have f1 := hX6.c1
  have hz6 := hX6.hi
  have hz6' := h6.hi
  go_wp2_with fail
  go_upto_region 10 with fail
  have h7 := h6.drew
  have hX7 := hX6.drew
  have h7o := h6o.below (Below.refl w6.heap.size w6).drew hX6.below.size
  have h7d := h6d.below (Below.refl w6.heap.size w6).drew hX6.below.size
  go_region_with (first
    | (go_at_call 39; go_must (refine (toShop_any _ _ _ os _ _ _ ds 0 w.heap.size _ hn1 hS1 hn2 h7.below.size (H.below h7.below (Nat.le_refl _)) (H'.below h7.below (Nat.le_refl _))).mono ?_; rintro x w8 ⟨⟨b8, b8', rfl, h8o, h8d⟩, hb8⟩; have h8 := h7.next hb8; have hX8 := hX7.next hb8; have f0 := hX8.c0; have f1 := hX8.c1; have hz8 := hX8.hi))
    | (go_at_call 34; go_must (refine (eqShop_same _ _ _ _ _ _ _ _ _ _ os ds _ _ _ _ _ _ _ _ _ hX8.below.size hX8.below.size (Nat.le_refl _) (Nat.le_refl _) (h7o.below hb8 hX7.below.size) (h7d.below hb8 hX7.below.size) h8o h8d).mono ?_; rintro x w9 ⟨rfl, hb9⟩)))
  all_goals
    go_wp2_with fail
    go_ret
    exact ⟨rfl, (h8.next hb9).below⟩

namespace fnExactShopOk
open Go.ChangeShapes Go.WideShapes Go.ChangeAt Go.RowKit
open Go.ChangeMaps (open_string shut_string)
set_option linter.unusedVariables false

theorem own : ownKnob Try.prog.godebug = none := by kernel_rfl

set_option maxRecDepth 100000 in
theorem lifted (os : Os) (started : os.Started) (H : Type) (enc : TypeId × Value → H) :
    ReturnsInHanded {} Try.checked os 7 .any (Rows.fnExactShopOkSpec.pre6 enc Try.prog Try.f7 Rows.fnExactShopOkRow.domain false) (Rows.fnExactShopOkSpec.post enc Try.prog Try.f7 false true false false) := by
  refine returnsInHanded_of_change (C := Try.checked) own started (by kernel_rfl) Try.func7
    (ChangeSpec.witness6 (enc := enc) (C := Try.checked) false ⟨#[], #[.agg #[.slice none 0 0, .slice none 0 0]], []⟩ 8 (by kernel_rfl) (by kernel_rfl) (by kernel_rfl) (by kernel_rfl)) ?_
  intro W base args ds gs before hval0 hW hcnd _
  have hval : ∀ (j : Nat) t v, Try.f7.params[j]? = some t → args[j]? = some v → Value.okWide Try.prog W .any base t v := hval0
  have hW' := hW
  obtain ⟨p, q, hA0, hV, rfl, hfz, hnd⟩ := hW
  have hA : DataW.TrodAll enc Try.prog W 0 (fun _ => true) true Try.f7.params.toList args.toList ds p := hA0
  rw [Try.params7] at hA hval
  obtain ⟨v0, vs0, d0, ds0, p0, q0, hargs, rfl, rfl, h0, r0⟩ := trodAll_cons hA
  obtain ⟨rfl, rfl, rfl⟩ := trodAll_nil r0
  obtain rfl : args = #[v0] := by cases args; simp_all
  obtain ⟨rfl, rfl⟩ := trodVars_none hV
  have k0 := h0
  have lt0 : ∀ x ∈ p0, x.block < W.heap.size := by obtain ⟨m, hm⟩ := k0; exact DataW.trod_lt m _ _ _ hm
  obtain ⟨a0, n0, c0, o0, a0', n0', c0', d0_, rfl, w0, w0'⟩ := open_shop (hval 0 70 v0 rfl rfl) h0
  clear hA0 hval0
  refine (walkShopOk a0 n0 c0 o0 a0' n0' c0' d0_ W w0 w0').mono fun e W' ⟨he, bel⟩ => ?_
  subst he
  exact ⟨_, rfl, _, _, _, [], _, [], hW', trodAll_mk1 (shut_bool Try.underlying4 _), (trodAll_cons_mk (Below.trod fLaid (by kernel_rfl) (of_decide_eq_true (by kernel_rfl)) k0 bel lt0) trodAll_mk0), rfl, bel.frame _, fun h => by cases h⟩

set_option maxHeartbeats 4000000 in
theorem closed : joinedFacts Try.prog 7 Try.f7 Rows.fnExactShopOkSpec Rows.fnExactShopOkRow = true := by
  refine closedOf rfl rfl rfl ?_ ?_ ?_ ?_ ?_ ?_ ?_ ?_ ?_ ?_ ?_ ?_ ?_ ?_ ?_ ?_ ?_ ?_ ?_ rfl rfl ?_ ?_ ?_
  all_goals (as_aux_lemma => kernel_rfl)

theorem over : Rows.fnExactShopOkRow.holds Try.pinned (OpenSpec.ofChange Rows.fnExactShopOkSpec) :=
  OpenClaim.holds_of_wide 7 Try.f7 rfl rfl rfl rfl rfl rfl rfl ⟨rfl, rfl, rfl, rfl, rfl⟩ rfl rfl rfl rfl rfl (by kernel_rfl) Try.func7 closed
    (of_decide_eq_true (by kernel_rfl)) (by unfold Func.isWrapper; first | (rw [if_pos (by decide +kernel)]; kernel_rfl) | (rw [if_neg (by decide +kernel)]; exact ⟨rfl, rfl⟩))
    (fun os started H enc _ => lifted os started H enc)
end fnExactShopOk

theorem fnExactShopOk_holds : Rows.FnExactShopOkSaid := fnExactShopOk.over
#print axioms fnExactShopOk_holds
end Go.Proofs.Ytdjffkiiglilnaa
