/-
  At every two servers the call of laws.FnExactShopSame returns true: the program's ShopSame answers as the specification's and writes into neither argument; both read behind the call as they did. No condition.
-/
import Derived.Test.YtdjffkiiglilnaaShopD
import Derived.Test.YtdjffkiiglilnaaClosed
import Derived.Deep.DeepCutAuto
import Derived.ProofKit
import Derived.OpenShut
import Derived.ShutString
import Derived.ChangeOld
namespace Go.Proofs.Ytdjffkiiglilnaa
open Go.RowKit

/-- A server in a box of its own. -/
structure HeldZ (w wx : World) (q : Nat) (a : Option Addr) (n c : Nat) (a' : Option Addr) (n' c' : Nat) : Prop where
  below : Below w.heap.size w wx
  c0 : wx.cell? ⟨q, 0, none⟩ = some (.slice a n c)
  c1 : wx.cell? ⟨q, 1, none⟩ = some (.slice a' n' c')
  lo : w.heap.size ≤ q
  hi : q < wx.heap.size
theorem HeldZ.next {w wx wy : World} {q : Nat} {a : Option Addr} {n c : Nat} {a' : Option Addr} {n' c' : Nat} (h : HeldZ w wx q a n c a' n' c') (hb : Below wx.heap.size wx wy) : HeldZ w wy q a n c a' n' c' :=
  ⟨h.below.trans (hb.mono h.below.size), by rw [hb.cell (by have := h.hi; simp; omega)]; exact h.c0, by rw [hb.cell (by have := h.hi; simp; omega)]; exact h.c1, h.lo, by have := hb.size; have := h.hi; omega⟩
theorem HeldZ.new (w : World) (a : Option Addr) (n c : Nat) (a' : Option Addr) (n' c' : Nat) (t : TypeId) : HeldZ w (w.alloc (Obj.cells #[.slice a n c, .slice a' n' c'] t)) w.heap.size a n c a' n' c' := ⟨(Below.refl _ _).alloc (Nat.le_refl _) _, by simp [go_sem], by simp [go_sem], Nat.le_refl _, by simp⟩
theorem HeldZ.drew {w wx : World} {q : Nat} {a : Option Addr} {n c : Nat} {a' : Option Addr} {n' c' : Nat} (h : HeldZ w wx q a n c a' n' c') : HeldZ w wx.drew q a n c a' n' c' := h.next (Below.refl _ _).drew

set_option maxHeartbeats 8000000 in
theorem walkShopSame (a : Option Addr) (n c : Nat) (os : List LObj) (d : Option Addr) (k e : Nat) (ds : List LDone) (a' : Option Addr) (n' c' : Nat) (os' : List LObj) (d' : Option Addr) (k' e' : Nat) (ds' : List LDone) (w : World) (H : ObjsAt w 0 w.heap.size a n os) (HD : DonesAt w 0 w.heap.size d k ds) (H' : ObjsAt w 0 w.heap.size a' n' os') (HD' : DonesAt w 0 w.heap.size d' k' ds') :
    Calls Try.prog 8 #[.agg #[.slice a n c, .slice d k e], .agg #[.slice a' n' c', .slice d' k' e']] w fun e w' => e = .returned (.bool true) ∧ Below w.heap.size w w' := by
  have hA0 : HeldZ w ((w.alloc (Obj.cells #[.slice a n c, .slice d k e] 70)).alloc (Obj.cells #[.slice a' n' c', .slice d' k' e'] 70)) w.heap.size a n c d k e := (HeldZ.new w a n c d k e 70).next ((Below.refl _ _).alloc (Nat.le_refl _) _)
  have hB0 : HeldZ w ((w.alloc (Obj.cells #[.slice a n c, .slice d k e] 70)).alloc (Obj.cells #[.slice a' n' c', .slice d' k' e'] 70)) (w.heap.size + 1) a' n' c' d' k' e' :=
    ⟨hA0.below, by simp [go_sem], by simp [go_sem], by omega, by simp⟩
  go_enter Try.func8, Try.ntmps8
  go_wp2_with fail
  refine (szShop_any _ _ _ os _ _ _ ds 0 w.heap.size _ _ (by omega) (by omega) hA0.below.size (H.below hA0.below (Nat.le_refl _)) (HD.below hA0.below (Nat.le_refl _))).mono ?_
  rintro x w1 ⟨⟨r1, rfl, hr⟩, hb1⟩
  have HR : Hid (r1 = -1 ∨ 0 ≤ r1 ∧ r1 = 1048576 - n - totT os - k) := hr
  have h1 := hA0.next hb1
  have g1 := hB0.next hb1
  clear hr hb1 hA0 hB0
  by_cases hneg : r1 < 0
  · go_wp2_with fail
    go_ret
    exact ⟨rfl, h1.below⟩
  have e0 := g1.c0
  have e1 := g1.c1
  go_wp2_with fail
  refine (szShop_any _ _ _ os' _ _ _ ds' 0 w.heap.size _ _ (by omega) (by have := HR.out; omega) h1.below.size (H'.below h1.below (Nat.le_refl _)) (HD'.below h1.below (Nat.le_refl _))).mono ?_
  rintro x w2 ⟨⟨r2, rfl, hr2⟩, hb2⟩
  have HR2 : Hid (r2 = -1 ∨ 0 ≤ r2 ∧ r2 = r1 - n' - totT os' - k') := hr2
  have h2 := h1.next hb2
  have g2 := g1.next hb2
  clear hr2 hb2 h1 g1 e0 e1
  by_cases hneg2 : r2 < 0
  · go_wp2_with fail
    go_ret
    exact ⟨rfl, h2.below⟩
  have hn1 : n ≤ 1048576 := by have := HR.out; omega
  have hS1 : Sizes os 1048576 := sizes_of (by have := HR.out; omega)
  have hk1 : k ≤ 1048576 := by have := HR.out; omega
  have hn2 : n' ≤ 1048576 := by have := HR.out; have := HR2.out; omega
  have hS2 : Sizes os' 1048576 := sizes_of (by have := HR.out; have := HR2.out; omega)
  have hk2 : k' ≤ 1048576 := by have := HR.out; have := HR2.out; omega
  clear HR HR2
  go_upto_region 8 with fail
  go_cut [6] (fun x wx => x = .bool (shopEq os os' ds ds') ∧ HeldZ w wx w.heap.size a n c d k e ∧ HeldZ w wx (w.heap.size + 1) a' n' c' d' k' e')
  case first =>
    have h3 := h2.drew
    have g3 := g2.drew
    have e0 := h2.c0
    have e1 := h2.c1
    have f0 := g2.c0
    have f1 := g2.c1
    have hz1 := h2.hi
    have hz2 := g2.hi
    go_region_with (first
      | (go_at_call_of 39 (Value.agg #[Value.slice a n c, Value.slice d k e]); go_must (refine (toShop_any _ _ _ os _ _ _ ds 0 w.heap.size _ hn1 hS1 hk1 h3.below.size (H.below h3.below (Nat.le_refl _)) (HD.below h3.below (Nat.le_refl _))).mono ?_; rintro x w4 ⟨⟨b4, b4', rfl, h4o, h4d⟩, hb4⟩; have h4 := h3.next hb4; have g4 := g3.next hb4; have f0 := g4.c0; have f1 := g4.c1; have hz4 := g4.hi))
      | (go_at_call_of 39 (Value.agg #[Value.slice a' n' c', Value.slice d' k' e']); go_must (refine (toShop_any _ _ _ os' _ _ _ ds' 0 w.heap.size _ hn2 hS2 hk2 h4.below.size (H'.below h4.below (Nat.le_refl _)) (HD'.below h4.below (Nat.le_refl _))).mono ?_; rintro x w5 ⟨⟨b5, b5', rfl, h5o, h5d⟩, hb5⟩; have h5 := h4.next hb5; have g5 := g4.next hb5))
      | (go_at_call 41; go_must (refine (specShopSame _ _ _ _ _ _ _ _ _ _ _ _ os os' ds ds' _ _ _ _ _ hb5.size (Nat.le_refl _) (h4o.below hb5 (Nat.le_refl _)) (h4d.below hb5 (Nat.le_refl _)) h5o h5d).mono ?_; rintro x w6 ⟨rfl, hb6⟩)))
    all_goals
      go_wp2_with fail
      go_meet
      exact ⟨rfl, h5.next hb6, g5.next hb6⟩
  obtain ⟨rfl, h6, g6⟩ := hcut
  clear h2 g2
  have e0 := h6.c0
  have e1 := h6.c1
  go_wp2_with fail
  refine (toShop_any _ _ _ os _ _ _ ds 0 w.heap.size _ hn1 hS1 hk1 h6.below.size (H.below h6.below (Nat.le_refl _)) (HD.below h6.below (Nat.le_refl _))).mono ?_
  rintro x w7 ⟨⟨b7, b7', rfl, h7o, h7d⟩, hb7⟩
  have h7 := h6.next hb7
  have g7 := g6.next hb7
  clear hb7 h6 g6 e0 e1
  have hX := HeldZ.new w7 (some ⟨b7, 0, none⟩) n n (some ⟨b7', 0, none⟩) k k 63
  have h8 := h7.next hX.below
  have g8 := g7.next hX.below
  have h8o := h7o.below hX.below (Nat.le_refl _)
  have h8d := h7d.below hX.below (Nat.le_refl _)
  have hz7 := g7.hi
  clear h7 g7 h7o h7d
  have f0 := g8.c0
  have f1 := g8.c1
  go_wp2_with fail
  refine (toShop_any _ _ _ os' _ _ _ ds' 0 w.heap.size _ hn2 hS2 hk2 h8.below.size (H'.below h8.below (Nat.le_refl _)) (HD'.below h8.below (Nat.le_refl _))).mono ?_
  rintro x w9 ⟨⟨b9, b9', rfl, h9o, h9d⟩, hb9⟩
  have h9 := h8.next hb9
  have g9 := g8.next hb9
  have hX9 := hX.next hb9
  have h9o' := h8o.below hb9 hX.below.size
  have h9d' := h8d.below hb9 hX.below.size
  clear hb9 h8 g8 hX h8o h8d f0 f1 hz7
  have hY := HeldZ.new w9 (some ⟨b9, 0, none⟩) n' n' (some ⟨b9', 0, none⟩) k' k' 63
  have h10 := h9.next hY.below
  have g10 := g9.next hY.below
  have hX10 := hX9.next hY.below
  have h10o' := h9o'.below hY.below hX9.below.size
  have h10d' := h9d'.below hY.below hX9.below.size
  have h10o := h9o.below hY.below (Nat.le_refl _)
  have h10d := h9d.below hY.below (Nat.le_refl _)
  have hz9 := hX9.hi
  have hlo9 := hX9.below.size
  obtain ⟨s8z, hs8z⟩ : ∃ s, s = (w7.alloc (Obj.cells #[.slice (some ⟨b7, 0, none⟩) n n, .slice (some ⟨b7', 0, none⟩) k k] 63)).heap.size := ⟨_, rfl⟩
  rw [← hs8z] at h10o h10d
  clear hs8z
  clear h9 g9 hX9 h9o h9d h9o' h9d'
  have f0 := hX10.c0
  have f1 := hX10.c1
  go_wp2_with fail
  refine (implShopSame _ _ _ _ _ _ _ _ _ _ _ _ os os' ds ds' _ _ _ _ _ hX10.below.size hY.below.size h10o' h10d' h10o h10d).mono ?_
  rintro x w11 ⟨rfl, hb11⟩
  have h11 := h10.next hb11
  have g11 := g10.next hb11
  have hX11 := hX10.next hb11
  have hY11 := hY.next hb11
  have h11o' := h10o'.below hb11 hX10.below.size
  have h11d' := h10d'.below hb11 hX10.below.size
  have h11o := h10o.below hb11 hY.below.size
  have h11d := h10d.below hb11 hY.below.size
  clear hb11 h10 g10 hX10 hY h10o h10d h10o' h10d' f0 f1 hz9
  go_wp2_with fail
  go_upto_region 14 with fail
  go_cut [39] (fun x wx => x = .bool false ∧ HeldZ w wx w.heap.size a n c d k e ∧ HeldZ w wx (w.heap.size + 1) a' n' c' d' k' e' ∧ HeldZ w9 wx w9.heap.size (some ⟨b9, 0, none⟩) n' n' (some ⟨b9', 0, none⟩) k' k' ∧ ObjsAt wx s8z w9.heap.size (some ⟨b9, 0, none⟩) n' os' ∧ DonesAt wx s8z w9.heap.size (some ⟨b9', 0, none⟩) k' ds')
  case first =>
    have h12 := h11.drew
    have g12 := g11.drew
    have hX12 := hX11.drew
    have hY12 := hY11.drew
    have e0 := h11.c0
    have e1 := h11.c1
    have f0 := hX11.c0
    have f1 := hX11.c1
    have hz1 := h11.hi
    have hz2 := hX11.hi
    have q12o' := h11o'.below (Below.refl w11.heap.size w11).drew hX11.below.size
    have q12d' := h11d'.below (Below.refl w11.heap.size w11).drew hX11.below.size
    have q12o := h11o.below (Below.refl w11.heap.size w11).drew hY11.below.size
    have q12d := h11d.below (Below.refl w11.heap.size w11).drew hY11.below.size
    go_region_with (first
      | (go_at_call 39; go_must (refine (toShop_any _ _ _ os _ _ _ ds 0 w.heap.size _ hn1 hS1 hk1 h12.below.size (H.below h12.below (Nat.le_refl _)) (HD.below h12.below (Nat.le_refl _))).mono ?_; rintro x w13 ⟨⟨b13, b13', rfl, h13o, h13d⟩, hb13⟩; have h13 := h12.next hb13; have hX13 := hX12.next hb13; have f0 := hX13.c0; have f1 := hX13.c1; have hz13 := hX13.hi))
      | (go_at_call 34; go_must (refine (eqShop_same _ _ _ _ _ _ _ _ _ _ os ds _ _ _ _ _ _ _ _ _ hX13.below.size hX13.below.size (Nat.le_refl _) (Nat.le_refl _) (q12o'.below hb13 hX12.below.size) (q12d'.below hb13 hX12.below.size) h13o h13d).mono ?_; rintro x w14 ⟨rfl, hb14⟩)))
    all_goals
      go_wp2_with fail
      go_meet
      exact ⟨rfl, h13.next hb14, (g12.next hb13).next hb14, (hY12.next hb13).next hb14, (q12o.below hb13 hY12.below.size).below hb14 (hY12.next hb13).below.size, (q12d.below hb13 hY12.below.size).below hb14 (hY12.next hb13).below.size⟩
  obtain ⟨rfl, h15, g15, hY15, h15o, h15d⟩ := hcut
  clear h11 g11 hX11 hY11 h11o h11d h11o' h11d' hlo9
  go_wp2_with fail
  go_upto_region 16 with fail
  have h16 := h15.drew
  have g16 := g15.drew
  have hY16 := hY15.drew
  have e0 := g15.c0
  have e1 := g15.c1
  have f0 := hY15.c0
  have f1 := hY15.c1
  have hz1 := g15.hi
  have hz2 := hY15.hi
  have q16o := h15o.below (Below.refl wc.heap.size wc).drew hY15.below.size
  have q16d := h15d.below (Below.refl wc.heap.size wc).drew hY15.below.size
  go_region_with (first
    | (go_at_call 39; go_must (refine (toShop_any _ _ _ os' _ _ _ ds' 0 w.heap.size _ hn2 hS2 hk2 h16.below.size (H'.below h16.below (Nat.le_refl _)) (HD'.below h16.below (Nat.le_refl _))).mono ?_; rintro x w17 ⟨⟨b17, b17', rfl, h17o, h17d⟩, hb17⟩; have h17 := h16.next hb17; have hY17 := hY16.next hb17; have f0 := hY17.c0; have f1 := hY17.c1; have hz17 := hY17.hi))
    | (go_at_call 34; go_must (refine (eqShop_same _ _ _ _ _ _ _ _ _ _ os' ds' _ _ _ _ _ _ _ _ _ hY17.below.size hY17.below.size (Nat.le_refl _) (Nat.le_refl _) (q16o.below hb17 hY16.below.size) (q16d.below hb17 hY16.below.size) h17o h17d).mono ?_; rintro x w18 ⟨rfl, hb18⟩)))
  all_goals
    go_wp2_with fail
    go_ret
    exact ⟨rfl, (h17.next hb18).below⟩

namespace fnExactShopSame
open Go.ChangeShapes Go.WideShapes Go.ChangeAt Go.RowKit
open Go.ChangeMaps (open_string shut_string)
set_option linter.unusedVariables false

theorem own : ownKnob Try.prog.godebug = none := by kernel_rfl

set_option maxRecDepth 100000 in
theorem lifted (os : Os) (started : os.Started) (H : Type) (enc : TypeId × Value → H) :
    ReturnsInHanded {} Try.checked os 8 .any (Rows.fnExactShopSameSpec.pre6 enc Try.prog Try.f8 Rows.fnExactShopSameRow.domain false) (Rows.fnExactShopSameSpec.post enc Try.prog Try.f8 false true false false) := by
  refine returnsInHanded_of_change (C := Try.checked) own started (by kernel_rfl) Try.func8
    (ChangeSpec.witness6 (enc := enc) (C := Try.checked) false ⟨#[], #[.agg #[.slice none 0 0, .slice none 0 0], .agg #[.slice none 0 0, .slice none 0 0]], []⟩ 8 (by kernel_rfl) (by kernel_rfl) (by kernel_rfl) (by kernel_rfl)) ?_
  intro W base args ds gs before hval0 hW hcnd _
  have hval : ∀ (j : Nat) t v, Try.f8.params[j]? = some t → args[j]? = some v → Value.okWide Try.prog W .any base t v := hval0
  have hW' := hW
  obtain ⟨p, q, hA0, hV, rfl, hfz, hnd⟩ := hW
  have hA : DataW.TrodAll enc Try.prog W 0 (fun _ => true) true Try.f8.params.toList args.toList ds p := hA0
  rw [Try.params8] at hA hval
  obtain ⟨v0, vs0, d0, ds0, p0, q0, hargs, rfl, rfl, h0, r0⟩ := trodAll_cons hA
  obtain ⟨v1, vs1, d1, ds1, p1, q1, hargs1, rfl, rfl, h1, r1⟩ := trodAll_cons r0
  obtain ⟨rfl, rfl, rfl⟩ := trodAll_nil r1
  obtain rfl : args = #[v0, v1] := by cases args; simp_all
  obtain ⟨rfl, rfl⟩ := trodVars_none hV
  have k0 := h0
  have lt0 : ∀ x ∈ p0, x.block < W.heap.size := by obtain ⟨m, hm⟩ := k0; exact DataW.trod_lt m _ _ _ hm
  have k1 := h1
  have lt1 : ∀ x ∈ p1, x.block < W.heap.size := by obtain ⟨m, hm⟩ := k1; exact DataW.trod_lt m _ _ _ hm
  obtain ⟨a0, n0, c0, o0, a0', n0', c0', d0_, rfl, w0, w0'⟩ := open_shop (hval 0 70 v0 rfl rfl) h0
  obtain ⟨a1, n1, c1, o1, a1', n1', c1', d1_, rfl, w1, w1'⟩ := open_shop (hval 1 70 v1 rfl rfl) h1
  clear hA0 hval0
  refine (walkShopSame a0 n0 c0 o0 a0' n0' c0' d0_ a1 n1 c1 o1 a1' n1' c1' d1_ W w0 w0' w1 w1').mono fun e W' ⟨he, bel⟩ => ?_
  subst he
  exact ⟨_, rfl, _, _, _, [], _, [], hW', trodAll_mk1 (shut_bool Try.underlying4 _), (trodAll_cons_mk (Below.trod fLaid (by kernel_rfl) (of_decide_eq_true (by kernel_rfl)) k0 bel lt0) (trodAll_cons_mk (Below.trod fLaid (by kernel_rfl) (of_decide_eq_true (by kernel_rfl)) k1 bel lt1) trodAll_mk0)), rfl, bel.frame _, fun h => by cases h⟩

set_option maxHeartbeats 4000000 in
theorem closed : joinedFacts Try.prog 8 Try.f8 Rows.fnExactShopSameSpec Rows.fnExactShopSameRow = true := by
  refine closedOf rfl rfl rfl ?_ ?_ ?_ ?_ ?_ ?_ ?_ ?_ ?_ ?_ ?_ ?_ ?_ ?_ ?_ ?_ ?_ ?_ ?_ rfl rfl ?_ ?_ ?_
  all_goals (as_aux_lemma => kernel_rfl)

theorem over : Rows.fnExactShopSameRow.holds Try.pinned (OpenSpec.ofChange Rows.fnExactShopSameSpec) :=
  OpenClaim.holds_of_wide 8 Try.f8 rfl rfl rfl rfl rfl rfl rfl ⟨rfl, rfl, rfl, rfl, rfl⟩ rfl rfl rfl rfl rfl (by kernel_rfl) Try.func8 closed
    (of_decide_eq_true (by kernel_rfl)) (by unfold Func.isWrapper; first | (rw [if_pos (by decide +kernel)]; kernel_rfl) | (rw [if_neg (by decide +kernel)]; exact ⟨rfl, rfl⟩))
    (fun os started H enc _ => lifted os started H enc)
end fnExactShopSame

theorem fnExactShopSame_holds : Rows.FnExactShopSameSaid := fnExactShopSame.over
#print axioms fnExactShopSame_holds
end Go.Proofs.Ytdjffkiiglilnaa
