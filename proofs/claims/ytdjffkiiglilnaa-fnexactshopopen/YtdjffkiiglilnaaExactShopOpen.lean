/-
  The call of laws.FnExactShopOpen returns true: the program's ShopOpen answers as the specification's, and its answer owns its memory, behind another call too. No condition.
-/
import Derived.Test.YtdjffkiiglilnaaMark
import Derived.Test.YtdjffkiiglilnaaShopE
import Derived.Deep.DeepCutAuto
import Derived.Test.YtdjffkiiglilnaaClosed
import Derived.ProofKit
import Derived.OpenShut
import Derived.ShutString
import Derived.ChangeOld
namespace Go.Proofs.Ytdjffkiiglilnaa
open Go.RowKit

set_option maxHeartbeats 1000000 in
theorem walkShopOpen (w : World) : Calls Try.prog 6 #[] w fun e w' => e = .returned (.bool true) ∧ Below w.heap.size w w' := by
  go_enter Try.func6, Try.ntmps6
  go_wp2_with fail
  refine (specShopOpen _).mono ?_
  rintro x w1 ⟨⟨b1, rfl, hlo1, hr1⟩, hb1⟩
  have HR1 : Hid (w1.rowIs b1 38 128 openF) := hr1
  have hlt1 := hr1.lt
  clear hr1
  go_wp2_with fail
  refine (implShopOpen _).mono ?_
  rintro x w2 ⟨⟨b2, rfl, hlo2, hr2⟩, hb2⟩
  have hlo2' : w1.heap.size + 1 ≤ b2 := by simpa using hlo2
  have HR1' : Hid (w2.rowIs b1 38 128 openF) := (HR1.out.alloc _).of_block (hb2.block _ (by simp; omega))
  have HR2 : Hid (w2.rowIs b2 38 128 openF) := hr2
  have hlt2 := hr2.lt
  have hc1 : w2.cell? ⟨w1.heap.size, 0, none⟩ = some (.slice (some ⟨b1, 0, none⟩) 32 32) := by rw [hb2.cell (by simp)]; simp [go_sem]
  have hc1' : w2.cell? ⟨w1.heap.size, 1, none⟩ = some (.slice none 0 0) := by rw [hb2.cell (by simp)]; simp [go_sem]
  have hbw2 : Below w.heap.size w w2 := (hb1.trans (((Below.refl w1.heap.size w1).alloc (Nat.le_refl _) (.cells #[.slice (some ⟨b1, 0, none⟩) 32 32, .slice none 0 0] 63)).mono hb1.size)).trans (hb2.mono (by have := hb1.size; simp; omega))
  have hsz : w1.heap.size < w2.heap.size := by omega
  clear hr2 HR1 hlo2 hb2
  go_wp2_with fail
  have hA2 : Below w2.heap.size w2 (w2.alloc (Obj.cells #[.slice (some ⟨b2, 0, none⟩) 32 32, .slice none 0 0] 63)) := (Below.refl _ _).alloc (Nat.le_refl _) _
  refine (eqShop_same _ _ _ _ _ _ _ _ _ _ _ [] _ _ 0 0 _ _ 0 0 _ (Nat.le_refl _) (Nat.zero_le _) (Nat.le_refl _) (Nat.zero_le _) (open_objs_at (HR2.out.alloc _)) ⟨rfl, Nat.zero_le _, fun h => absurd rfl h⟩ (open_objs_at (HR1'.out.alloc _)) ⟨rfl, Nat.zero_le _, fun h => absurd rfl h⟩).mono ?_
  rintro x w3 ⟨rfl, hb3⟩
  have hb3' : Below w2.heap.size w2 w3 := hA2.trans (hb3.mono (by simp))
  have HR1c : Hid (w3.rowIs b1 38 128 openF) := HR1'.out.of_block (hb3'.block _ (by omega))
  have HR2c : Hid (w3.rowIs b2 38 128 openF) := HR2.out.of_block (hb3'.block _ hlt2)
  have hd1 : w3.cell? ⟨w1.heap.size, 0, none⟩ = some (.slice (some ⟨b1, 0, none⟩) 32 32) := by rw [hb3'.cell (by simpa using hsz)]; exact hc1
  have hd1' : w3.cell? ⟨w1.heap.size, 1, none⟩ = some (.slice none 0 0) := by rw [hb3'.cell (by simpa using hsz)]; exact hc1'
  have hd2 : w3.cell? ⟨w2.heap.size, 0, none⟩ = some (.slice (some ⟨b2, 0, none⟩) 32 32) := by rw [hb3.cell (by simp)]; simp [go_sem]
  have hd2' : w3.cell? ⟨w2.heap.size, 1, none⟩ = some (.slice none 0 0) := by rw [hb3.cell (by simp)]; simp [go_sem]
  have hz3 : w2.heap.size < w3.heap.size := by have := hb3.size; simp at this; omega
  have hbw3 : Below w.heap.size w w3 := hbw2.trans (hb3'.mono hbw2.size)
  clear hc1 hc1' hb3 hA2 hb3' HR1' HR2
  go_wp2_with fail
  refine (markShop_open b2 32 openF _ HR2c.out bare_open).mono ?_
  rintro x w4 ⟨rfl, ⟨f, hf, hfb, hfm⟩, hbut⟩
  have HM : Hid (w4.rowIs b2 38 128 f ∧ Bare f ∧ Marked f 32) := ⟨hf, hfb, hfm⟩
  have HR1d : Hid (w4.rowIs b1 38 128 openF) := HR1c.out.of_block (hbut.block _ (by omega) (by omega))
  have he1 : w4.cell? ⟨w1.heap.size, 0, none⟩ = some (.slice (some ⟨b1, 0, none⟩) 32 32) := by rw [hbut.cell (by simp; omega) (by simp; omega)]; exact hd1
  have he1' : w4.cell? ⟨w1.heap.size, 1, none⟩ = some (.slice none 0 0) := by rw [hbut.cell (by simp; omega) (by simp; omega)]; exact hd1'
  have he2 : w4.cell? ⟨w2.heap.size, 0, none⟩ = some (.slice (some ⟨b2, 0, none⟩) 32 32) := by rw [hbut.cell (by simp; omega) (by simp; omega)]; exact hd2
  have he2' : w4.cell? ⟨w2.heap.size, 1, none⟩ = some (.slice none 0 0) := by rw [hbut.cell (by simp; omega) (by simp; omega)]; exact hd2'
  have hz4 : w3.heap.size ≤ w4.heap.size := hbut.below.size
  have hbw4 : Below w.heap.size w w4 := hbw3.trans (hbut.below.mono (by have := hb1.size; omega))
  clear hd1 hd1' hd2 hd2' hf hfb hfm hbut HR1c HR2c hbw3 hbw2
  go_wp2_with fail
  refine (heldShop_open b2 32 f _ HM.out.1 HM.out.2.1 HM.out.2.2).mono ?_
  rintro x w5 ⟨rfl, hb5⟩
  have HM5 : Hid (w5.rowIs b2 38 128 f ∧ Bare f ∧ Marked f 32) := ⟨HM.out.1.of_block (hb5.block _ (by omega)), HM.out.2⟩
  have HR1e : Hid (w5.rowIs b1 38 128 openF) := HR1d.out.of_block (hb5.block _ (by omega))
  have hf1 : w5.cell? ⟨w1.heap.size, 0, none⟩ = some (.slice (some ⟨b1, 0, none⟩) 32 32) := by rw [hb5.cell (by simp; omega)]; exact he1
  have hf1' : w5.cell? ⟨w1.heap.size, 1, none⟩ = some (.slice none 0 0) := by rw [hb5.cell (by simp; omega)]; exact he1'
  have hf2 : w5.cell? ⟨w2.heap.size, 0, none⟩ = some (.slice (some ⟨b2, 0, none⟩) 32 32) := by rw [hb5.cell (by simp; omega)]; exact he2
  have hf2' : w5.cell? ⟨w2.heap.size, 1, none⟩ = some (.slice none 0 0) := by rw [hb5.cell (by simp; omega)]; exact he2'
  have hz5 : w4.heap.size ≤ w5.heap.size := hb5.size
  have hbw5 : Below w.heap.size w w5 := hbw4.trans (hb5.mono hbw4.size)
  clear he1 he1' he2 he2' HM HR1d hb5 hbw4
  go_wp2_with fail
  refine (implShopOpen _).mono ?_
  rintro x w6 ⟨⟨b6, rfl, hlo6, hr6⟩, hb6⟩
  have HR6 : Hid (w6.rowIs b6 38 128 openF) := hr6
  have hlt6 := hr6.lt
  have HM6 : Hid (w6.rowIs b2 38 128 f ∧ Bare f ∧ Marked f 32) := ⟨HM5.out.1.of_block (hb6.block _ (by omega)), HM5.out.2⟩
  have HR1f : Hid (w6.rowIs b1 38 128 openF) := HR1e.out.of_block (hb6.block _ (by omega))
  have hg1 : w6.cell? ⟨w1.heap.size, 0, none⟩ = some (.slice (some ⟨b1, 0, none⟩) 32 32) := by rw [hb6.cell (by simp; omega)]; exact hf1
  have hg1' : w6.cell? ⟨w1.heap.size, 1, none⟩ = some (.slice none 0 0) := by rw [hb6.cell (by simp; omega)]; exact hf1'
  have hg2 : w6.cell? ⟨w2.heap.size, 0, none⟩ = some (.slice (some ⟨b2, 0, none⟩) 32 32) := by rw [hb6.cell (by simp; omega)]; exact hf2
  have hg2' : w6.cell? ⟨w2.heap.size, 1, none⟩ = some (.slice none 0 0) := by rw [hb6.cell (by simp; omega)]; exact hf2'
  have hz6 : w5.heap.size ≤ w6.heap.size := hb6.size
  have hbw6 : Below w.heap.size w w6 := hbw5.trans (hb6.mono hbw5.size)
  have k1 : w1.heap.size < w6.heap.size := by omega
  have k2 : w2.heap.size < w6.heap.size := by omega
  clear hf1 hf1' hf2 hf2' HM5 HR1e hb6 hbw5 hr6
  go_wp2_with fail
  have hA6 : Below w6.heap.size w6 (w6.alloc (Obj.cells #[.slice (some ⟨b6, 0, none⟩) 32 32, .slice none 0 0] 63)) := (Below.refl _ _).alloc (Nat.le_refl _) _
  refine (eqShop_same _ _ _ _ _ _ _ _ _ _ _ [] _ _ 0 0 _ _ 0 0 _ (Nat.le_refl _) (Nat.zero_le _) (Nat.le_refl _) (Nat.zero_le _) (open_objs_at (HR6.out.alloc _)) ⟨rfl, Nat.zero_le _, fun h => absurd rfl h⟩ (open_objs_at (HR1f.out.alloc _)) ⟨rfl, Nat.zero_le _, fun h => absurd rfl h⟩).mono ?_
  rintro x w7 ⟨rfl, hb7⟩
  have hb7' : Below w6.heap.size w6 w7 := hA6.trans (hb7.mono (by simp))
  have HM7 : Hid (w7.rowIs b2 38 128 f ∧ Bare f ∧ Marked f 32) := ⟨HM6.out.1.of_block (hb7'.block _ (by omega)), HM6.out.2⟩
  have hh2 : w7.cell? ⟨w2.heap.size, 0, none⟩ = some (.slice (some ⟨b2, 0, none⟩) 32 32) := by rw [hb7'.cell (by simpa using k2)]; exact hg2
  have hh2' : w7.cell? ⟨w2.heap.size, 1, none⟩ = some (.slice none 0 0) := by rw [hb7'.cell (by simpa using k2)]; exact hg2'
  have hbw7 : Below w.heap.size w w7 := hbw6.trans (hb7'.mono hbw6.size)
  clear hg1 hg1' hg2 hg2' hb7 hA6 hb7' HM6 HR1f HR6 hbw6
  go_wp2_with fail
  refine (heldShop_open b2 32 f _ HM7.out.1 HM7.out.2.1 HM7.out.2.2).mono ?_
  rintro x w8 ⟨rfl, hb8⟩
  have hbw8 : Below w.heap.size w w8 := hbw7.trans (hb8.mono hbw7.size)
  go_wp2_with fail
  go_ret
  exact ⟨rfl, hbw8⟩

namespace fnExactShopOpen
open Go.ChangeShapes Go.WideShapes Go.ChangeAt Go.RowKit
open Go.ChangeMaps (open_string shut_string)
set_option linter.unusedVariables false

theorem own : ownKnob Try.prog.godebug = none := by kernel_rfl

set_option maxRecDepth 100000 in
theorem lifted (os : Os) (started : os.Started) (H : Type) (enc : TypeId × Value → H) :
    ReturnsInHanded {} Try.checked os 6 .any (Rows.fnExactShopOpenSpec.pre6 enc Try.prog Try.f6 Rows.fnExactShopOpenRow.domain false) (Rows.fnExactShopOpenSpec.post enc Try.prog Try.f6 false true false false) := by
  refine returnsInHanded_of_change (C := Try.checked) own started (by kernel_rfl) Try.func6
    (ChangeSpec.witness6 (enc := enc) (C := Try.checked) false ⟨#[], #[], []⟩ 8 (by kernel_rfl) (by kernel_rfl) (by kernel_rfl) (by kernel_rfl)) ?_
  intro W base args ds gs before hval0 hW hcnd _
  have hval : ∀ (j : Nat) t v, Try.f6.params[j]? = some t → args[j]? = some v → Value.okWide Try.prog W .any base t v := hval0
  have hW' := hW
  obtain ⟨p, q, hA0, hV, rfl, hfz, hnd⟩ := hW
  have hA : DataW.TrodAll enc Try.prog W 0 (fun _ => true) true Try.f6.params.toList args.toList ds p := hA0
  rw [Try.params6] at hA hval
  obtain ⟨hargs, rfl, rfl⟩ := trodAll_nil hA
  obtain rfl : args = #[] := by cases args; simp_all
  obtain ⟨rfl, rfl⟩ := trodVars_none hV
  clear hA0 hval0
  refine (walkShopOpen W).mono fun e W' ⟨he, bel⟩ => ?_
  subst he
  exact ⟨_, rfl, _, _, _, [], _, [], hW', trodAll_mk1 (shut_bool Try.underlying4 _), (trodAll_mk0), rfl, bel.frame _, fun h => by cases h⟩

set_option maxHeartbeats 4000000 in
theorem closed : joinedFacts Try.prog 6 Try.f6 Rows.fnExactShopOpenSpec Rows.fnExactShopOpenRow = true := by
  refine closedOf rfl rfl rfl ?_ ?_ ?_ ?_ ?_ ?_ ?_ ?_ ?_ ?_ ?_ ?_ ?_ ?_ ?_ ?_ ?_ ?_ ?_ rfl rfl ?_ ?_ ?_
  all_goals (as_aux_lemma => kernel_rfl)

theorem over : Rows.fnExactShopOpenRow.holds Try.pinned (OpenSpec.ofChange Rows.fnExactShopOpenSpec) :=
  OpenClaim.holds_of_wide 6 Try.f6 rfl rfl rfl rfl rfl rfl rfl ⟨rfl, rfl, rfl, rfl, rfl⟩ rfl rfl rfl rfl rfl (by kernel_rfl) Try.func6 closed
    (of_decide_eq_true (by kernel_rfl)) (by unfold Func.isWrapper; first | (rw [if_pos (by decide +kernel)]; kernel_rfl) | (rw [if_neg (by decide +kernel)]; exact ⟨rfl, rfl⟩))
    (fun os started H enc _ => lifted os started H enc)
end fnExactShopOpen

theorem fnExactShopOpen_holds : Rows.FnExactShopOpenSaid := fnExactShopOpen.over
#print axioms fnExactShopOpen_holds
end Go.Proofs.Ytdjffkiiglilnaa
