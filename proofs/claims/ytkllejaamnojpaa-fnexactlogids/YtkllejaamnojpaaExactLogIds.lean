/-
  At every list of what is done the call of laws.FnExactLogIds returns true: the program's LogIds answers as the specification's, writes into no argument, and its answer owns its memory, behind another call too; its argument reads behind the call as it did. No condition.
-/
import Derived.Test.YtkllejaamnojpaaLogJ
import Derived.Test.YtkllejaamnojpaaIntS
import Derived.Test.YtkllejaamnojpaaSlimX
import Derived.Test.YtkllejaamnojpaaClosed
import Derived.ProofKit
import Derived.OpenShut
import Derived.ShutString
import Derived.ChangeOld
namespace Go.Proofs.Ytkllejaamnojpaa
open Go.RowKit

theorem IntRow.next {w w' : World} {B : Nat} {a : Option Addr} {n g cap : Nat} {f : Nat → Value} (h : IntRow w B a n g cap f) (hb : Below w.heap.size w w') : IntRow w' B a n g cap f := fun hn => by
  obtain ⟨h1, h2, h3, h4⟩ := h hn
  exact ⟨h1, h2, h3, h4.of_block (hb.block _ h4.lt)⟩
theorem IntRow.but {w w' : World} {B g1 : Nat} {a : Option Addr} {n g cap : Nat} {f : Nat → Value} (h : IntRow w B a n g cap f) (hb : But g1 w w') (hne : n ≠ 0 → g ≠ g1) : IntRow w' B a n g cap f := fun hn => by
  obtain ⟨h1, h2, h3, h4⟩ := h hn
  exact ⟨h1, h2, h3, h4.of_block (hb.block _ (hne hn) h4.lt)⟩
/-- The numbers l, as an answer. -/
def Nums (f : Nat → Value) (l : List Nat) : Prop := ∀ i k, l[i]? = some k → f i = .int .i64 (k : Nat)

set_option maxHeartbeats 2000000 in
theorem walkLogIds (a : Option Addr) (n c : Nat) (ops : List LOp) (w : World) (H : OpsAt w 0 w.heap.size a n ops) :
    Calls Try.prog 14 #[.slice a n c] w fun e w' => e = .returned (.bool true) ∧ Below w.heap.size w w' := by
  obtain ⟨l, hl⟩ : ∃ l, l = logIds ops := ⟨_, rfl⟩
  have hle : l.length ≤ 32 := by rw [hl]; exact logIds_le _
  have HSP := fun (a : Option Addr) (n c L U : Nat) (w : World) h1 h2 => specLogIds a n c ops L U w h1 h2
  have HIM := fun (a : Option Addr) (n c L U : Nat) (w : World) h1 h2 h3 h4 => implLogIds a n c ops L U w h1 h2 h3 h4
  rw [← hl] at HSP HIM
  clear hl
  go_enter Try.func14, Try.ntmps14
  go_wp2_with fail
  refine (szOpS_any _ _ _ _ 0 w.heap.size _ _ (by omega) (by omega) (Nat.le_refl _) H).mono ?_
  rintro x w1 ⟨⟨r, rfl, hr⟩, hb1⟩
  have HR : Hid (r = -1 ∨ 0 ≤ r ∧ r = 1048576 - n - totOps ops) := hr
  clear hr
  by_cases hneg : r < 0
  · go_wp2_with fail
    go_ret
    exact ⟨rfl, hb1⟩
  have hn1 : n ≤ 1048576 := by have := HR.out; omega
  clear HR
  go_wp2_with fail
  refine (toOpS_any _ _ _ _ 0 w.heap.size _ hn1 hb1.size (H.below hb1 (Nat.le_refl _))).mono ?_
  rintro x w2 ⟨⟨b2, rfl, h2⟩, hb2⟩
  have hc2 : Below w.heap.size w w2 := hb1.trans (hb2.mono hb1.size)
  clear hb2 hb1
  go_wp2_with fail
  refine (HSP _ _ _ _ _ _ (Nat.le_refl _) h2).mono ?_
  rintro x w3 ⟨⟨v3, rfl, hv3⟩, hb3⟩
  have hc3 : Below w.heap.size w w3 := hc2.trans (hb3.mono hc2.size)
  obtain ⟨a3, k3, g3, cap3, f3, rfl, hg3, hr3, hf3⟩ := hv3.out.row
  have R3 : Hid (IntRow w3 w2.heap.size a3 l.length g3 cap3 f3) := hr3
  have F3 : Hid (Nums f3 l) := hf3
  have L3 : Hid (l.length ≠ 0 → g3 < w3.heap.size) := fun hn => (hr3 hn).2.2.2.lt
  have hz23 := hb3.size
  clear hb3 h2 hv3 hr3 hf3
  go_wp2_with fail
  refine (toOpS_row _ _ _ _ 0 w.heap.size _ hn1 hc3.size (H.below hc3 (Nat.le_refl _))).mono ?_
  rintro x w4 ⟨⟨b4, f4, rfl, hlo4, hhi4, hrow4, hcel4, h4⟩, hb4⟩
  have hc4 : Below w.heap.size w w4 := hc3.trans (hb4.mono hc3.size)
  have R4 : Hid (IntRow w4 w2.heap.size a3 l.length g3 cap3 f3) := R3.out.next hb4
  have hz34 := hb4.size
  have HROW4 : Hid (w4.rowIs b4 30 (n * 7) f4 ∧ ∀ i, i < n → OpCell f4 i) := ⟨hrow4, hcel4⟩
  have N4 : Hid (l.length ≠ 0 → g3 ≠ b4) := fun hn => by have := L3.out hn; omega
  clear hb4 R3 hrow4 hcel4
  go_wp2_with fail
  refine (HIM _ _ _ _ _ _ (Nat.le_refl _) (Nat.le_refl _) (by unfold maxLen; omega) h4).mono ?_
  rintro x w5 ⟨⟨v5, rfl, hv5⟩, hb5⟩
  have hc5 : Below w.heap.size w w5 := hc4.trans (hb5.mono hc4.size)
  have R5 : Hid (IntRow w5 w2.heap.size a3 l.length g3 cap3 f3) := R4.out.next hb5
  obtain ⟨a5, k5, g5, cap5, f5, rfl, hg5, hr5, hf5⟩ := hv5.out.row
  have S5 : Hid (IntRow w5 w4.heap.size a5 l.length g5 cap5 f5) := hr5
  have F5 : Hid (Nums f5 l) := hf5
  have N5 : Hid (l.length ≠ 0 → g3 ≠ g5) := fun hn => by have := L3.out hn; omega
  have h45 := h4.below hb5 (Nat.le_refl _)
  have HROW5 : Hid (w5.rowIs b4 30 (n * 7) f4 ∧ ∀ i, i < n → OpCell f4 i) := ⟨HROW4.out.1.of_block (hb5.block b4 hhi4), HROW4.out.2⟩
  have hz45 := hb5.size
  clear hb5 R4 h4 HROW4 hv5 hr5 hf5
  go_wp2_with fail
  refine (eqIntS_same _ _ _ _ _ _ _ _ _ _ _ _ _ l _ rfl (by omega) S5.out R5.out F5.out F3.out).mono ?_
  rintro x w6 ⟨rfl, hb6⟩
  have hc6 : Below w.heap.size w w6 := hc5.trans (hb6.mono hc5.size)
  have R6 : Hid (IntRow w6 w2.heap.size a3 l.length g3 cap3 f3) := R5.out.next hb6
  have S6 : Hid (IntRow w6 w4.heap.size a5 l.length g5 cap5 f5) := S5.out.next hb6
  have h46 := h45.below hb6 (by omega)
  have HROW6 : Hid (w6.rowIs b4 30 (n * 7) f4 ∧ ∀ i, i < n → OpCell f4 i) := ⟨HROW5.out.1.of_block (hb6.block b4 (by omega)), HROW5.out.2⟩
  have hz56 := hb6.size
  clear hb6 R5 S5 h45 HROW5
  go_wp2_with fail
  refine (toOpS_any _ _ _ _ 0 w.heap.size _ hn1 hc6.size (H.below hc6 (Nat.le_refl _))).mono ?_
  rintro x w7 ⟨⟨b7, rfl, h7⟩, hb7⟩
  have hc7 : Below w.heap.size w w7 := hc6.trans (hb7.mono hc6.size)
  have R7 : Hid (IntRow w7 w2.heap.size a3 l.length g3 cap3 f3) := R6.out.next hb7
  have S7 : Hid (IntRow w7 w4.heap.size a5 l.length g5 cap5 f5) := S6.out.next hb7
  have h47 := h46.below hb7 (by omega)
  have HROW7 : Hid (w7.rowIs b4 30 (n * 7) f4 ∧ ∀ i, i < n → OpCell f4 i) := ⟨HROW6.out.1.of_block (hb7.block b4 (by omega)), HROW6.out.2⟩
  have hz67 := hb7.size
  clear hb7 R6 S6 h46 HROW6
  go_wp2_with fail
  refine (eqOpS_same _ _ _ _ _ _ _ _ _ _ _ (by omega) (Nat.le_refl _) h47 h7).mono ?_
  rintro x w8 ⟨rfl, hb8⟩
  have hc8 : Below w.heap.size w w8 := hc7.trans (hb8.mono hc7.size)
  have R8 : Hid (IntRow w8 w2.heap.size a3 l.length g3 cap3 f3) := R7.out.next hb8
  have S8 : Hid (IntRow w8 w4.heap.size a5 l.length g5 cap5 f5) := S7.out.next hb8
  have HROW8 : Hid (w8.rowIs b4 30 (n * 7) f4 ∧ ∀ i, i < n → OpCell f4 i) := ⟨HROW7.out.1.of_block (hb8.block b4 (by omega)), HROW7.out.2⟩
  have hz78 := hb8.size
  clear hb8 R7 S7 h47 h7 HROW7
  go_wp2_with fail
  refine (markOpS_any _ n n b4 n 0 f4 _ hn1 (fun _ => ⟨rfl, Nat.zero_le _, Nat.le_refl _, HROW8.out.1⟩) HROW8.out.2).mono ?_
  rintro x w9 ⟨rfl, _, hb9⟩
  have hc9 : Below w.heap.size w w9 := But.under hc8 hb9 (by have := hc3.size; omega)
  have R9 : Hid (IntRow w9 w2.heap.size a3 l.length g3 cap3 f3) := R8.out.but hb9 N4.out
  have S9 : Hid (IntRow w9 w4.heap.size a5 l.length g5 cap5 f5) := S8.out.but hb9 (fun _ => by omega)
  have hz89 := hb9.below.size
  have hk9 : ¬ ((7 * n + 1 : Nat) : Int) < 0 := by omega
  clear hb9 R8 S8 HROW8 hc8
  go_wp2_with fail
  refine (eqIntS_same _ _ _ _ _ _ _ _ _ _ _ _ _ l _ rfl (by omega) S9.out R9.out F5.out F3.out).mono ?_
  rintro x w10 ⟨rfl, hb10⟩
  have hc10 : Below w.heap.size w w10 := hc9.trans (hb10.mono hc9.size)
  have R10 : Hid (IntRow w10 w2.heap.size a3 l.length g3 cap3 f3) := R9.out.next hb10
  have S10 : Hid (IntRow w10 w4.heap.size a5 l.length g5 cap5 f5) := S9.out.next hb10
  have hz910 := hb10.size
  clear hb10 R9 S9 hc9
  go_wp2_with fail
  refine (markIntS_any _ _ _ _ _ _ _ l _ rfl (by omega) S10.out F5.out).mono ?_
  rintro x w11 ⟨rfl, ⟨f11, HM11⟩, hb11⟩
  have hc11 : Below w.heap.size w w11 := But.under hc10 hb11 (by have := hc4.size; omega)
  have R11 : Hid (IntRow w11 w2.heap.size a3 l.length g3 cap3 f3) := R10.out.but hb11 N5.out
  have hz1011 := hb11.below.size
  clear hb11 R10 S10 hc10
  go_wp2_with fail
  refine (heldIntS_any _ _ _ _ _ _ f11 _ (by omega) HM11.out.1 HM11.out.2).mono ?_
  rintro x w12 ⟨rfl, rfl⟩
  have hk12 : ¬ ((l.length + 1 : Nat) : Int) < 0 := by omega
  have hm12 : (((l.length + 1 : Nat) : Int) != ((l.length + 1 : Nat) : Int)) = false := by simp
  go_wp2_with fail
  refine (toOpS_any _ _ _ _ 0 w.heap.size _ hn1 hc11.size (H.below hc11 (Nat.le_refl _))).mono ?_
  rintro x w13 ⟨⟨b13, rfl, h13⟩, hb13⟩
  have hc13 : Below w.heap.size w w13 := hc11.trans (hb13.mono hc11.size)
  have R13 : Hid (IntRow w13 w2.heap.size a3 l.length g3 cap3 f3) := R11.out.next hb13
  have HM13 : Hid (IntRow w13 w4.heap.size a5 l.length g5 cap5 f11 ∧ ∀ i, i < l.length → f11 i = .int .i64 ((i + 1 : Nat) : Int)) := ⟨HM11.out.1.next hb13, HM11.out.2⟩
  have hz1213 := hb13.size
  clear hb13 R11 HM11 hc11
  go_wp2_with fail
  refine (HIM _ _ _ _ _ _ (Nat.le_refl _) (Nat.le_refl _) (by unfold maxLen; omega) h13).mono ?_
  rintro x w14 ⟨⟨v14, rfl, hv14⟩, hb14⟩
  have hc14 : Below w.heap.size w w14 := hc13.trans (hb14.mono hc13.size)
  have R14 : Hid (IntRow w14 w2.heap.size a3 l.length g3 cap3 f3) := R13.out.next hb14
  have HM14 : Hid (IntRow w14 w4.heap.size a5 l.length g5 cap5 f11 ∧ ∀ i, i < l.length → f11 i = .int .i64 ((i + 1 : Nat) : Int)) := ⟨HM13.out.1.next hb14, HM13.out.2⟩
  obtain ⟨a14, k14, g14, cap14, f14, rfl, hg14, hr14, hf14⟩ := hv14.out.row
  have S14 : Hid (IntRow w14 w13.heap.size a14 l.length g14 cap14 f14) := hr14
  have F14 : Hid (Nums f14 l) := hf14
  clear hb14 R13 HM13 hc13 hv14 hr14 hf14 h13
  go_wp2_with fail
  refine (eqIntS_same _ _ _ _ _ _ _ _ _ _ _ _ _ l _ rfl (by omega) S14.out R14.out F14.out F3.out).mono ?_
  rintro x w15 ⟨rfl, hb15⟩
  have hc15 : Below w.heap.size w w15 := hc14.trans (hb15.mono hc14.size)
  have HM15 : Hid (IntRow w15 w4.heap.size a5 l.length g5 cap5 f11 ∧ ∀ i, i < l.length → f11 i = .int .i64 ((i + 1 : Nat) : Int)) := ⟨HM14.out.1.next hb15, HM14.out.2⟩
  clear hb15 R14 S14 HM14 hc14
  go_wp2_with fail
  refine (heldIntS_any _ _ _ _ _ _ f11 _ (by omega) HM15.out.1 HM15.out.2).mono ?_
  rintro x w16 ⟨rfl, rfl⟩
  go_wp2_with fail
  go_ret
  exact ⟨rfl, hc15⟩

namespace fnExactLogIds
open Go.ChangeShapes Go.WideShapes Go.ChangeAt Go.RowKit
open Go.ChangeMaps (open_string shut_string)
set_option linter.unusedVariables false

theorem own : ownKnob Try.prog.godebug = none := by kernel_rfl

set_option maxRecDepth 100000 in
theorem lifted (os : Os) (started : os.Started) (H : Type) (enc : TypeId × Value → H) :
    ReturnsInHanded {} Try.checked os 14 .any (Rows.fnExactLogIdsSpec.pre6 enc Try.prog Try.f14 Rows.fnExactLogIdsRow.domain false) (Rows.fnExactLogIdsSpec.post enc Try.prog Try.f14 false true false false) := by
  refine returnsInHanded_of_change (C := Try.checked) own started (by kernel_rfl) Try.func14
    (ChangeSpec.witness6 (enc := enc) (C := Try.checked) false ⟨#[], #[.slice none 0 0], []⟩ 8 (by kernel_rfl) (by kernel_rfl) (by kernel_rfl) (by kernel_rfl)) ?_
  intro W base args ds gs before hval0 hW hcnd _
  have hval : ∀ (j : Nat) t v, Try.f14.params[j]? = some t → args[j]? = some v → Value.okWide Try.prog W .any base t v := hval0
  have hW' := hW
  obtain ⟨p, q, hA0, hV, rfl, hfz, hnd⟩ := hW
  have hA : DataW.TrodAll enc Try.prog W 0 (fun _ => true) true Try.f14.params.toList args.toList ds p := hA0
  rw [Try.params14] at hA hval
  obtain ⟨v0, vs0, d0, ds0, p0, q0, hargs, rfl, rfl, h0, r0⟩ := trodAll_cons hA
  obtain ⟨rfl, rfl, rfl⟩ := trodAll_nil r0
  obtain rfl : args = #[v0] := by cases args; simp_all
  obtain ⟨rfl, rfl⟩ := trodVars_none hV
  have k0 := h0
  have lt0 : ∀ x ∈ p0, x.block < W.heap.size := by obtain ⟨m, hm⟩ := k0; exact DataW.trod_lt m _ _ _ hm
  obtain ⟨x0, y0, z0, rfl⟩ := okWide_slice Try.underlying59 (hval 0 59 v0 rfl rfl)
  obtain ⟨a0, n0, c0, o0, e0, w0⟩ := open_ops h0 rfl
  cases e0
  clear hA0 hval0
  refine (walkLogIds _ _ _ o0 _ w0).mono fun e W' ⟨he, bel⟩ => ?_
  subst he
  exact ⟨_, rfl, _, _, _, [], _, [], hW', trodAll_mk1 (shut_bool Try.underlying4 _), (trodAll_cons_mk (Below.trod fLaid (by kernel_rfl) (of_decide_eq_true (by kernel_rfl)) k0 bel lt0) trodAll_mk0), rfl, bel.frame _, fun h => by cases h⟩

set_option maxHeartbeats 4000000 in
theorem closed : joinedFacts Try.prog 14 Try.f14 Rows.fnExactLogIdsSpec Rows.fnExactLogIdsRow = true := by
  refine closedOf rfl rfl rfl ?_ ?_ ?_ ?_ ?_ ?_ ?_ ?_ ?_ ?_ ?_ ?_ ?_ ?_ ?_ ?_ ?_ ?_ ?_ rfl rfl ?_ ?_ ?_
  all_goals (as_aux_lemma => kernel_rfl)

theorem over : Rows.fnExactLogIdsRow.holds Try.pinned (OpenSpec.ofChange Rows.fnExactLogIdsSpec) :=
  OpenClaim.holds_of_wide 14 Try.f14 rfl rfl rfl rfl rfl rfl rfl ⟨rfl, rfl, rfl, rfl, rfl⟩ rfl rfl rfl rfl rfl (by kernel_rfl) Try.func14 closed
    (of_decide_eq_true (by kernel_rfl)) (by unfold Func.isWrapper; first | (rw [if_pos (by decide +kernel)]; kernel_rfl) | (rw [if_neg (by decide +kernel)]; exact ⟨rfl, rfl⟩))
    (fun os started H enc _ => lifted os started H enc)
end fnExactLogIds

theorem fnExactLogIds_holds : Rows.FnExactLogIdsSaid := fnExactLogIds.over
#print axioms fnExactLogIds_holds
end Go.Proofs.Ytkllejaamnojpaa
