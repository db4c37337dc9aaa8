/-
  At every thing that is done the call of laws.FnExactOpIds returns true: the program's OpIds answers as the specification's; its answer is in memory of its own, also behind another call; its argument reads behind the call as it did. No condition.
-/
import Derived.Test.YtjenldenggaljaaIntS
import Derived.Test.YtjenldenggaljaaWorn
import Derived.Test.YtjenldenggaljaaExactOpOk
namespace Go.Proofs.Ytjenldenggaljaa
open Go.RowKit

theorem IntRow.below {w w' : World} {B : Nat} {a : Option Addr} {n g cap : Nat} {f : Nat → Value} (h : IntRow w B a n g cap f) (hb : Below w.heap.size w w') : IntRow w' B a n g cap f := fun hn => by
  obtain ⟨h1, h2, h3, h4⟩ := h hn
  exact ⟨h1, h2, h3, h4.of_block (hb.block _ h4.lt)⟩
theorem IntRow.but {w w' : World} {B g1 : Nat} {a : Option Addr} {n g cap : Nat} {f : Nat → Value} (h : IntRow w B a n g cap f) (hb : But g1 w w') (hne : n ≠ 0 → g < w.heap.size → g ≠ g1) : IntRow w' B a n g cap f := fun hn => by
  obtain ⟨h1, h2, h3, h4⟩ := h hn
  exact ⟨h1, h2, h3, h4.of_block (hb.block _ (hne hn h4.lt) h4.lt)⟩
theorem OneOp.but {w wx wy : World} {g1 : Nat} {o : LOp} (h : OneOp w wx o) (k : But g1 wx wy) (hg : w.heap.size < g1) : OneOp w wy o := by
  have hc : ∀ i, wy.cell? ⟨w.heap.size, i, none⟩ = wx.cell? ⟨w.heap.size, i, none⟩ := fun i => k.cell (by simp; omega) h.size
  exact ⟨h.below.trans (k.below.mono (by omega)), by have := k.below.size; have := h.size; omega, by rw [hc]; exact h.c0, by rw [hc]; exact h.c1, by rw [hc]; exact h.c2, by rw [hc]; exact h.c3, by rw [hc]; exact h.c4, by rw [hc]; exact h.c5, by rw [hc]; exact h.c6⟩

set_option maxHeartbeats 1000000 in
theorem walkOpIds (o : LOp) (hs : OpSz o) (w : World) : Calls Try.prog 20 #[.agg o.val] w fun e w' => e = .returned (.bool true) ∧ Below w.heap.size w w' := by
  have HSZ := fun l w h0 h1 => szOp_any o l w h0 h1 hs
  have HTO := toOp_any o
  have HSP := fun w => opIds_any o w hs.name hs.name2 hs.text
  have HIM := fun w => implOpIds o w hs
  have HB := OneOp.box w o 62
  have hle := opIds_le o
  obtain ⟨l, hl⟩ : ∃ l, l = opIds o := ⟨_, rfl⟩
  rw [← hl] at HSP HIM hle
  clear hl
  simp only [LOp.val] at *
  go_enter Try.func20, Try.ntmps20
  go_wp2_with fail
  refine (HSZ _ _ (by omega) (by omega)).mono ?_
  rintro x w1 ⟨⟨r, rfl, _⟩, hb1⟩
  have h1 := HB.next hb1
  clear HB hb1
  by_cases hneg : r < 0
  · go_wp2_with fail
    go_ret
    exact ⟨rfl, h1.below⟩
  obtain ⟨c0, c1, c2, c3, c4, c5, c6⟩ := (⟨h1.c0, h1.c1, h1.c2, h1.c3, h1.c4, h1.c5, h1.c6⟩ : _ ∧ _ ∧ _ ∧ _ ∧ _ ∧ _ ∧ _)
  have hz1 := h1.size
  go_wp2_with fail
  refine (HTO _).mono ?_
  rintro x w2 ⟨rfl, hb2⟩
  have h2 := h1.next hb2
  clear h1 hb2 c0 c1 c2 c3 c4 c5 c6 hz1
  go_wp2_with fail
  refine (HSP _).mono ?_
  rintro x w3 ⟨⟨v0, rfl, hv0⟩, hb3⟩
  have h3 := h2.next hb3
  obtain ⟨a0, k0, g0, cap0, f0, rfl, hg0, hr0, hf0⟩ := hv0.out.row
  have R0 : Hid (IntRow w3 w2.heap.size a0 l.length g0 cap0 f0) := hr0
  have F0 : Hid (∀ i k, l[i]? = some k → f0 i = .int .i64 (k : Nat)) := hf0
  clear hv0 hr0 hf0 hb3 h2
  obtain ⟨c0, c1, c2, c3, c4, c5, c6⟩ := (⟨h3.c0, h3.c1, h3.c2, h3.c3, h3.c4, h3.c5, h3.c6⟩ : _ ∧ _ ∧ _ ∧ _ ∧ _ ∧ _ ∧ _)
  have hz3 := h3.size
  go_wp2_with fail
  refine (HTO _).mono ?_
  rintro x w4 ⟨rfl, hb4⟩
  have h4 := h3.next hb4
  have R04 : Hid (IntRow w4 w2.heap.size a0 l.length g0 cap0 f0) := R0.out.below hb4
  clear h3 hb4 c0 c1 c2 c3 c4 c5 c6 hz3 R0
  go_wp2_with fail
  refine (HIM _).mono ?_
  rintro x w5 ⟨⟨v1, rfl, hv1⟩, hb5⟩
  have h5 := h4.next hb5
  obtain ⟨a1, k1, g1, cap1, f1, rfl, hg1, hr1, hf1⟩ := hv1.out.row
  have R1 : Hid (IntRow w5 w4.heap.size a1 l.length g1 cap1 f1) := hr1
  have F1 : Hid (∀ i k, l[i]? = some k → f1 i = .int .i64 (k : Nat)) := hf1
  have R05 : Hid (IntRow w5 w2.heap.size a0 l.length g0 cap0 f0) := R04.out.below hb5
  have hg01 : l.length ≠ 0 → g0 ≠ g1 := fun hn => by
    obtain ⟨_, _, _, k4⟩ := R04.out hn
    have := k4.lt
    omega
  have hzg : w.heap.size < g1 := by have := h4.size; omega
  clear hv1 hr1 hf1 hb5 h4 R04
  go_wp2_with fail
  refine (eqIntS_same _ _ _ _ _ _ _ _ _ _ _ _ _ l _ rfl (by omega) R1.out R05.out F1.out F0.out).mono ?_
  rintro x w6 ⟨rfl, hb6⟩
  have h6 := h5.next hb6
  have R06 : Hid (IntRow w6 w2.heap.size a0 l.length g0 cap0 f0) := R05.out.below hb6
  have R16 : Hid (IntRow w6 w4.heap.size a1 l.length g1 cap1 f1) := R1.out.below hb6
  clear hb6 h5 R05 R1
  go_wp2_with fail
  refine (markIntS_any _ _ _ _ _ _ _ l _ rfl (by omega) R16.out F1.out).mono ?_
  rintro x w7 ⟨rfl, ⟨f7, hr7⟩, hb7⟩
  have h7 := h6.but hb7 hzg
  have R07 : Hid (IntRow w7 w2.heap.size a0 l.length g0 cap0 f0) := R06.out.but hb7 (fun hn _ => hg01 hn)
  clear hb7 h6 R06 R16 F1
  go_wp2_with fail
  refine (heldIntS_any _ _ _ _ _ _ f7 _ (by omega) hr7.out.1 hr7.out.2).mono ?_
  rintro x w8 ⟨rfl, rfl⟩
  obtain ⟨c0, c1, c2, c3, c4, c5, c6⟩ := (⟨h7.c0, h7.c1, h7.c2, h7.c3, h7.c4, h7.c5, h7.c6⟩ : _ ∧ _ ∧ _ ∧ _ ∧ _ ∧ _ ∧ _)
  have hz7 := h7.size
  go_wp2_with fail
  refine (HTO _).mono ?_
  rintro x w9 ⟨rfl, hb9⟩
  have h9 := h7.next hb9
  have R09 : Hid (IntRow w9 w2.heap.size a0 l.length g0 cap0 f0) := R07.out.below hb9
  have R19 : Hid (IntRow w9 w4.heap.size a1 l.length g1 cap1 f7) := hr7.out.1.below hb9
  clear h7 hb9 c0 c1 c2 c3 c4 c5 c6 hz7 R07
  go_wp2_with fail
  refine (HIM _).mono ?_
  rintro x wa ⟨⟨v2, rfl, hv2⟩, hba⟩
  have ha := h9.next hba
  obtain ⟨a2, k2, g2, cap2, f2, rfl, hg2, hr2, hf2⟩ := hv2.out.row
  have R2 : Hid (IntRow wa w9.heap.size a2 l.length g2 cap2 f2) := hr2
  have F2 : Hid (∀ i k, l[i]? = some k → f2 i = .int .i64 (k : Nat)) := hf2
  have R0a : Hid (IntRow wa w2.heap.size a0 l.length g0 cap0 f0) := R09.out.below hba
  have R1a : Hid (IntRow wa w4.heap.size a1 l.length g1 cap1 f7) := R19.out.below hba
  clear hv2 hr2 hf2 hba h9 R09 R19
  go_wp2_with fail
  refine (eqIntS_same _ _ _ _ _ _ _ _ _ _ _ _ _ l _ rfl (by omega) R2.out R0a.out F2.out F0.out).mono ?_
  rintro x wb ⟨rfl, hbb⟩
  have hb := ha.next hbb
  have R1b : Hid (IntRow wb w4.heap.size a1 l.length g1 cap1 f7) := R1a.out.below hbb
  clear hbb ha R0a R1a R2
  go_wp2_with fail
  refine (heldIntS_any _ _ _ _ _ _ f7 _ (by omega) R1b.out hr7.out.2).mono ?_
  rintro x wd ⟨rfl, rfl⟩
  go_wp2_with fail
  go_ret
  exact ⟨rfl, hb.below⟩

namespace fnExactOpIds
open Go.ChangeShapes Go.WideShapes Go.ChangeAt Go.RowKit
open Go.ChangeMaps (open_string shut_string)
set_option linter.unusedVariables false

theorem own : ownKnob Try.prog.godebug = none := by kernel_rfl

set_option maxRecDepth 100000 in
theorem lifted (os : Os) (started : os.Started) (H : Type) (enc : TypeId × Value → H) :
    ReturnsInHanded {} Try.checked os 20 .any (Rows.fnExactOpIdsSpec.pre6 enc Try.prog Try.f20 Rows.fnExactOpIdsRow.domain false) (Rows.fnExactOpIdsSpec.post enc Try.prog Try.f20 false true false false) := by
  refine returnsInHanded_of_change (C := Try.checked) own started (by kernel_rfl) Try.func20
    (ChangeSpec.witness6 (enc := enc) (C := Try.checked) false ⟨#[], #[.agg #[.int .i64 0, .int .i64 0, .string ByteArray.empty, .int .i64 0, .string ByteArray.empty, .int .i64 0, .string ByteArray.empty]], []⟩ 8 (by kernel_rfl) (by kernel_rfl) (by kernel_rfl) (by kernel_rfl)) ?_
  intro W base args ds gs before hval0 hW hcnd _
  have hval : ∀ (j : Nat) t v, Try.f20.params[j]? = some t → args[j]? = some v → Value.okWide Try.prog W .any base t v := hval0
  have hW' := hW
  obtain ⟨p, q, hA0, hV, rfl, hfz, hnd⟩ := hW
  have hA : DataW.TrodAll enc Try.prog W 0 (fun _ => true) true Try.f20.params.toList args.toList ds p := hA0
  rw [Try.params20] at hA hval
  obtain ⟨v0, vs0, d0, ds0, p0, q0, hargs, rfl, rfl, h0, r0⟩ := trodAll_cons hA
  obtain ⟨rfl, rfl, rfl⟩ := trodAll_nil r0
  obtain rfl : args = #[v0] := by cases args; simp_all
  obtain ⟨rfl, rfl⟩ := trodVars_none hV
  have k0 := h0
  have lt0 : ∀ x ∈ p0, x.block < W.heap.size := by obtain ⟨m, hm⟩ := k0; exact DataW.trod_lt m _ _ _ hm
  obtain ⟨o0, rfl, w0⟩ := open_op (hval 0 62 v0 rfl rfl) h0
  clear hA0 hval0
  refine (walkOpIds o0 w0 W).mono fun e W' ⟨he, bel⟩ => ?_
  subst he
  exact ⟨_, rfl, _, _, _, [], _, [], hW', trodAll_mk1 (shut_bool Try.underlying4 _), (trodAll_cons_mk (Below.trod fLaid (by kernel_rfl) (of_decide_eq_true (by kernel_rfl)) k0 bel lt0) trodAll_mk0), rfl, bel.frame _, fun h => by cases h⟩

set_option maxHeartbeats 4000000 in
theorem closed : joinedFacts Try.prog 20 Try.f20 Rows.fnExactOpIdsSpec Rows.fnExactOpIdsRow = true := by
  refine closedOf rfl rfl rfl ?_ ?_ ?_ ?_ ?_ ?_ ?_ ?_ ?_ ?_ ?_ ?_ ?_ ?_ ?_ ?_ ?_ ?_ ?_ rfl rfl ?_ ?_ ?_
  all_goals (as_aux_lemma => kernel_rfl)

theorem over : Rows.fnExactOpIdsRow.holds Try.pinned (OpenSpec.ofChange Rows.fnExactOpIdsSpec) :=
  OpenClaim.holds_of_wide 20 Try.f20 rfl rfl rfl rfl rfl rfl rfl ⟨rfl, rfl, rfl, rfl, rfl⟩ rfl rfl rfl rfl rfl (by kernel_rfl) Try.func20 closed
    (of_decide_eq_true (by kernel_rfl)) (by unfold Func.isWrapper; first | (rw [if_pos (by decide +kernel)]; kernel_rfl) | (rw [if_neg (by decide +kernel)]; exact ⟨rfl, rfl⟩))
    (fun os started H enc _ => lifted os started H enc)
end fnExactOpIds

theorem fnExactOpIds_holds : Rows.FnExactOpIdsSaid := fnExactOpIds.over
#print axioms fnExactOpIds_holds
end Go.Proofs.Ytjenldenggaljaa
