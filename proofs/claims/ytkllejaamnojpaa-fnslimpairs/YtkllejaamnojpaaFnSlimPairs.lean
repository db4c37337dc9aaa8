/-
  At every code the call of laws.FnSlimPairs returns true: of the list that is drawn by it the program makes by its rule of pairs what the specification makes, once more is the same, and nothing that was made goes again right behind; the code reads behind the call as it did. No condition.
-/
import Derived.Test.YtkllejaamnojpaaLongAll
import Derived.Test.YtkllejaamnojpaaSlimI6
import Derived.Test.YtkllejaamnojpaaClosed
import Derived.ProofKit
import Derived.OpenShut
import Derived.ShutString
import Derived.ChangeOld
namespace Go.Proofs.Ytkllejaamnojpaa
open Go.RowKit
theorem drawPairs (a : Option Addr) (n c : Nat) (zs : List Int) (w : World) (hn : n ≤ 1048576) (hc : n ≤ c) (H : BytesAt w w.heap.size a n zs) :
    Calls Try.prog 27 #[.slice a n c] w fun e w' => DrawnL w e w' := by
  go_enter Try.func27, Try.ntmps27
  go_wp2_with fail
  refine (drawTexts a n c zs w hn hc H).mono ?_
  rintro e W1 ⟨⟨v, ops, rfl, h⟩, hb⟩
  go_wp2_with fail
  go_ret
  exact ⟨⟨v, ops, rfl, h⟩, hb⟩

set_option maxHeartbeats 1000000 in
set_option maxRecDepth 20000 in
theorem walkSlimPairsL (a : Option Addr) (n c : Nat) (zs : List Int) (w : World) (hc : n ≤ c) (hcb : n ≤ maxLen) (H : BytesAt w w.heap.size a n zs) :
    Calls Try.prog 5 #[.slice a n c] w fun e w' => e = .returned (.bool true) ∧ Below w.heap.size w w' := by
  unfold maxLen at hcb
  by_cases hbig : 1048576 < n
  · go_enter Try.func5, Try.ntmps5
    go_wp2_with fail
    go_ret
    exact ⟨rfl, Below.refl _ _⟩
  go_enter Try.func5, Try.ntmps5
  go_wp2_with fail
  refine (drawPairs a n c zs w (by omega) hc H).mono ?_
  rintro e W1 ⟨⟨v, ops, rfl, ho, hl, hsm, hdn⟩, hb1⟩
  have HZ : Hid (∀ o ∈ ops, OpSz o) := fun o h => (hsm o h).sz
  obtain ⟨va, vc, rfl, hO⟩ := ho.at_ HZ.out
  have hcap : ops.length ≤ vc := ho.cap
  obtain ⟨s, hs⟩ : ∃ s, s = ifOk pairsL ops := ⟨_, rfl⟩
  have HZS : Hid (∀ o ∈ s, OpSz o) := by rw [hs]; exact ifOk_sz (pairsL_all ⟨HZ.out, Nat.le_refl _⟩)
  have hsle : s.length ≤ ops.length := by rw [hs]; exact ifOk_le pairsL_le ops
  have HAG : Hid (ifOk pairsL s = s) := by rw [hs]; exact ifOk_again pairsL_le pairsL_idem (fun l h => forms_pairs h) ops
  have HP : Hid (∀ (i : Nat) x y, s[i]? = some x → s[i + 1]? = some y → x.kind = 1 → y.kind = 3 → y.id = x.id → False) := fun i x y hx hy h1 h3 hid => by
    rcases hf : formsB ops with _ | _
    · rw [hs, ifOk_no hf] at hx; simp at hx
    · have h1s : s = pairsL ops := by rw [hs]; unfold ifOk; rw [hf]; rfl
      have hd : DoneOp y := (pairsL_all (P := DoneOp) (m := ops.length) ⟨hdn hf, Nat.le_refl _⟩).1 y (by rw [← h1s]; exact List.mem_of_getElem? hy)
      have hg := goes_next hx hy h1 h3 hid (hd.2.2 h3)
      have hg2 := pairsL_goes ops i (by rw [← h1s]; exact (List.getElem?_eq_some_iff.1 hx).1)
      rw [← h1s] at hg2
      omega
  clear hdn
  have HS : Hid (s = ifOk pairsL ops) := hs
  clear ho hsm hs
  go_wp2_with fail
  refine (implSlimPairs _ _ _ ops _ _ _ (Nat.le_refl _) hO).mono ?_
  rintro e W2 ⟨⟨v2, rfl, ho2⟩, hb2⟩
  rw [← HS.out] at ho2
  have HO2 : Hid (OwnOps W2 W1.heap.size v2 s) := ho2
  obtain ⟨a2, c2, rfl, hS2⟩ := ho2.at_ HZS.out
  have hcap2 : s.length ≤ c2 := HO2.out.cap
  have hB2 : Below w.heap.size w W2 := hb1.trans (hb2.mono hb1.size)
  have hO2 := hO.below hb2 (Nat.le_refl _)
  have hz12 := hb2.size
  clear ho2 hb2 hb1 hO
  go_wp2_with fail
  refine (specSlimPairs _ _ _ ops _ _ _ hz12 hO2).mono ?_
  rintro e W3 ⟨⟨v3, rfl, ho3⟩, hb3⟩
  rw [← HS.out] at ho3
  obtain ⟨a3, c3, rfl, hS3⟩ := ho3.at_ HZS.out
  have hB3 : Below w.heap.size w W3 := hB2.trans (hb3.mono hB2.size)
  have hS23 := hS2.below hb3 (Nat.le_refl _)
  have hO3 := hO2.below hb3 hz12
  have hz23 := hb3.size
  clear ho3 hb3 hB2 hS2 HO2 hO2
  go_wp2_with fail
  refine (sameOps _ _ _ _ _ _ s _ _ _ _ _ hS23 hS3).mono ?_
  rintro e W4 ⟨rfl, m4, rfl⟩
  go_wp2_with fail
  refine (implSlimPairs _ _ _ s _ _ _ (by simp; omega) (hS23.drewN m4)).mono ?_
  rintro e W5 ⟨⟨v5, rfl, ho5⟩, hb5⟩
  rw [HAG.out] at ho5
  obtain ⟨a5, c5, rfl, hS5⟩ := ho5.at_ HZS.out
  have hB5 : Below w.heap.size w W5 := (hB3.trans ((Below.drewN W3 m4).mono hB3.size)).trans (hb5.mono (by have := hB3.size; simp; omega))
  have hS25 := (hS23.drewN m4).below hb5 (by simp; omega)
  have hz35 : W3.heap.size ≤ W5.heap.size := by have := hb5.size; simpa using this
  clear ho5 hb5 hB3 hS23 hS3 hO3
  go_wp2_with fail
  refine (sameOps _ _ _ _ _ _ s _ _ _ _ _ hS5 hS25).mono ?_
  rintro e W6 ⟨rfl, m6, rfl⟩
  have hgt : ¬ (ops.length : Int) < (s.length : Int) := by omega
  have HS6 : Hid (OpsAt W5 W1.heap.size W2.heap.size a2 s.length s) := hS25
  clear hS25 hS5 HAG HZ
  go_wp2_with fail
  go_loopg [5] s.length (fun g i wr => ∃ j : Nat, j ≤ s.length ∧ Hid (g = s.length - j) ∧ i = .int .i64 j ∧ ∃ q, wr = W5.drewN q)
  case atStart => exact ⟨0, Nat.zero_le _, rfl, rfl, m6, rfl⟩
  case round =>
    obtain ⟨j, hj, hk, rfl, q, rfl⟩ := hrel
    by_cases hlt : j + 1 < s.length
    · obtain ⟨b, off, ha, _, _, hcc⟩ := HS6.out.at_ (by omega)
      subst ha
      obtain ⟨x, hx, _, x0, x1, x2, x3, x4, x5, x6⟩ := hcc j (by omega)
      obtain ⟨y, hy, _, y0, y1, y2, y3, y4, y5, y6⟩ := hcc (j + 1) hlt
      have HN : Hid (x.kind = 1 → y.kind = 3 → y.id = x.id → False) := HP.out j x y hx hy
      have hlt' : (j : Int) + 1 < (s.length : Int) := by omega
      have hlt2 : (j : Int) < (s.length : Int) := by omega
      clear hx hy hcc x1 x2 x3 x4 x6 y1 y2 y3 y4 y6
      rcases k1 : (x.kind == 1) with _ | _
      · go_wp2_with fail
        go_quiet (fail)
        go_wp2_with fail
        go_roundg (s.length - (j + 1))
        case measure => have := hk.out; omega
        case rel => exact ⟨j + 1, by omega, rfl, by go_num, _, rfl⟩
      rcases k3 : (y.kind == 3) with _ | _
      · go_wp2_with fail
        go_quiet (fail)
        go_wp2_with fail
        go_roundg (s.length - (j + 1))
        case measure => have := hk.out; omega
        case rel => exact ⟨j + 1, by omega, rfl, by go_num, _, rfl⟩
      have ki : (y.id == x.id) = false := by
        rw [beq_eq_false_iff_ne]
        exact fun h => HN.out (by simpa using k1) (by simpa using k3) h
      go_wp2_with fail
      go_quiet (fail)
      go_wp2_with fail
      go_roundg (s.length - (j + 1))
      case measure => have := hk.out; omega
      case rel => exact ⟨j + 1, by omega, rfl, by go_num, _, rfl⟩
    · have hlt' : ¬ (j : Int) + 1 < (s.length : Int) := by omega
      go_wp2_with fail
      go_ret
      exact ⟨rfl, hB5.trans ((Below.drewN W5 q).mono hB5.size)⟩

namespace fnSlimPairs
open Go.ChangeShapes Go.WideShapes Go.ChangeAt Go.RowKit
open Go.ChangeMaps (open_string shut_string)
set_option linter.unusedVariables false

theorem own : ownKnob Try.prog.godebug = none := by kernel_rfl

set_option maxRecDepth 100000 in
theorem lifted (os : Os) (started : os.Started) (H : Type) (enc : TypeId × Value → H) :
    ReturnsInHanded {} Try.checked os 5 .any (Rows.fnSlimPairsSpec.pre6 enc Try.prog Try.f5 Rows.fnSlimPairsRow.domain false) (Rows.fnSlimPairsSpec.post enc Try.prog Try.f5 false true false false) := by
  refine returnsInHanded_of_change (C := Try.checked) own started (by kernel_rfl) Try.func5
    (ChangeSpec.witness6 (enc := enc) (C := Try.checked) false ⟨#[], #[.slice none 0 0], []⟩ 8 (by kernel_rfl) (by kernel_rfl) (by kernel_rfl) (by kernel_rfl)) ?_
  intro W base args ds gs before hval0 hW hcnd _
  have hval : ∀ (j : Nat) t v, Try.f5.params[j]? = some t → args[j]? = some v → Value.okWide Try.prog W .any base t v := hval0
  have hW' := hW
  obtain ⟨p, q, hA0, hV, rfl, hfz, hnd⟩ := hW
  have hA : DataW.TrodAll enc Try.prog W 0 (fun _ => true) true Try.f5.params.toList args.toList ds p := hA0
  rw [Try.params5] at hA hval
  obtain ⟨v0, vs0, d0, ds0, p0, q0, hargs, rfl, rfl, h0, r0⟩ := trodAll_cons hA
  obtain ⟨rfl, rfl, rfl⟩ := trodAll_nil r0
  obtain rfl : args = #[v0] := by cases args; simp_all
  obtain ⟨rfl, rfl⟩ := trodVars_none hV
  have k0 := h0
  have lt0 : ∀ x ∈ p0, x.block < W.heap.size := by obtain ⟨m, hm⟩ := k0; exact DataW.trod_lt m _ _ _ hm
  obtain ⟨a0, n0, c0, z0, rfl, hnc0, hnm0, w0⟩ := open_bytes (hval 0 22 v0 rfl rfl) h0
  clear hA0 hval0
  refine (walkSlimPairsL a0 n0 c0 z0 W hnc0 hnm0 w0).mono fun e W' ⟨he, bel⟩ => ?_
  subst he
  exact ⟨_, rfl, _, _, _, [], _, [], hW', trodAll_mk1 (shut_bool Try.underlying4 _), (trodAll_cons_mk (Below.trod fLaid (by kernel_rfl) (of_decide_eq_true (by kernel_rfl)) k0 bel lt0) trodAll_mk0), rfl, bel.frame _, fun h => by cases h⟩

set_option maxHeartbeats 4000000 in
theorem closed : joinedFacts Try.prog 5 Try.f5 Rows.fnSlimPairsSpec Rows.fnSlimPairsRow = true := by
  refine closedOf rfl rfl rfl ?_ ?_ ?_ ?_ ?_ ?_ ?_ ?_ ?_ ?_ ?_ ?_ ?_ ?_ ?_ ?_ ?_ ?_ ?_ rfl rfl ?_ ?_ ?_
  all_goals (as_aux_lemma => kernel_rfl)

theorem over : Rows.fnSlimPairsRow.holds Try.pinned (OpenSpec.ofChange Rows.fnSlimPairsSpec) :=
  OpenClaim.holds_of_wide 5 Try.f5 rfl rfl rfl rfl rfl rfl rfl ⟨rfl, rfl, rfl, rfl, rfl⟩ rfl rfl rfl rfl rfl (by kernel_rfl) Try.func5 closed
    (of_decide_eq_true (by kernel_rfl)) (by unfold Func.isWrapper; first | (rw [if_pos (by decide +kernel)]; kernel_rfl) | (rw [if_neg (by decide +kernel)]; exact ⟨rfl, rfl⟩))
    (fun os started H enc _ => lifted os started H enc)
end fnSlimPairs

theorem fnSlimPairs_holds : Rows.FnSlimPairsSaid := fnSlimPairs.over
#print axioms fnSlimPairs_holds
end Go.Proofs.Ytkllejaamnojpaa
