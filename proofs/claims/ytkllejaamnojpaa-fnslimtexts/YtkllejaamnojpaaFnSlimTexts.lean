/-
  At every code the call of laws.FnSlimTexts returns true: of the list that is drawn by it the program leaves out the texts that the specification leaves out, each text that stands is the last of its file, and its file stays; nothing else is left out; the code reads behind the call as it did. No condition.
-/
import Derived.Test.YtkllejaamnojpaaLongAll
import Derived.Test.YtkllejaamnojpaaSlimI2
import Derived.Test.YtkllejaamnojpaaClosed
import Derived.ProofKit
import Derived.OpenShut
import Derived.ShutString
import Derived.ChangeOld
namespace Go.Proofs.Ytkllejaamnojpaa
open Go.RowKit

theorem take_snocY {α : Type} {l : List α} {j : Nat} {x : α} (h : l[j]? = some x) : l.take (j + 1) = l.take j ++ [x] := by
  have hj : j < l.length := (List.getElem?_eq_some_iff.1 h).1
  rw [List.take_succ_eq_append_getElem hj, (List.getElem?_eq_some_iff.1 h).2]
theorem nontexts_take {l : List LOp} {j : Nat} {x : LOp} (h : l[j]? = some x) : nontexts (l.take (j + 1)) = nontexts (l.take j) + (if (x.kind != 5) = true then 1 else 0) := by
  rw [take_snocY h]
  unfold nontexts
  rw [List.filter_append, List.length_append]
  cases hk : (x.kind != 5) <;> simp [hk]
theorem nontexts_le (l : List LOp) : nontexts l ≤ l.length := List.length_filter_le _ _
theorem nontexts_take_le (l : List LOp) (j : Nat) : nontexts (l.take j) ≤ nontexts l := by
  have : nontexts l = nontexts (l.take j) + nontexts (l.drop j) := by
    unfold nontexts
    rw [← List.length_append, ← List.filter_append, List.take_append_drop]
  omega

set_option maxHeartbeats 1000000 in
set_option maxRecDepth 20000 in
theorem walkSlimTextsL (a : Option Addr) (n c : Nat) (zs : List Int) (w : World) (hc : n ≤ c) (hcb : n ≤ maxLen) (H : BytesAt w w.heap.size a n zs) :
    Calls Try.prog 4 #[.slice a n c] w fun e w' => e = .returned (.bool true) ∧ Below w.heap.size w w' := by
  unfold maxLen at hcb
  by_cases hbig : 1048576 < n
  · go_enter Try.func4, Try.ntmps4
    go_wp2_with fail
    go_ret
    exact ⟨rfl, Below.refl _ _⟩
  go_enter Try.func4, Try.ntmps4
  go_wp2_with fail
  refine (drawTexts a n c zs w (by omega) hc H).mono ?_
  rintro e W1 ⟨⟨v, ops, rfl, ho, hl, hsm, hdn⟩, hb1⟩
  have HZ : Hid (∀ o ∈ ops, OpSz o) := fun o h => (hsm o h).sz
  obtain ⟨va, vc, rfl, hO⟩ := ho.at_ HZ.out
  have hcap : ops.length ≤ vc := ho.cap
  obtain ⟨s, hs⟩ : ∃ s, s = ifOk textsL ops := ⟨_, rfl⟩
  have HZS : Hid (∀ o ∈ s, OpSz o) := by rw [hs]; exact ifOk_sz (textsL_all ⟨HZ.out, Nat.le_refl _⟩)
  have hsle : s.length ≤ ops.length := by rw [hs]; exact ifOk_le textsL_le ops
  have HAG : Hid (ifOk textsL s = s) := by rw [hs]; exact ifOk_again textsL_le textsL_idem (fun l h => forms_texts h) ops
  have HP : Hid (∀ (i k : Nat) x y, i < k → s[i]? = some x → s[k]? = some y → x.kind = 5 → voids x.id y = false) := fun i k x y hik hx hy h5 => by
    rcases hf : formsB ops with _ | _
    · rw [hs, ifOk_no hf] at hx; simp at hx
    · have h1s : s = textsL ops := by rw [hs]; unfold ifOk; rw [hf]; rfl
      rw [h1s] at hx hy
      exact textsL_last ops i k x y hik hx hy h5
  have HNT : Hid (s.length ≠ 0 → nontexts ops = nontexts s) := fun hn => by
    rcases hf : formsB ops with _ | _
    · exact absurd (by rw [hs, ifOk_no hf]; rfl) hn
    · have h1s : s = textsL ops := by rw [hs]; unfold ifOk; rw [hf]; rfl
      rw [h1s, textsL_nontexts]
  clear hdn
  have HS : Hid (s = ifOk textsL ops) := hs
  clear ho hsm hs
  go_wp2_with fail
  refine (implSlimTexts _ _ _ ops _ _ _ hcap (Nat.le_refl _) hO).mono ?_
  rintro e W2 ⟨⟨v2, rfl, ho2⟩, hb2⟩
  rw [← HS.out] at ho2
  have HO2 : Hid (OwnOps W2 W1.heap.size v2 s) := ho2
  obtain ⟨a2, c2, rfl, hS2⟩ := ho2.at_ HZS.out
  have hcap2 : s.length ≤ c2 := HO2.out.cap
  have hB2 : Below w.heap.size w W2 := hb1.trans (hb2.mono hb1.size)
  have hO2 := hO.below hb2 (Nat.le_refl _)
  have hz12 := hb2.size
  clear ho2 hb2 hb1 hO
  go_wp2_with fail
  refine (specSlimTexts _ _ _ ops _ _ _ hz12 hO2).mono ?_
  rintro e W3 ⟨⟨v3, rfl, ho3⟩, hb3⟩
  rw [← HS.out] at ho3
  obtain ⟨a3, c3, rfl, hS3⟩ := ho3.at_ HZS.out
  have hB3 : Below w.heap.size w W3 := hB2.trans (hb3.mono hB2.size)
  have hS23 := hS2.below hb3 (Nat.le_refl _)
  have hO3 := hO2.below hb3 hz12
  have hz23 := hb3.size
  clear ho3 hb3 hB2 hS2 HO2 hO2
  go_wp2_with fail
  refine (sameOps _ _ _ _ _ _ s _ _ _ _ _ hS23 hS3).mono ?_
  rintro e W4 ⟨rfl, m4, rfl⟩
  by_cases h0 : s.length = 0
  · obtain rfl : s = [] := List.eq_nil_of_length_eq_zero h0
    clear h0
    go_wp2_with fail
    refine (specSlimTexts _ _ _ ops _ _ _ (by simp; omega) (hO3.drewN m4)).mono ?_
    rintro e W7 ⟨⟨v7, rfl, ho7⟩, hb7⟩
    rw [← HS.out] at ho7
    obtain ⟨a7, c7, rfl, hS7⟩ := ho7.at_ HZS.out
    have hS27 := (hS23.drewN m4).below hb7 (by simp; omega)
    have hB7 : Below w.heap.size w W7 := (hB3.trans ((Below.drewN W3 m4).mono hB3.size)).trans (hb7.mono (by have := hB3.size; simp; omega))
    clear ho7 hb7
    go_wp2_with fail
    refine (sameOps _ _ _ _ _ _ [] _ _ _ _ _ hS27 hS7).mono ?_
    rintro e W8 ⟨rfl, m8, rfl⟩
    go_wp2_with fail
    go_ret
    exact ⟨rfl, hB7.trans ((Below.drewN W7 m8).mono hB7.size)⟩
  have t0 : ((s.length : Int) == 0) = false := beq_eq_false_iff_ne.2 (by omega)
  have HN0 : Hid (nontexts ops = nontexts s) := HNT.out h0
  have HSS : Hid (OpsAt W3 W1.heap.size W2.heap.size a2 s.length s) := hS23
  have HOO : Hid (OpsAt W3 w.heap.size W1.heap.size va ops.length ops) := hO3
  have hl60 : s.length ≤ 60 := by omega
  clear hS23 hO3 hS3 HZ HNT
  go_wp2_with fail
  go_loopg [5, 6] ops.length (fun g o i wr => ∃ j : Nat, j ≤ ops.length ∧ Hid (g = ops.length - j) ∧ i = .int .i64 j ∧ (∃ z : Nat, o = .int .i64 z ∧ z ≤ 60 ∧ Hid (z = nontexts (ops.take j))) ∧ W3.drewN m4 = wr)
  case atStart => exact ⟨0, Nat.zero_le _, rfl, rfl, ⟨0, rfl, by omega, by show _ = _; simp [nontexts]⟩, rfl⟩
  case round =>
    obtain ⟨j, hj, hk, rfl, ⟨z, rfl, hz60, hz⟩, rfl⟩ := hrel
    by_cases hlt : j < ops.length
    · obtain ⟨b, off, ha, _, _, hcc⟩ := HOO.out.at_ (by omega)
      subst ha
      obtain ⟨x, hx, _, x0, _⟩ := hcc j hlt
      have HT := nontexts_take hx
      have hlt' : (j : Int) < (ops.length : Int) := by omega
      clear hx hcc
      rcases k5 : (x.kind != 5) with _ | _
      · rw [k5] at HT
        have HT2 : Hid (z = nontexts (ops.take (j + 1))) := by show _ = _; rw [HT]; simp; exact hz.out
        clear HT
        go_wp2_with fail
        go_roundg (ops.length - (j + 1))
        case measure => have := hk.out; omega
        case rel => exact ⟨j + 1, by omega, rfl, by go_num, ⟨z, rfl, hz60, HT2.out⟩, rfl⟩
      · rw [k5] at HT
        have HT2 : Hid (z + 1 = nontexts (ops.take (j + 1))) := by show _ = _; rw [HT]; simp; exact hz.out
        have hz59 : z + 1 ≤ 60 := by have h1 := HT2.out; have h2 := nontexts_le (ops.take (j + 1)); simp at h2; omega
        clear HT
        go_wp2_with fail
        go_roundg (ops.length - (j + 1))
        case measure => have := hk.out; omega
        case rel => exact ⟨j + 1, by omega, rfl, by go_num, ⟨z + 1, by go_num, hz59, HT2.out⟩, rfl⟩
    · have hlt' : ¬ (j : Int) < (ops.length : Int) := by omega
      have HZT : Hid (z = nontexts s) := by
        show _ = _
        rw [← HN0.out]
        have h1 := hz.out
        rwa [List.take_of_length_le (by omega)] at h1
      clear hz
      go_wp2_with fail
      go_loopg [5, 7] s.length (fun g o i wr => ∃ j : Nat, j ≤ s.length ∧ Hid (g = s.length - j) ∧ i = .int .i64 j ∧ (∃ z : Nat, o = .int .i64 z ∧ z ≤ 60 ∧ Hid (z + nontexts (s.take j) = nontexts s)) ∧ ∃ q, wr = W3.drewN q)
      case atStart => exact ⟨0, Nat.zero_le _, rfl, rfl, ⟨z, rfl, hz60, by show _ = _; simpa [nontexts] using HZT.out⟩, m4, rfl⟩
      case round =>
        clear HZT hz60 hlt hlt' hk hj
        obtain ⟨j, hj, hk, rfl, ⟨z, rfl, hz60, hz⟩, q, rfl⟩ := hrel
        by_cases hlt : j < s.length
        · obtain ⟨b, off, ha, _, _, hcc⟩ := HSS.out.at_ (by omega)
          subst ha
          obtain ⟨x, hx, _, x0, x1, x2, x3, x4, x5, x6⟩ := hcc j hlt
          have HT := nontexts_take hx
          have HX : Hid (s[j]? = some x) := hx
          have hlt' : (j : Int) < (s.length : Int) := by omega
          clear hx x1 x2 x3 x4 x6
          rcases k5 : (x.kind != 5) with _ | _
          · rw [k5] at HT
            have HT2 : Hid (z + nontexts (s.take (j + 1)) = nontexts s) := by show _ = _; rw [HT]; simpa using hz.out
            have hk5 : x.kind = 5 := by simpa using k5
            clear HT hcc
            go_wp2_with fail
            go_loopg [8] (s.length - (j + 1)) (fun g i wr => ∃ k : Nat, j < k ∧ k ≤ s.length ∧ Hid (g = s.length - k) ∧ i = .int .i64 k ∧ ∃ q, wr = W3.drewN q)
            case atStart => exact ⟨j + 1, by omega, by omega, rfl, by go_num, q, rfl⟩
            case round =>
              obtain ⟨k, hjk, hks, hkk, rfl, q2, rfl⟩ := hrel
              by_cases hlk : k < s.length
              · obtain ⟨b', off', ha', _, _, hcc'⟩ := HSS.out.at_ (by omega)
                simp only [Option.some.injEq, Addr.mk.injEq] at ha'
                obtain ⟨rfl, rfl, _⟩ := ha'
                obtain ⟨y, hy, _, y0, y1, y2, y3, y4, y5, y6⟩ := hcc' k hlk
                have hv := HP.out j k x y hjk HX.out hy hk5
                have hlk' : (k : Int) < (s.length : Int) := by omega
                clear hy hcc' y1 y2 y3 y4 y6
                rcases ki : (y.id == x.id) with _ | _
                · clear hv
                  go_wp2_with fail
                  go_quiet (fail)
                  go_wp2_with fail
                  go_roundg (s.length - (k + 1))
                  case measure => have := hkk.out; omega
                  case rel => exact ⟨k + 1, by omega, by omega, rfl, by go_num, _, rfl⟩
                · have hv2 : ((y.kind == 5) || (y.kind == 3)) = false := by
                    unfold voids at hv
                    rw [ki] at hv
                    simpa only [Bool.true_and] using hv
                  have k5y : (y.kind == 5) = false := (Bool.or_eq_false_iff.1 hv2).1
                  have k3y : (y.kind == 3) = false := (Bool.or_eq_false_iff.1 hv2).2
                  clear hv hv2
                  go_wp2_with fail
                  go_quiet (fail)
                  go_wp2_with fail
                  go_roundg (s.length - (k + 1))
                  case measure => have := hkk.out; omega
                  case rel => exact ⟨k + 1, by omega, by omega, rfl, by go_num, _, rfl⟩
              · have hlk' : ¬ (k : Int) < (s.length : Int) := by omega
                go_wp2_with fail
                go_roundg (s.length - (j + 1))
                case measure => have := hk.out; omega
                case rel => exact ⟨j + 1, by omega, rfl, by go_num, ⟨z, rfl, hz60, HT2.out⟩, q2, rfl⟩
          · rw [k5] at HT
            simp at HT
            have h1 := hz.out
            have h2 := nontexts_take_le s (j + 1)
            obtain ⟨z', rfl⟩ : ∃ z', z = z' + 1 := ⟨z - 1, by omega⟩
            have HT2 : Hid (z' + nontexts (s.take (j + 1)) = nontexts s) := by show _ = _; omega
            clear HT h1 h2 hcc
            go_wp2_with fail
            go_roundg (s.length - (j + 1))
            case measure => have := hk.out; omega
            case rel => exact ⟨j + 1, by omega, rfl, by go_num, ⟨z', by go_num, by omega, HT2.out⟩, q, rfl⟩
        · have hlt' : ¬ (j : Int) < (s.length : Int) := by omega
          have hz0 : z = 0 := by
            have h1 := hz.out
            rw [List.take_of_length_le (by omega)] at h1
            omega
          subst hz0
          go_wp2_with fail
          refine (implSlimTexts _ _ _ s _ _ _ hcap2 (by simp; omega) (HSS.out.drewN q)).mono ?_
          rintro e W5 ⟨⟨v5, rfl, ho5⟩, hb5⟩
          rw [HAG.out] at ho5
          obtain ⟨a5, c5, rfl, hS5⟩ := ho5.at_ HZS.out
          have hB5 : Below w.heap.size w W5 := (hB3.trans ((Below.drewN W3 q).mono hB3.size)).trans (hb5.mono (by have := hB3.size; simp; omega))
          have hS25 := (HSS.out.drewN q).below hb5 (by simp; omega)
          clear ho5 hb5
          go_wp2_with fail
          refine (sameOps _ _ _ _ _ _ s _ _ _ _ _ hS5 hS25).mono ?_
          rintro e W6 ⟨rfl, m6, rfl⟩
          go_wp2_with fail
          go_ret
          exact ⟨rfl, hB5.trans ((Below.drewN W5 m6).mono hB5.size)⟩

namespace fnSlimTexts
open Go.ChangeShapes Go.WideShapes Go.ChangeAt Go.RowKit
open Go.ChangeMaps (open_string shut_string)
set_option linter.unusedVariables false

theorem own : ownKnob Try.prog.godebug = none := by kernel_rfl

set_option maxRecDepth 100000 in
theorem lifted (os : Os) (started : os.Started) (H : Type) (enc : TypeId × Value → H) :
    ReturnsInHanded {} Try.checked os 4 .any (Rows.fnSlimTextsSpec.pre6 enc Try.prog Try.f4 Rows.fnSlimTextsRow.domain false) (Rows.fnSlimTextsSpec.post enc Try.prog Try.f4 false true false false) := by
  refine returnsInHanded_of_change (C := Try.checked) own started (by kernel_rfl) Try.func4
    (ChangeSpec.witness6 (enc := enc) (C := Try.checked) false ⟨#[], #[.slice none 0 0], []⟩ 8 (by kernel_rfl) (by kernel_rfl) (by kernel_rfl) (by kernel_rfl)) ?_
  intro W base args ds gs before hval0 hW hcnd _
  have hval : ∀ (j : Nat) t v, Try.f4.params[j]? = some t → args[j]? = some v → Value.okWide Try.prog W .any base t v := hval0
  have hW' := hW
  obtain ⟨p, q, hA0, hV, rfl, hfz, hnd⟩ := hW
  have hA : DataW.TrodAll enc Try.prog W 0 (fun _ => true) true Try.f4.params.toList args.toList ds p := hA0
  rw [Try.params4] at hA hval
  obtain ⟨v0, vs0, d0, ds0, p0, q0, hargs, rfl, rfl, h0, r0⟩ := trodAll_cons hA
  obtain ⟨rfl, rfl, rfl⟩ := trodAll_nil r0
  obtain rfl : args = #[v0] := by cases args; simp_all
  obtain ⟨rfl, rfl⟩ := trodVars_none hV
  have k0 := h0
  have lt0 : ∀ x ∈ p0, x.block < W.heap.size := by obtain ⟨m, hm⟩ := k0; exact DataW.trod_lt m _ _ _ hm
  obtain ⟨a0, n0, c0, z0, rfl, hnc0, hnm0, w0⟩ := open_bytes (hval 0 22 v0 rfl rfl) h0
  clear hA0 hval0
  refine (walkSlimTextsL a0 n0 c0 z0 W hnc0 hnm0 w0).mono fun e W' ⟨he, bel⟩ => ?_
  subst he
  exact ⟨_, rfl, _, _, _, [], _, [], hW', trodAll_mk1 (shut_bool Try.underlying4 _), (trodAll_cons_mk (Below.trod fLaid (by kernel_rfl) (of_decide_eq_true (by kernel_rfl)) k0 bel lt0) trodAll_mk0), rfl, bel.frame _, fun h => by cases h⟩

set_option maxHeartbeats 4000000 in
theorem closed : joinedFacts Try.prog 4 Try.f4 Rows.fnSlimTextsSpec Rows.fnSlimTextsRow = true := by
  refine closedOf rfl rfl rfl ?_ ?_ ?_ ?_ ?_ ?_ ?_ ?_ ?_ ?_ ?_ ?_ ?_ ?_ ?_ ?_ ?_ ?_ ?_ rfl rfl ?_ ?_ ?_
  all_goals (as_aux_lemma => kernel_rfl)

theorem over : Rows.fnSlimTextsRow.holds Try.pinned (OpenSpec.ofChange Rows.fnSlimTextsSpec) :=
  OpenClaim.holds_of_wide 4 Try.f4 rfl rfl rfl rfl rfl rfl rfl ⟨rfl, rfl, rfl, rfl, rfl⟩ rfl rfl rfl rfl rfl (by kernel_rfl) Try.func4 closed
    (of_decide_eq_true (by kernel_rfl)) (by unfold Func.isWrapper; first | (rw [if_pos (by decide +kernel)]; kernel_rfl) | (rw [if_neg (by decide +kernel)]; exact ⟨rfl, rfl⟩))
    (fun os started H enc _ => lifted os started H enc)
end fnSlimTexts

theorem fnSlimTexts_holds : Rows.FnSlimTextsSaid := fnSlimTexts.over
#print axioms fnSlimTexts_holds
end Go.Proofs.Ytkllejaamnojpaa
