/-
  At every code the call of laws.FnSlimMoves returns true: of the list that is drawn by it the program makes by its rule of moves what the specification makes, once more is the same, and no two that stand together move one thing on; the code reads behind the call as it did. No condition.
-/
import Derived.Test.YtkllejaamnojpaaLongAll
import Derived.Test.YtkllejaamnojpaaSlimI13
import Derived.Test.YtkllejaamnojpaaClosed
import Derived.ProofKit
import Derived.OpenShut
import Derived.ShutString
import Derived.ChangeOld
namespace Go.Proofs.Ytkllejaamnojpaa
open Go.RowKit
theorem drawMoves (a : Option Addr) (n c : Nat) (zs : List Int) (w : World) (hn : n ≤ 1048576) (hc : n ≤ c) (H : BytesAt w w.heap.size a n zs) :
    Calls Try.prog 28 #[.slice a n c] w fun e w' => DrawnL w e w' := by
  go_enter Try.func28, Try.ntmps28
  go_wp2_with fail
  refine (drawTexts a n c zs w hn hc H).mono ?_
  rintro e W1 ⟨⟨v, ops, rfl, h⟩, hb⟩
  go_wp2_with fail
  go_ret
  exact ⟨⟨v, ops, rfl, h⟩, hb⟩

set_option maxHeartbeats 1000000 in
set_option maxRecDepth 20000 in
theorem walkSlimMovesL (a : Option Addr) (n c : Nat) (zs : List Int) (w : World) (hc : n ≤ c) (hcb : n ≤ maxLen) (H : BytesAt w w.heap.size a n zs) :
    Calls Try.prog 6 #[.slice a n c] w fun e w' => e = .returned (.bool true) ∧ Below w.heap.size w w' := by
  unfold maxLen at hcb
  by_cases hbig : 1048576 < n
  · go_enter Try.func6, Try.ntmps6
    go_wp2_with fail
    go_ret
    exact ⟨rfl, Below.refl _ _⟩
  go_enter Try.func6, Try.ntmps6
  go_wp2_with fail
  refine (drawMoves a n c zs w (by omega) hc H).mono ?_
  rintro e W1 ⟨⟨v, ops, rfl, ho, hl, hsm, hdn⟩, hb1⟩
  have HZ : Hid (∀ o ∈ ops, OpSz o) := fun o h => (hsm o h).sz
  obtain ⟨va, vc, rfl, hO⟩ := ho.at_ HZ.out
  have hcap : ops.length ≤ vc := ho.cap
  obtain ⟨s, hs⟩ : ∃ s, s = ifOk movesL ops := ⟨_, rfl⟩
  have HZS : Hid (∀ o ∈ s, OpSz o) := by rw [hs]; exact ifOk_sz (movesL_all sz_keeps ⟨HZ.out, Nat.le_refl _⟩)
  have hsle : s.length ≤ ops.length := by rw [hs]; exact ifOk_le movesL_le ops
  have HAG : Hid (ifOk movesL s = s) := by rw [hs]; exact ifOk_again movesL_le movesL_idem (fun l h => forms_moves h) ops
  have HP : Hid (∀ (i : Nat) x y, s[i]? = some x → s[i + 1]? = some y → joinsB x y = false) := fun i x y hx hy => by
    rcases hf : formsB ops with _ | _
    · rw [hs, ifOk_no hf] at hx; simp at hx
    · have h1s : s = movesL ops := by rw [hs]; unfold ifOk; rw [hf]; rfl
      rw [h1s] at hx hy
      exact movesL_joins ops i x y hx hy
  clear hdn
  have HS : Hid (s = ifOk movesL ops) := hs
  clear ho hsm hs
  go_wp2_with fail
  refine (implSlimMoves _ _ _ ops _ _ _ (Nat.le_refl _) hO).mono ?_
  rintro e W2 ⟨⟨v2, rfl, ho2⟩, hb2⟩
  rw [← HS.out] at ho2
  have HO2 : Hid (OwnOps W2 W1.heap.size v2 s) := ho2
  obtain ⟨a2, c2, rfl, hS2⟩ := ho2.at_ HZS.out
  have hcap2 : s.length ≤ c2 := HO2.out.cap
  have hB2 : Below w.heap.size w W2 := hb1.trans (hb2.mono hb1.size)
  have hO2 := hO.below hb2 (Nat.le_refl _)
  have hz12 := hb2.size
  clear ho2 hb2 hb1 hO
  go_wp2_with fail
  refine (specSlimMoves _ _ _ ops _ _ _ hz12 hO2).mono ?_
  rintro e W3 ⟨⟨v3, rfl, ho3⟩, hb3⟩
  rw [← HS.out] at ho3
  obtain ⟨a3, c3, rfl, hS3⟩ := ho3.at_ HZS.out
  have hB3 : Below w.heap.size w W3 := hB2.trans (hb3.mono hB2.size)
  have hS23 := hS2.below hb3 (Nat.le_refl _)
  have hO3 := hO2.below hb3 hz12
  have hz23 := hb3.size
  clear ho3 hb3 hB2 hS2 HO2 hO2
  go_wp2_with fail
  refine (sameOps _ _ _ _ _ _ s _ _ _ _ _ hS23 hS3).mono ?_
  rintro e W4 ⟨rfl, m4, rfl⟩
  go_wp2_with fail
  refine (implSlimMoves _ _ _ s _ _ _ (by simp; omega) (hS23.drewN m4)).mono ?_
  rintro e W5 ⟨⟨v5, rfl, ho5⟩, hb5⟩
  rw [HAG.out] at ho5
  obtain ⟨a5, c5, rfl, hS5⟩ := ho5.at_ HZS.out
  have hB5 : Below w.heap.size w W5 := (hB3.trans ((Below.drewN W3 m4).mono hB3.size)).trans (hb5.mono (by have := hB3.size; simp; omega))
  have hS25 := (hS23.drewN m4).below hb5 (by simp; omega)
  have hz35 : W3.heap.size ≤ W5.heap.size := by have := hb5.size; simpa using this
  clear ho5 hb5 hB3 hS23 hS3 hO3
  go_wp2_with fail
  refine (sameOps _ _ _ _ _ _ s _ _ _ _ _ hS5 hS25).mono ?_
  rintro e W6 ⟨rfl, m6, rfl⟩
  have hgt : ¬ (ops.length : Int) < (s.length : Int) := by omega
  have HS6 : Hid (OpsAt W5 W1.heap.size W2.heap.size a2 s.length s) := hS25
  clear hS25 hS5 HAG HZ
  go_wp2_with fail
  go_loopg [5] s.length (fun g i wr => ∃ j : Nat, j ≤ s.length ∧ Hid (g = s.length - j) ∧ i = .int .i64 j ∧ Below W5.heap.size W5 wr)
  case atStart => exact ⟨0, Nat.zero_le _, rfl, rfl, Below.drewN W5 m6⟩
  case round =>
    obtain ⟨j, hj, hk, rfl, hb⟩ := hrel
    have hzw := hb.size
    by_cases hlt : j + 1 < s.length
    · obtain ⟨b, off, ha, _, hbU, hcc⟩ := HS6.out.at_ (by omega)
      subst ha
      obtain ⟨x, hx, _, hxa⟩ := hcc j (by omega)
      obtain ⟨y, hy, _, hya⟩ := hcc (j + 1) hlt
      have HN : Hid (joinsB x y = false) := HP.out j x y hx hy
      have hlt' : (j : Int) + 1 < (s.length : Int) := by omega
      have hlt2 : (j : Int) < (s.length : Int) := by omega
      obtain ⟨x0, x1, x2, x3, x4, x5, x6⟩ := hxa.of_block (hb.block b (by omega))
      obtain ⟨y0, y1, y2, y3, y4, y5, y6⟩ := (hya.of_block (hb.block b (by omega))).of_block (((Below.refl wr.heap.size wr).alloc (Nat.le_refl _) (Obj.cells #[.int .i64 x.kind, .int .i64 x.dir, .string x.name, .int .i64 x.dir2, .string x.name2, .int .i64 x.id, .string x.text] 30)).block b (by omega))
      have hrel9 : ∀ o1 o2 : Obj, Below W5.heap.size W5 ((wr.alloc o1).alloc o2) := fun o1 o2 => (hb.alloc hb.size _).alloc (by simp; omega) _
      clear hx hy hcc hxa hya
      have HC : (x.kind == 4) = false ∨ ((x.kind == 4) = true ∧ (y.kind == 4) = false) ∨ ((x.kind == 4) = true ∧ (y.kind == 4) = true ∧ (x.id == y.id) = false) ∨ ((x.kind == 4) = true ∧ (y.kind == 4) = true ∧ (x.id == y.id) = true ∧ (y.dir == x.dir2) = false) ∨ ((x.kind == 4) = true ∧ (y.kind == 4) = true ∧ (x.id == y.id) = true ∧ (y.dir == x.dir2) = true ∧ (y.name.toList == x.name2.toList) = false) := by
        have h := HN.out
        cases k1 : (x.kind == 4) <;> cases k2 : (y.kind == 4) <;> cases k3 : (x.id == y.id) <;> cases k4 : (y.dir == x.dir2) <;> cases k5 : (y.name.toList == x.name2.toList) <;> simp
        have hk1 : x.kind = 4 := by simpa using k1
        have hm : makesB x = false := by simp [makesB, hk1]
        simp [joinsB, k1, k2, k3, k4, k5, hm] at h
      rcases HC with k1 | ⟨k1, k2⟩ | ⟨k1, k2, k3⟩ | ⟨k1, k2, k3, k4⟩ | ⟨k1, k2, k3, k4, k5⟩
      all_goals
        go_wp2_with fail
        go_roundg (s.length - (j + 1))
        case measure => have := hk.out; omega
        case rel => exact ⟨j + 1, by omega, rfl, by go_num, hrel9 _ _⟩
    · have hlt' : ¬ (j : Int) + 1 < (s.length : Int) := by omega
      go_wp2_with fail
      go_ret
      exact ⟨rfl, hB5.trans (hb.mono hB5.size)⟩

namespace fnSlimMoves
open Go.ChangeShapes Go.WideShapes Go.ChangeAt Go.RowKit
open Go.ChangeMaps (open_string shut_string)
set_option linter.unusedVariables false

theorem own : ownKnob Try.prog.godebug = none := by kernel_rfl

set_option maxRecDepth 100000 in
theorem lifted (os : Os) (started : os.Started) (H : Type) (enc : TypeId × Value → H) :
    ReturnsInHanded {} Try.checked os 6 .any (Rows.fnSlimMovesSpec.pre6 enc Try.prog Try.f6 Rows.fnSlimMovesRow.domain false) (Rows.fnSlimMovesSpec.post enc Try.prog Try.f6 false true false false) := by
  refine returnsInHanded_of_change (C := Try.checked) own started (by kernel_rfl) Try.func6
    (ChangeSpec.witness6 (enc := enc) (C := Try.checked) false ⟨#[], #[.slice none 0 0], []⟩ 8 (by kernel_rfl) (by kernel_rfl) (by kernel_rfl) (by kernel_rfl)) ?_
  intro W base args ds gs before hval0 hW hcnd _
  have hval : ∀ (j : Nat) t v, Try.f6.params[j]? = some t → args[j]? = some v → Value.okWide Try.prog W .any base t v := hval0
  have hW' := hW
  obtain ⟨p, q, hA0, hV, rfl, hfz, hnd⟩ := hW
  have hA : DataW.TrodAll enc Try.prog W 0 (fun _ => true) true Try.f6.params.toList args.toList ds p := hA0
  rw [Try.params6] at hA hval
  obtain ⟨v0, vs0, d0, ds0, p0, q0, hargs, rfl, rfl, h0, r0⟩ := trodAll_cons hA
  obtain ⟨rfl, rfl, rfl⟩ := trodAll_nil r0
  obtain rfl : args = #[v0] := by cases args; simp_all
  obtain ⟨rfl, rfl⟩ := trodVars_none hV
  have k0 := h0
  have lt0 : ∀ x ∈ p0, x.block < W.heap.size := by obtain ⟨m, hm⟩ := k0; exact DataW.trod_lt m _ _ _ hm
  obtain ⟨a0, n0, c0, z0, rfl, hnc0, hnm0, w0⟩ := open_bytes (hval 0 22 v0 rfl rfl) h0
  clear hA0 hval0
  refine (walkSlimMovesL a0 n0 c0 z0 W hnc0 hnm0 w0).mono fun e W' ⟨he, bel⟩ => ?_
  subst he
  exact ⟨_, rfl, _, _, _, [], _, [], hW', trodAll_mk1 (shut_bool Try.underlying4 _), (trodAll_cons_mk (Below.trod fLaid (by kernel_rfl) (of_decide_eq_true (by kernel_rfl)) k0 bel lt0) trodAll_mk0), rfl, bel.frame _, fun h => by cases h⟩

set_option maxHeartbeats 4000000 in
theorem closed : joinedFacts Try.prog 6 Try.f6 Rows.fnSlimMovesSpec Rows.fnSlimMovesRow = true := by
  refine closedOf rfl rfl rfl ?_ ?_ ?_ ?_ ?_ ?_ ?_ ?_ ?_ ?_ ?_ ?_ ?_ ?_ ?_ ?_ ?_ ?_ ?_ rfl rfl ?_ ?_ ?_
  all_goals (as_aux_lemma => kernel_rfl)

theorem over : Rows.fnSlimMovesRow.holds Try.pinned (OpenSpec.ofChange Rows.fnSlimMovesSpec) :=
  OpenClaim.holds_of_wide 6 Try.f6 rfl rfl rfl rfl rfl rfl rfl ⟨rfl, rfl, rfl, rfl, rfl⟩ rfl rfl rfl rfl rfl (by kernel_rfl) Try.func6 closed
    (of_decide_eq_true (by kernel_rfl)) (by unfold Func.isWrapper; first | (rw [if_pos (by decide +kernel)]; kernel_rfl) | (rw [if_neg (by decide +kernel)]; exact ⟨rfl, rfl⟩))
    (fun os started H enc _ => lifted os started H enc)
end fnSlimMoves

theorem fnSlimMoves_holds : Rows.FnSlimMovesSaid := fnSlimMoves.over
#print axioms fnSlimMoves_holds
end Go.Proofs.Ytkllejaamnojpaa
