import Derived.Test.YtkllejaamnojpaaSlimS4
/- Lists that are made shorter: the specification, whole. -/
namespace Go.Proofs.Ytkllejaamnojpaa
open Go.RowKit

theorem OwnOps.base {w : World} {B B' : Nat} {v : Value} {l : List LOp} (h : OwnOps w B v l) (hB : B' ≤ B) : OwnOps w B' v l :=
  ⟨h.1, by
    rcases h.2 with h | ⟨g, cap, cu, h1, h2, h3⟩
    · exact .inl h
    · exact .inr ⟨g, cap, cu, h1, by omega, h3⟩⟩
theorem slimStep_none {cur : List LOp} (h : (stepL cur).length = cur.length) : slimStep cur = none := by
  unfold slimStep; rw [if_neg (by omega)]
theorem slimStep_some {cur : List LOp} (h : (stepL cur).length ≠ cur.length) : slimStep cur = some (stepL cur) := by
  unfold slimStep; rw [if_pos (by have := stepL_le cur; omega)]

set_option maxHeartbeats 1000000 in
theorem slim_any (a : Option Addr) (n c : Nat) (ops : List LOp) (L U : Nat) (w : World) (hn : n ≤ 1000) (hU : U ≤ w.heap.size) (H : OpsAt w L U a n ops) :
    Calls Try.prog 63 #[.slice a n c] w (SlimEnd w (slimL ops)) := by
  have hlen : Hid (n = ops.length) := H.len
  go_enter Try.func63, Try.ntmps63
  go_wp2_with fail
  go_loopg [0] n (fun g v wr => ∃ (a' : Option Addr) (n' c' : Nat) (cur : List LOp), v = .slice a' n' c' ∧ n' ≤ n ∧ Hid (g = n') ∧ Hid (OpsAt wr 0 wr.heap.size a' n' cur) ∧ Hid (fixL slimStep cur = fixL slimStep ops) ∧ Below w.heap.size w wr)
  case atStart => exact ⟨a, n, c, ops, rfl, Nat.le_refl _, rfl, H.wide (Nat.zero_le _) hU, rfl, Below.refl _ _⟩
  case round =>
    obtain ⟨a', n', c', cur, rfl, hcn, hk, HA, hfx, hb⟩ := hrel
    have HL : Hid (n' = cur.length) := HA.out.len
    have HSZ : Hid (∀ o ∈ cur, OpSz o) := HA.out.sz
    go_wp2_with fail
    refine (texts_any a' n' c' cur _ _ _ (by omega) (Nat.le_refl _) HA.out).mono ?_
    rintro e w1 ⟨⟨v1, rfl, ho1⟩, hb1⟩
    have hA1 := textsL_all (P := OpSz) (m := cur.length) ⟨HSZ.out, Nat.le_refl _⟩
    obtain ⟨a1, c1, rfl, HA1⟩ := ho1.at_ hA1.1
    go_wp2_with fail
    refine (pairs_any a1 _ c1 (textsL cur) _ _ _ (by have := hA1.2; have := HL.out; omega) (Nat.le_refl _) HA1).mono ?_
    rintro e w2 ⟨⟨v2, rfl, ho2⟩, hb2⟩
    have hA2 := pairsL_all hA1
    obtain ⟨a2, c2, rfl, HA2⟩ := ho2.at_ hA2.1
    go_wp2_with fail
    refine (l4moves_any a2 _ c2 (pairsL (textsL cur)) _ _ _ (by have := hA2.2; have := HL.out; omega) (Nat.le_refl _) HA2).mono ?_
    rintro e w3 ⟨⟨v3, rfl, ho3⟩, hb3⟩
    have hA3 : AllL OpSz cur.length (stepL cur) := movesL_all sz_keeps hA2
    have hbb : Below w.heap.size w w3 := ((hb.trans (hb1.mono hb.size)).trans (hb2.mono (by have := hb.size; have := hb1.size; omega))).trans (hb3.mono (by have := hb.size; have := hb1.size; have := hb2.size; omega))
    have HO3 : Hid (OwnOps w3 w.heap.size v3 (stepL cur)) := ho3.base (by have := hb.size; have := hb1.size; have := hb2.size; omega)
    obtain ⟨a3, c3, rfl, HA3⟩ := HO3.out.at_ hA3.1
    have HA3' : Hid (OpsAt w3 0 w3.heap.size a3 (stepL cur).length (stepL cur)) := HA3.wide (Nat.zero_le _) (Nat.le_refl _)
    have hle : (stepL cur).length ≤ n' := by have := HL.out; have := stepL_le cur; omega
    clear ho1 ho2 ho3 HA1 HA2 HA3 hA1 hA2 hb1 hb2 hb3
    by_cases he : (stepL cur).length = n'
    · have t0 : (((stepL cur).length : Int) == (n' : Int)) = true := by simp [he]
      have HR : Hid (slimL ops = stepL cur) := by
        show _ = _
        unfold slimL
        rw [← hfx.out, fixL_none (slimStep_none (by have := HL.out; omega))]
      clear he
      go_wp2_with fail
      go_ret
      exact ⟨⟨_, rfl, by rw [HR.out]; exact HO3.out⟩, hbb⟩
    · have t0 : (((stepL cur).length : Int) == (n' : Int)) = false := by simp; omega
      have HF : Hid (fixL slimStep (stepL cur) = fixL slimStep ops) := by
        show _ = _
        rw [← hfx.out]
        exact (fixL_some slim_shrink (slimStep_some (by have := HL.out; omega))).symm
      have hlt : (stepL cur).length < n' := by omega
      clear he
      generalize stepL cur = nx at *
      go_wp2_with fail
      go_roundg nx.length
      case measure => have := hk.out; omega
      case rel => exact ⟨a3, nx.length, c3, nx, rfl, by omega, rfl, HA3'.out, HF.out, hbb⟩

def ifOk (f : List LOp → List LOp) (ops : List LOp) : List LOp := if formsB ops then f ops else []
theorem formsB_len {ops : List LOp} (h : formsB ops = true) : ops.length ≤ 60 := by
  unfold formsB at h; simp at h; exact h.1
theorem ifOk_no {f : List LOp → List LOp} {ops : List LOp} (h : formsB ops = false) : ifOk f ops = [] := by unfold ifOk; rw [h]; rfl
theorem ifOk_yes {f : List LOp → List LOp} {ops : List LOp} (h : formsB ops = true) : ifOk f ops = f ops := by unfold ifOk; rw [h]; rfl
theorem SlimEnd.later {w w1 w' : World} {r : List LOp} {e : Ending} (h : SlimEnd w1 r e w') (hb : Below w.heap.size w w1) : SlimEnd w r e w' := by
  obtain ⟨⟨v, rfl, ho⟩, hb'⟩ := h
  exact ⟨⟨v, rfl, ho.base hb.size⟩, hb.trans (hb'.mono hb.size)⟩

theorem specSlimTexts (a : Option Addr) (n c : Nat) (ops : List LOp) (L U : Nat) (w : World) (hU : U ≤ w.heap.size) (H : OpsAt w L U a n ops) :
    Calls Try.prog 20 #[.slice a n c] w (SlimEnd w (ifOk textsL ops)) := by
  go_enter Try.func20, Try.ntmps20
  go_wp2_with fail
  refine (forms_any a n c ops L U _ hU H).mono ?_
  rintro e w1 ⟨rfl, hb1⟩
  rcases hf : formsB ops with _ | _
  · have HR : Hid (ifOk textsL ops = []) := ifOk_no hf
    clear hf
    go_wp2_with fail
    go_ret
    exact ⟨⟨_, rfl, by rw [HR.out]; exact OwnOps.none_ hb1.size rfl⟩, hb1.alloc hb1.size _⟩
  · have HR : Hid (ifOk textsL ops = textsL ops) := ifOk_yes hf
    have hl := formsB_len hf
    clear hf
    go_wp2_with fail
    refine (texts_any a n c ops L U _ (by have := H.len; omega) (by have := hb1.size; omega) (H.below hb1 hU)).mono ?_
    rintro e w2 hE
    obtain ⟨⟨v, rfl, ho⟩, hb2⟩ := hE.later hb1
    go_wp2_with fail
    go_ret
    exact ⟨⟨_, rfl, by rw [HR.out]; exact ho⟩, hb2⟩

theorem specSlimPairs (a : Option Addr) (n c : Nat) (ops : List LOp) (L U : Nat) (w : World) (hU : U ≤ w.heap.size) (H : OpsAt w L U a n ops) :
    Calls Try.prog 22 #[.slice a n c] w (SlimEnd w (ifOk pairsL ops)) := by
  go_enter Try.func22, Try.ntmps22
  go_wp2_with fail
  refine (forms_any a n c ops L U _ hU H).mono ?_
  rintro e w1 ⟨rfl, hb1⟩
  rcases hf : formsB ops with _ | _
  · have HR : Hid (ifOk pairsL ops = []) := ifOk_no hf
    clear hf
    go_wp2_with fail
    go_ret
    exact ⟨⟨_, rfl, by rw [HR.out]; exact OwnOps.none_ hb1.size rfl⟩, hb1.alloc hb1.size _⟩
  · have HR : Hid (ifOk pairsL ops = pairsL ops) := ifOk_yes hf
    have hl := formsB_len hf
    clear hf
    go_wp2_with fail
    refine (pairs_any a n c ops L U _ (by have := H.len; omega) (by have := hb1.size; omega) (H.below hb1 hU)).mono ?_
    rintro e w2 hE
    obtain ⟨⟨v, rfl, ho⟩, hb2⟩ := hE.later hb1
    go_wp2_with fail
    go_ret
    exact ⟨⟨_, rfl, by rw [HR.out]; exact ho⟩, hb2⟩

theorem specSlimMoves (a : Option Addr) (n c : Nat) (ops : List LOp) (L U : Nat) (w : World) (hU : U ≤ w.heap.size) (H : OpsAt w L U a n ops) :
    Calls Try.prog 24 #[.slice a n c] w (SlimEnd w (ifOk movesL ops)) := by
  go_enter Try.func24, Try.ntmps24
  go_wp2_with fail
  refine (forms_any a n c ops L U _ hU H).mono ?_
  rintro e w1 ⟨rfl, hb1⟩
  rcases hf : formsB ops with _ | _
  · have HR : Hid (ifOk movesL ops = []) := ifOk_no hf
    clear hf
    go_wp2_with fail
    go_ret
    exact ⟨⟨_, rfl, by rw [HR.out]; exact OwnOps.none_ hb1.size rfl⟩, hb1.alloc hb1.size _⟩
  · have HR : Hid (ifOk movesL ops = movesL ops) := ifOk_yes hf
    have hl := formsB_len hf
    clear hf
    go_wp2_with fail
    refine (l4moves_any a n c ops L U _ (by have := H.len; omega) (by have := hb1.size; omega) (H.below hb1 hU)).mono ?_
    rintro e w2 hE
    obtain ⟨⟨v, rfl, ho⟩, hb2⟩ := hE.later hb1
    go_wp2_with fail
    go_ret
    exact ⟨⟨_, rfl, by rw [HR.out]; exact ho⟩, hb2⟩

theorem specSlim (a : Option Addr) (n c : Nat) (ops : List LOp) (L U : Nat) (w : World) (hU : U ≤ w.heap.size) (H : OpsAt w L U a n ops) :
    Calls Try.prog 18 #[.slice a n c] w (SlimEnd w (ifOk slimL ops)) := by
  go_enter Try.func18, Try.ntmps18
  go_wp2_with fail
  refine (forms_any a n c ops L U _ hU H).mono ?_
  rintro e w1 ⟨rfl, hb1⟩
  rcases hf : formsB ops with _ | _
  · have HR : Hid (ifOk slimL ops = []) := ifOk_no hf
    clear hf
    go_wp2_with fail
    go_ret
    exact ⟨⟨_, rfl, by rw [HR.out]; exact OwnOps.none_ hb1.size rfl⟩, hb1.alloc hb1.size _⟩
  · have HR : Hid (ifOk slimL ops = slimL ops) := ifOk_yes hf
    have hl := formsB_len hf
    clear hf
    go_wp2_with fail
    refine (slim_any a n c ops L U _ (by have := H.len; omega) (by have := hb1.size; omega) (H.below hb1 hU)).mono ?_
    rintro e w2 hE
    obtain ⟨⟨v, rfl, ho⟩, hb2⟩ := hE.later hb1
    go_wp2_with fail
    go_ret
    exact ⟨⟨_, rfl, by rw [HR.out]; exact ho⟩, hb2⟩
end Go.Proofs.Ytkllejaamnojpaa
