import Derived.Test.YtkllejaamnojpaaSlimI5
/- Lists that are made shorter: the program: a rule again and again; pairs. -/
namespace Go.Proofs.Ytkllejaamnojpaa
open Go.RowKit

set_option maxHeartbeats 1000000 in
theorem byOne39 (a : Option Addr) (n c : Nat) (ops : List LOp) (L U : Nat) (w : World) (hU : U ≤ w.heap.size) (H : OpsAt w L U a n ops) :
    Calls Try.prog 69 #[.slice a n c, .func (.func 70) #[] #[]] w (SlimEnd w (ifOk pairsL ops)) := by
  have hlen : Hid (n = ops.length) := H.len
  go_enter Try.func69, Try.ntmps69
  go_wp2_with fail
  refine (listOk_any a n c ops L U _ hU H).mono ?_
  rintro e w1 ⟨rfl, hb1⟩
  rcases hf : formsB ops with _ | _
  · have HR : Hid (ifOk pairsL ops = []) := ifOk_no hf
    clear hf
    go_wp2_with fail
    go_ret
    exact ⟨⟨_, rfl, by rw [HR.out]; exact OwnOps.nil_ _ _⟩, hb1⟩
  · have HR : Hid (ifOk pairsL ops = pairsL ops) := ifOk_yes hf
    have hl : n ≤ 60 := by have := formsB_len hf; have := hlen.out; omega
    clear hf
    go_wp2_with fail
    go_loopg [0] n (fun g v wr => ∃ (a' : Option Addr) (n' c' : Nat) (cur : List LOp), v = .slice a' n' c' ∧ n' ≤ n ∧ Hid (g = n') ∧ Hid (OpsAt wr 0 wr.heap.size a' n' cur) ∧ Hid (pairsL cur = pairsL ops) ∧ Below w.heap.size w wr)
    case atStart => exact ⟨a, n, c, ops, rfl, Nat.le_refl _, rfl, (H.below hb1 hU).wide (Nat.zero_le _) (by have := hb1.size; omega), rfl, hb1⟩
    case round =>
      obtain ⟨a', n', c', cur, rfl, hcn, hk, HA, hfx, hb⟩ := hrel
      have HL : Hid (n' = cur.length) := HA.out.len
      have HSZ : Hid (∀ o ∈ cur, OpSz o) := HA.out.sz
      go_wp2_with fail
      refine (dropFirst_any a' n' c' cur _ _ _ (by omega) (Nat.le_refl _) HA.out).mono ?_
      rintro e w2 ⟨⟨v2, rfl, ho2⟩, hb2⟩
      have hbb : Below w.heap.size w w2 := hb.trans (hb2.mono hb.size)
      have HO2 : Hid (OwnOps w2 w.heap.size v2 (orSame pairStep cur)) := ho2.base hb.size
      clear ho2 hb2
      cases hs : pairStep cur with
      | none =>
        have e1 : orSame pairStep cur = cur := by unfold orSame; rw [hs]; rfl
        have HF : Hid (pairsL ops = cur) := by show _ = _; rw [← hfx.out]; exact fixL_none hs
        have HO3 : Hid (OwnOps w2 w.heap.size v2 cur) := by rw [← e1]; exact HO2.out
        obtain ⟨a3, c3, rfl, HA3⟩ := HO3.out.at_ HSZ.out
        have t0 : ((cur.length : Int) == (n' : Int)) = true := by have := HL.out; simp; omega
        clear hs e1 HO2
        go_wp2_with fail
        go_ret
        exact ⟨⟨_, rfl, by rw [HR.out, HF.out]; exact HO3.out⟩, hbb⟩
      | some y =>
        have e1 : orSame pairStep cur = y := by unfold orSame; rw [hs]; rfl
        have hlt := pairs_shrink _ _ hs
        have HF : Hid (pairsL y = pairsL ops) := by show _ = _; rw [← hfx.out]; exact (fixL_some pairs_shrink hs).symm
        have HO3 : Hid (OwnOps w2 w.heap.size v2 y) := by rw [← e1]; exact HO2.out
        have HZ := (pairStep_all hs ⟨HSZ.out, Nat.le_refl _⟩).1
        obtain ⟨a3, c3, rfl, HA3⟩ := HO3.out.at_ HZ
        have hlt2 : y.length < n' := by have := HL.out; omega
        have t0 : ((y.length : Int) == (n' : Int)) = false := by simp; omega
        have HA3' : Hid (OpsAt w2 0 w2.heap.size a3 y.length y) := HA3.wide (Nat.zero_le _) (Nat.le_refl _)
        clear hs e1 HO2 HZ HA3 hlt
        go_wp2_with fail
        go_roundg y.length
        case measure => have := hk.out; omega
        case rel => exact ⟨a3, y.length, c3, y, rfl, by omega, rfl, HA3'.out, HF.out, hbb⟩

theorem implSlimPairs (a : Option Addr) (n c : Nat) (ops : List LOp) (L U : Nat) (w : World) (hU : U ≤ w.heap.size) (H : OpsAt w L U a n ops) :
    Calls Try.prog 21 #[.slice a n c] w (SlimEnd w (ifOk pairsL ops)) := by
  go_enter Try.func21, Try.ntmps21
  go_wp2_with fail
  refine (byOne39 a n c ops L U w hU H).mono ?_
  rintro e w1 ⟨⟨v, rfl, ho⟩, hb⟩
  go_wp2_with fail
  go_ret
  exact ⟨⟨_, rfl, ho⟩, hb⟩
end Go.Proofs.Ytkllejaamnojpaa
