import Derived.Test.YtnfegihemhidgaaSlimI
/- Lists that are made shorter: the program: texts. -/
namespace Go.Proofs.Ytnfegihemhidgaa
open Go.RowKit

set_option maxHeartbeats 1000000 in
theorem listOk_any (a : Option Addr) (n c : Nat) (ops : List LOp) (L U : Nat) (w : World) (hU : U ≤ w.heap.size) (H : OpsAt w L U a n ops) :
    Calls Try.prog 81 #[.slice a n c] w fun e w' => e = .returned (.bool (formsB ops)) ∧ Below w.heap.size w w' := by
  have hbd := H.bd
  have hlen : Hid (n = ops.length) := H.len
  unfold maxLen at hbd
  by_cases h60 : 60 < n
  · have h60' : (60 : Int) < (n : Int) := by omega
    go_enter Try.func81, Try.ntmps81
    go_wp2_with fail
    go_ret
    exact ⟨ret_bool (by have := hlen.out; simp [formsB]; omega), Below.refl _ _⟩
  · have h60' : ¬ (60 : Int) < (n : Int) := by omega
    go_enter Try.func81, Try.ntmps81
    go_wp2_with fail
    go_loopg [10] n (fun g k wr => ∃ j : Nat, j ≤ n ∧ Hid (g = n - j) ∧ k = .int .i64 j ∧ Hid (formsB ops = (ops.drop j).all opOk) ∧ Below w.heap.size w wr)
    case atStart => exact ⟨0, Nat.zero_le _, rfl, rfl, by show _ = _; have := hlen.out; simp [formsB]; omega, Below.refl _ _⟩
    case round =>
      obtain ⟨j, hj, hk, rfl, hq, hb⟩ := hrel
      by_cases hlt : j < n
      · obtain ⟨b, off, ha, hL, hbU, hc⟩ := H.at_ (by omega)
        subst ha
        obtain ⟨x, he, hsz, hat⟩ := hc j hlt
        obtain ⟨d0, d1, d2, d3, d4, d5, d6⟩ := hat.of_block (hb.block b (by omega))
        have hlt' : (j : Int) < (n : Int) := by omega
        have HQ : Hid (formsB ops = (opOk x && (ops.drop (j + 1)).all opOk)) := by show _ = _; rw [hq.out, drop_cons he, List.all_cons]
        have HOK := fun w => implOpOk x w hsz
        simp only [LOp.val] at HOK
        clear he hc hq hat H
        go_wp2_with fail
        refine (HOK _).mono ?_
        rintro e w1 ⟨rfl, hb1⟩
        have hbb : Below w.heap.size w w1 := (hb.alloc hb.size _).trans (hb1.mono (by have := hb.size; simp; omega))
        rcases hx : opOk x with _ | _
        · have HY : Hid (formsB ops = false) := by show _ = _; rw [HQ.out, hx]; rfl
          clear HOK HQ
          go_wp2_with fail
          go_ret
          exact ⟨ret_bool HY.out.symm, hbb⟩
        · have HY : Hid (formsB ops = (ops.drop (j + 1)).all opOk) := by show _ = _; rw [HQ.out, hx]; rfl
          clear HOK HQ
          go_wp2_with fail
          go_roundg (n - (j + 1))
          case measure => have := hk.out; omega
          case rel => exact ⟨j + 1, by omega, rfl, by go_num, HY.out, hbb⟩
      · have HN : Hid (formsB ops = true) := by
          show _ = _
          rw [hq.out, List.drop_of_length_le (by have := hlen.out; omega)]; rfl
        go_wp2_with fail
        go_ret
        exact ⟨ret_bool HN.out.symm, hb⟩

def IdxEnd (b : Bool) (e : Ending) : Prop := ∃ r : Int, e = .returned (.int .i64 r) ∧ decide (0 ≤ r) = b
def goesText (ops : List LOp) (i : Nat) : Bool := match ops[i]? with
  | some o => (o.kind == 5) && voidB ops i
  | none => false
theorem voidB_at {ops : List LOp} {i : Nat} {o : LOp} (h : ops[i]? = some o) : voidB ops i = (ops.drop (i + 1)).any (voids o.id) := by unfold voidB; rw [h]
theorem texts_same (ops : List LOp) : keepTo (fun i => !goesText ops i) ops ops.length = textsL ops := by
  unfold textsL
  refine keepTo_congr fun i _ hi => ?_
  unfold goesText textKeep
  rw [List.getElem?_eq_getElem hi]
  have : ∀ a b : Bool, (!(a && b)) = (!a || !b) := by decide
  simp [this, bne]
end Go.Proofs.Ytnfegihemhidgaa
