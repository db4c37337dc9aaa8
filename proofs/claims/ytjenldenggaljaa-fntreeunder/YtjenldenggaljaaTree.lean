/- A tree as it is drawn: only bounds are told of it. -/
import Derived.Test.YtjenldenggaljaaGrow
namespace Go.Proofs.Ytjenldenggaljaa
open Go.RowKit

def openL : List LObj := ⟨2, 1, ⟨#[]⟩, []⟩ :: List.replicate 31 ⟨0, 0, ⟨#[]⟩, []⟩
theorem openL_len : openL.length = 32 := rfl
theorem openL_at {i : Nat} {o : LObj} (h : openL[i]? = some o) : i < 32 ∧ o = ⟨if i = 0 then 2 else 0, if i = 0 then 1 else 0, ⟨#[]⟩, []⟩ := by
  have hi : i < 32 := (List.getElem?_eq_some_iff.1 h).1
  refine ⟨hi, ?_⟩
  cases i with
  | zero => simp [openL] at h; simp [← h]
  | succ i =>
    simp only [openL, List.getElem?_cons_succ] at h
    rw [List.getElem?_replicate_of_lt (by omega)] at h
    simp at h
    simp [← h]
theorem openL_sm : Sm openL 1 := fun o ho => by
  obtain ⟨i, hi⟩ := List.mem_iff_getElem?.1 ho
  obtain ⟨_, rfl⟩ := openL_at hi
  by_cases h0 : i = 0
  · subst h0
    exact ⟨by decide, by decide, Nat.zero_le _, Nat.zero_le _, fun e he => by cases he⟩
  · rw [if_neg h0, if_neg h0]
    exact ⟨by decide, by decide, Nat.zero_le _, Nat.zero_le _, fun e he => by cases he⟩
theorem own_open {w : World} {b B : Nat} (hr : w.rowIs b 34 128 openF) (hB : B ≤ b) : OwnT w B b 32 openL (fun _ => .slice none 0 0) := by
  have hr' := hr
  obtain ⟨cs, h1, h2, h3⟩ := hr'
  refine ⟨hB, ⟨cs, h1, by omega, by simp [openL_len], by simp [maxLen]⟩, fun i o ho => ?_, fun i j g _ _ _ h => by simp [Value.ownBlock] at h⟩
  obtain ⟨hi, rfl⟩ := openL_at ho
  have c : ∀ k, k < 128 → w.cell? ⟨b, k, none⟩ = some (openF k) := fun k hk => hr.cell hk
  refine ⟨Nat.zero_le _, ?_, ?_, ?_, ?_, OwnEnts.bare _ B, fun e he => by cases he⟩
  · rw [c _ (by omega)]
    unfold openF
    by_cases h0 : i = 0
    · subst h0; rfl
    · rw [if_neg (by omega), if_neg (by omega), if_neg (by omega), if_neg (by omega)]; simp [h0]
  · rw [c _ (by omega)]
    unfold openF
    by_cases h0 : i = 0
    · subst h0; rfl
    · rw [if_neg (by omega), if_neg (by omega), if_neg (by omega), if_neg (by omega)]; simp [h0]
  · rw [c _ (by omega)]
    unfold openF
    rw [if_neg (by omega), if_neg (by omega), if_pos (by omega)]
  · rw [c _ (by omega)]
    unfold openF
    rw [if_neg (by omega), if_neg (by omega), if_neg (by omega), if_pos (by omega)]
/-- A tree of one's own, as it was drawn. -/
def TreeEnd (w : World) (rb P K : Nat) (e : Ending) (w' : World) : Prop :=
  ∃ b c os vs, e = .returned (.agg #[.slice (some ⟨b, 0, none⟩) 32 c]) ∧ OwnT w' w.heap.size b c os vs ∧ os.length = 32 ∧ Sm os K ∧ RdTo w' rb P ∧ But rb w w'

set_option maxHeartbeats 4000000 in
set_option maxRecDepth 20000 in
theorem tree_any (rb p : Nat) (w : World) (hp : p ≤ 990000) (hrw : rb < w.heap.size) (R : RdTo w rb p) :
    Calls Try.prog 109 #[.pointer (some ⟨rb, 0, none⟩)] w fun e w' => TreeEnd w rb (p + 150) 60 e w' := by
  go_enter Try.func109, Try.ntmps109
  go_wp2_with fail
  refine (specOpen _).mono ?_
  rintro e W1 ⟨⟨b, rfl, hb0, hrow⟩, hb1⟩
  have hA1 : Below w.heap.size w W1 := ((Below.refl _ _).alloc (Nat.le_refl _) _).trans (hb1.mono (by simp))
  have hbx : Hid (∃ f, W1.rowIs w.heap.size 25 1 f) := ⟨_, (row1 w _ 25).of_block (hb1.block _ (by simp))⟩
  have HT : Hid (OwnT W1 (w.heap.size + 1) b 32 openL (fun _ => .slice none 0 0)) := own_open hrow (by simpa using hb0)
  have hz1 : w.heap.size + 1 ≤ W1.heap.size := by simpa using hb1.size
  clear hb1 hrow hb0
  go_wp2_with fail
  refine (num_to (fun z => 0 ≤ z ∧ z ≤ 16) rb p W1.heap.size 4 4 _ (by omega) (by omega) (by omega) (by omega) (R.but (hA1.alloc (by omega) _) hrw) ?_).mono ?_
  · intro i hi
    match i, hi with
    | 0, _ => exact ⟨0, by simp [go_sem], by omega, by omega⟩
    | 1, _ => exact ⟨4, by simp [go_sem], by omega, by omega⟩
    | 2, _ => exact ⟨10, by simp [go_sem], by omega, by omega⟩
    | 3, _ => exact ⟨16, by simp [go_sem], by omega, by omega⟩
  rintro e W2 ⟨⟨z, rfl, hz⟩, hr2, hb2⟩
  obtain ⟨n, rfl⟩ : ∃ n : Nat, z = n := ⟨z.toNat, by omega⟩
  have hA2 : But rb w W2 := (But.of_below hrw (hA1.alloc (by omega) _)).trans hb2
  have HT2 : Hid (OwnT W2 (w.heap.size + 1) b 32 openL (fun _ => .slice none 0 0)) := (HT.out.below ((Below.refl _ _).alloc (Nat.le_refl _) _)).but hb2 (by omega)
  have hbx2 : Hid (∃ f, W2.rowIs w.heap.size 25 1 f) := by
    obtain ⟨f, hf⟩ := hbx.out
    exact ⟨f, (hf.of_block (((Below.refl W1.heap.size W1).alloc (Nat.le_refl _) _).block _ (by omega))).of_block (hb2.block _ (by omega) (by simp; omega))⟩
  have hz2 : w.heap.size + 1 ≤ W2.heap.size := by have := hb2.below.size; simp at this; omega
  clear HT hbx hb2 hA1 hz1
  go_wp2_with fail
  refine (grow_any rb (p + 1) (w.heap.size + 1) b 32 n 1 openL _ 0 W2 (by omega) (by omega) (by omega) (by omega) (by omega) openL_len openL_sm HT2.out hr2).mono ?_
  rintro e W3 ⟨b', c', os', vs', l, ops, rfl, hT3, hl3, hs3, _, _, hr3, hb3⟩
  have hA3 : But rb w W3 := hA2.trans hb3
  obtain ⟨f, hf⟩ := hbx2.out
  have hf3 := hf.of_block (hb3.block w.heap.size (by omega) (by omega))
  have g0 := hf3.cell (i := 0) (by omega)
  have z0 := hf3.frozen 0
  have HT3 : Hid (OwnT W3 (w.heap.size + 1) b' c' os' vs') := hT3
  have hz3 : w.heap.size < W3.heap.size := by have := hb3.below.size; omega
  clear hT3 hb3 hbx2 HT2 hr2 hA2
  go_wp2_with fail
  have hq : ((W3.setCell ⟨w.heap.size, 0, none⟩ (.slice (some ⟨b', 0, none⟩) 32 c')).alloc (Obj.cells #[.slice (some ⟨b', 0, none⟩) 32 c'] 25)).cell? ⟨w.heap.size, 0, none⟩ = some (.slice (some ⟨b', 0, none⟩) 32 c') := by
    rw [World.cell?_alloc_lt _ _ _ (by simpa using hz3)]; exact World.cell?_setCell_same _ _ _ g0
  refine bodyPost_ret (v := .agg #[.slice (some ⟨b', 0, none⟩) 32 c']) (by rw [results, Try.results109]; simp [go_sem, hq]) rfl ?_
  obtain ⟨q, hq, R3⟩ := hr3
  have hB1 : Below w.heap.size W3 ((W3.setCell ⟨w.heap.size, 0, none⟩ (.slice (some ⟨b', 0, none⟩) 32 c')).alloc (Obj.cells #[.slice (some ⟨b', 0, none⟩) 32 c'] 25)) := ((Below.refl _ _).setCell (by simp) _).alloc (by simp; omega) _
  exact ⟨b', c', os', vs', rfl, ((HT3.out.setBox ⟨f, hf3⟩ 0 _).below ((Below.refl _ _).alloc (Nat.le_refl _) _)).base (by omega), hl3, hs3.mono (by omega), ⟨q, by omega, R3.below hB1 hrw⟩, ⟨hA3.below.trans (hB1.mono (by omega)), fun k hk hlt => (hB1.block k hlt).trans (hA3.block k hk hlt)⟩⟩
end Go.Proofs.Ytjenldenggaljaa
