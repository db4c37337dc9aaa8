import Derived.Test.YtkllejaamnojpaaSlimI4
/- Lists that are made shorter: the program: what goes again, one at a time. -/
namespace Go.Proofs.Ytkllejaamnojpaa
open Go.RowKit

theorem pair_same (ops : List LOp) (i k : Nat) (id : Int) : keepTo (fun j => !goesPair ops id i k j) ops ops.length = without ops id i k := by
  unfold without
  refine keepTo_congr fun j _ _ => ?_
  unfold goesPair
  have h1 : decide (i ≤ j) = !decide (j < i) := by
    by_cases h : j < i
    · simp [h]
    · simp [h]; omega
  have h2 : decide (j ≤ k) = !decide (k < j) := by
    by_cases h : k < j
    · simp [h]
    · simp [h]; omega
  rw [h1, h2]
  simp [bne]
/-- One step of a rule, or the list as it is. -/
def orSame (f : List LOp → Option (List LOp)) (ops : List LOp) : List LOp := (f ops).getD ops
theorem orSame_pair {ops : List LOp} {i k : Nat} {o : LOp} (hf : firstPair ops = some i) (hg : goesL ops i = (k : Int)) (ho : ops[i]? = some o) : orSame pairStep ops = without ops o.id i k := by
  unfold orSame pairStep
  rw [hf, Option.map_some, hg, idAt_of ho]
  rfl
set_option maxHeartbeats 1000000 in
theorem dropFirst_any (a : Option Addr) (n c : Nat) (ops : List LOp) (L U : Nat) (w : World) (hn : n ≤ 1000) (hU : U ≤ w.heap.size) (H : OpsAt w L U a n ops) :
    Calls Try.prog 70 #[.slice a n c] w (SlimEnd w (orSame pairStep ops)) := by
  have hlen : Hid (n = ops.length) := H.len
  have hB : Below w.heap.size w (w.alloc (.cells #[.slice a n c] 23)) := (Below.refl _ _).alloc (Nat.le_refl _) _
  have hq : (w.alloc (.cells #[.slice a n c] 23)).cell? ⟨w.heap.size, 0, none⟩ = some (.slice a n c) := by simp [go_sem]
  go_enter Try.func70, Try.ntmps70
  go_wp2_with fail
  refine (firstPair_any a n c ops L U _ (by simp; omega) (H.below hB hU)).mono ?_
  rintro e w1 ⟨hE, hb1⟩
  have hbb : Below w.heap.size w w1 := hB.trans (hb1.mono (by simp))
  have hs1 : w.heap.size + 1 ≤ w1.heap.size := by simpa using hb1.size
  have hq1 : w1.cell? ⟨w.heap.size, 0, none⟩ = some (.slice a n c) := by rw [hb1.cell (by simp)]; exact hq
  clear hq hb1
  rcases hE with ⟨i, k, hi, hg, hf, rfl⟩ | ⟨hf, rfl⟩
  · have H1 := H.below hbb hU
    obtain ⟨b, off, ha, hL, hbU, hc⟩ := H1.at_ (by have := hlen.out; omega)
    subst ha
    obtain ⟨o, he, _, hat⟩ := hc i (by have := hlen.out; omega)
    have HR : Hid (orSame pairStep ops = keepTo (fun j => !goesPair ops o.id i k j) ops n) := by show _ = _; rw [orSame_pair hf hg he, ← pair_same, ← hlen.out]
    have d5 := hat.c5
    have hiI : (i : Int) < (n : Int) := by have := hlen.out; omega
    have hB2 : ∀ o1 o2 : Obj, Below w1.heap.size w1 ((w1.alloc o1).alloc o2) := fun o1 o2 => ((Below.refl _ _).alloc (Nat.le_refl _) _).alloc (by simp) _
    have q2 : ∀ o1 : Obj, (w1.alloc o1).cell? ⟨w.heap.size, 0, none⟩ = some (.slice (some ⟨b, off, none⟩) n c) := fun o1 => by rw [((Below.refl w1.heap.size w1).alloc (Nat.le_refl _) o1).cell (by simp; omega)]; exact hq1
    have d2 : ∀ o1 : Obj, (w1.alloc o1).cell? ⟨b, off + i * 7 + 5, none⟩ = some (.int .i64 o.id) := fun o1 => by rw [((Below.refl w1.heap.size w1).alloc (Nat.le_refl _) o1).cell (by simp; omega)]; exact d5
    have q3 : ∀ o1 o2 : Obj, ((w1.alloc o1).alloc o2).cell? ⟨w.heap.size, 0, none⟩ = some (.slice (some ⟨b, off, none⟩) n c) := fun o1 o2 => by rw [(hB2 o1 o2).cell (by simp; omega)]; exact hq1
    clear hc hat he hi hg hf
    go_wp2_with fail
    have hz2 : ((w1.alloc (Obj.cells #[Value.int IntKind.i64 i, Value.int IntKind.i64 k] 128)).alloc (Obj.cells #[Value.int IntKind.i64 o.id] 3)).heap.size = w1.heap.size + 2 := by simp
    have HD := delete61 (some ⟨b, off, none⟩) n c ops L U ⟨w1.heap.size, 0, none⟩ ⟨w.heap.size, 0, none⟩ ⟨w1.heap.size + 1, 0, none⟩ (goesPair ops o.id i k) ((w1.alloc (Obj.cells #[Value.int IntKind.i64 i, Value.int IntKind.i64 k] 128)).alloc (Obj.cells #[Value.int IntKind.i64 o.id] 3)) hn (by rw [hz2]; omega) (H1.below (hB2 _ _) (by omega)) (fun j hj W hW => by
      rw [hz2] at hW
      have hsW : w1.heap.size + 2 ≤ W.heap.size := by have := hW.size; rw [hz2] at this; exact this
      exact clos61 (some ⟨b, off, none⟩) n c ops L U i k j w1.heap.size w.heap.size (w1.heap.size + 1) o.id W hj (by omega) (by omega) (by omega) (by omega)
        (by rw [hW.cell (by simp)]; simp [go_sem]) (by rw [hW.cell (by simp)]; simp [go_sem]) (by rw [hW.cell (by simp; omega)]; exact q3 _ _) (by rw [hW.cell (by simp)]; simp [go_sem]) ((H1.below (hB2 _ _) (by omega)).below hW (by omega)))
    refine HD.mono ?_
    clear HD
    rintro e w2 hE
    obtain ⟨⟨v, rfl, ho⟩, hb2⟩ := hE.later (hbb.trans ((hB2 _ _).mono hbb.size))
    go_wp2_with fail
    go_ret
    exact ⟨⟨_, rfl, by rw [HR.out]; exact ho⟩, hb2⟩
  · have HR : Hid (orSame pairStep ops = ops) := by show _ = _; unfold orSame pairStep; rw [hf]; rfl
    have hB2 : ∀ o1 : Obj, Below w1.heap.size w1 (w1.alloc o1) := fun o1 => (Below.refl _ _).alloc (Nat.le_refl _) _
    have q2 : ∀ o1 : Obj, (w1.alloc o1).cell? ⟨w.heap.size, 0, none⟩ = some (.slice a n c) := fun o1 => by rw [(hB2 o1).cell (by simp; omega)]; exact hq1
    clear hf
    go_wp2_with fail
    refine (copy_list a n c ops L U _ hn ((H.below hbb hU).below (hB2 _) (by omega))).mono ?_
    rintro e w2 hE
    obtain ⟨⟨v, rfl, ho⟩, hb2⟩ := hE.later (hbb.trans ((hB2 _).mono hbb.size))
    go_wp2_with fail
    go_ret
    exact ⟨⟨_, rfl, by rw [HR.out]; exact ho⟩, hb2⟩
end Go.Proofs.Ytkllejaamnojpaa
