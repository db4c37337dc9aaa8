/- Logs of one's own: marked and held. -/
import Derived.Test.YtdjffkiiglilnaaLogP
import Derived.Test.YtdjffkiiglilnaaLogQ
namespace Go.Proofs.Ytdjffkiiglilnaa
open Go.RowKit

/-- Nothing but two blocks is changed. -/
def OnlyTwo (g g' : Nat) (w w' : World) : Prop := (∀ B, B ≤ w.heap.size → B ≤ g → B ≤ g' → Below B w w') ∧ ∀ b, b < w.heap.size → b ≠ g → b ≠ g' → w'.heap[b]? = w.heap[b]?
/-- Marked from 1 on. -/
structure LogMarked (w : World) (B : Nat) (a : Option Addr) (n g cap : Nat) (a' : Option Addr) (n' g' cap' : Nat) (f f' : Nat → Value) : Prop where
  b : BaseRow w B a n g cap f
  bm : ∀ i, i < n → baseM f i
  o : OpRow w B a' n' g' cap' f'
  om : ∀ i, i < n' → opF f' i (markOpZ (2 * n) i)
theorem BaseRow.below {w w' : World} {B : Nat} {a : Option Addr} {n g cap : Nat} {f : Nat → Value} (h : BaseRow w B a n g cap f) (hb : Below w.heap.size w w') : BaseRow w' B a n g cap f := h.kept fun k _ hk => hb.block k hk
theorem OpRow.below {w w' : World} {B : Nat} {a : Option Addr} {n g cap : Nat} {f : Nat → Value} (h : OpRow w B a n g cap f) (hb : Below w.heap.size w w') : OpRow w' B a n g cap f := fun hn => by
  obtain ⟨h1, h2, h3, h4⟩ := h hn
  exact ⟨h1, h2, h3, h4.of_block (hb.block g h4.lt)⟩
theorem markOpS_zto (x : Int) (z : Nat) (e : x = ((z + 1 : Nat) : Int)) (hz9 : z ≤ 10000000) (a : Option Addr) (n c g cap B : Nat) (f : Nat → Value) (w : World) (hbd : n ≤ 1048576) (H : OpRow w B a n g cap f) (hf : ∀ i, i < n → OpCell f i) :
    Calls Try.prog 29 #[.slice a n c, .int .i64 x] w fun e w' => e = .returned (.int .i64 ((z + 7 * n + 1 : Nat) : Int)) ∧ (∃ f', Hid (OpRow w' B a n g cap f' ∧ ∀ i, i < n → opF f' i (markOpZ z i))) ∧ But g w w' := by
  subst e; exact markOpS_z z hz9 a n c g cap B f w hbd H hf
theorem heldOpS_zto (x : Int) (z : Nat) (e : x = ((z + 1 : Nat) : Int)) (hz9 : z ≤ 10000000) (a : Option Addr) (n c g cap B : Nat) (f : Nat → Value) (w : World) (hbd : n ≤ 1048576) (H : OpRow w B a n g cap f) (hf : ∀ i, i < n → opF f i (markOpZ z i)) :
    Calls Try.prog 74 #[.slice a n c, .int .i64 x] w fun e w' => e = .returned (.int .i64 ((z + 7 * n + 1 : Nat) : Int)) ∧ Below w.heap.size w w' := by
  subst e; exact heldOpS_z z hz9 a n c g cap B f w hbd H hf

set_option maxHeartbeats 1000000 in
theorem markLog_any (q s : Int) (a : Option Addr) (n c g cap : Nat) (f : Nat → Value) (a' : Option Addr) (n' c' g' cap' : Nat) (f' : Nat → Value) (B : Nat) (w : World) (hn : n ≤ 1000) (hn' : n' ≤ 1000) (H : BaseRow w B a n g cap f) (hf : ∀ i, i < n → baseC f i) (H' : OpRow w B a' n' g' cap' f') (hf' : ∀ i, i < n' → OpCell f' i) (hgl : g < w.heap.size) (hne : g ≠ g') :
    Calls Try.prog 30 #[.agg #[.int .i64 q, .int .i64 s, .slice a n c, .slice a' n' c'], .int .i64 1] w fun e w' => e = .returned (.int .i64 ((2 * n + 7 * n' + 1 : Nat) : Int)) ∧ (∃ f1 f1', LogMarked w' B a n g cap a' n' g' cap' f1 f1') ∧ OnlyTwo g g' w w' := by
  have hA : Below w.heap.size w (w.alloc (Obj.cells #[.int .i64 q, .int .i64 s, .slice a n c, .slice a' n' c'] 29)) := (Below.refl _ _).alloc (Nat.le_refl _) _
  go_enter Try.func30, Try.ntmps30
  go_wp2_with fail
  refine (markBaseS_any _ _ _ g cap B f _ (by omega) (H.below hA) hf).mono ?_
  rintro e w1 ⟨rfl, ⟨f1, hM1⟩, hb1⟩
  have c3 : w1.cell? ⟨w.heap.size, 3, none⟩ = some (.slice a' n' c') := by rw [hb1.cell (by simp; omega) (by simp)]; simp [go_sem]
  have hz1 : w.heap.size < w1.heap.size := by have := hb1.below.size; simp at this; omega
  have HO1 : Hid (OpRow w1 B a' n' g' cap' f') := fun hn => by
    obtain ⟨h1, h2, h3, h4⟩ := (H'.below hA) hn
    exact ⟨h1, h2, h3, h4.of_block (hb1.block g' (fun e => hne e.symm) h4.lt)⟩
  have HF' : Hid (∀ i, i < n' → OpCell f' i) := hf'
  have HT1 : Hid (OnlyTwo g g' w w1) := ⟨fun B hB h1 _ => (hA.mono hB).trans (hb1.below.mono h1), fun b hb h1 _ => by rw [hb1.block b h1 (by simp; omega)]; exact hA.block b hb⟩
  clear H H' hf hf' hA hb1
  go_wp2_with fail
  refine (markOpS_zto _ (2 * n) (by push_cast; omega) (by omega) _ _ _ g' cap' B f' _ (by omega) HO1.out HF'.out).mono ?_
  rintro e w2 ⟨rfl, ⟨f2, hM2⟩, hb2⟩
  have HL : Hid (∃ f1 f1', LogMarked w2 B a n g cap a' n' g' cap' f1 f1') := ⟨f1, f2, hM1.out.1.kept (fun k e hk => by subst e; exact hb2.block _ hne hk), hM1.out.2, hM2.out.1, hM2.out.2⟩
  have HT2 : Hid (OnlyTwo g g' w w2) := ⟨fun B hB h1 h2 => (HT1.out.1 B hB h1 h2).trans (hb2.below.mono h2), fun b hb h1 h2 => by rw [hb2.block b h2 (by omega)]; exact HT1.out.2 b hb h1 h2⟩
  clear hM1 hM2 hb2 HO1 HF' HT1 c3
  go_wp2_with fail
  go_ret
  exact ⟨by congr 2, HL.out, HT2.out⟩

set_option maxHeartbeats 1000000 in
theorem heldLog_any (q s : Int) (a : Option Addr) (n c g cap : Nat) (f : Nat → Value) (a' : Option Addr) (n' c' g' cap' : Nat) (f' : Nat → Value) (B : Nat) (w : World) (hn : n ≤ 1000) (hn' : n' ≤ 1000) (H : LogMarked w B a n g cap a' n' g' cap' f f') :
    Calls Try.prog 31 #[.agg #[.int .i64 q, .int .i64 s, .slice a n c, .slice a' n' c'], .int .i64 1] w fun e w' => e = .returned (.int .i64 ((2 * n + 7 * n' + 1 : Nat) : Int)) ∧ Below w.heap.size w w' := by
  have hA : Below w.heap.size w (w.alloc (Obj.cells #[.int .i64 q, .int .i64 s, .slice a n c, .slice a' n' c'] 29)) := (Below.refl _ _).alloc (Nat.le_refl _) _
  go_enter Try.func31, Try.ntmps31
  go_wp2_with fail
  refine (heldBaseS_any _ _ _ g cap B f _ (by omega) (H.b.below hA) H.bm).mono ?_
  rintro e w1 ⟨rfl, rfl⟩
  have hk1 : ¬ ((2 * n + 1 : Nat) : Int) < 0 := by omega
  go_wp2_with fail
  refine (heldOpS_zto _ (2 * n) (by push_cast; omega) (by omega) _ _ _ g' cap' B f' _ (by omega) (H.o.below hA) H.om).mono ?_
  rintro e w2 ⟨rfl, hb2⟩
  have hk2 : ¬ ((2 * n + 7 * n' + 1 : Nat) : Int) < 0 := by omega
  have HB : Hid (Below w.heap.size w w2) := hA.trans (hb2.mono (by simp))
  clear hb2 hA
  go_wp2_with fail
  go_ret
  exact ⟨by congr 2, HB.out⟩
end Go.Proofs.Ytdjffkiiglilnaa
