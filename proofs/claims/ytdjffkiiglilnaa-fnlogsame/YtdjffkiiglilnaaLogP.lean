/- Logs: marked and held. -/
import Derived.Test.YtdjffkiiglilnaaLogN
import Derived.Test.YtdjffkiiglilnaaSlimM
namespace Go.Proofs.Ytdjffkiiglilnaa
open Go.RowKit


/-! Bases: marked from 1 on, and held. -/
theorem OwnBases.row {w : World} {B : Nat} {v : Value} {l : List LBase} (h : OwnBases w B v l) : ∃ a c g cap f, v = .slice a l.length c ∧ B ≤ g ∧ BaseRow w B a l.length g cap f ∧ baseF f l := by
  rcases h.2 with ⟨rfl, h0⟩ | ⟨g, cap, cur, rfl, hb, hg, hnc, hcm, hcs, htake⟩
  · exact ⟨none, 0, B, 0, fun _ => default, by rw [h0], Nat.le_refl _, fun hn => absurd h0 hn, fun i e he => by have := (List.getElem?_eq_some_iff.1 he).1; omega⟩
  · refine ⟨_, cap, g, cap * 2, fun i => cur[i]?.getD default, rfl, hb, fun _ => ⟨rfl, hb, by omega, ⟨cur, hg, by omega, fun i hi => by simp [Array.getElem?_eq_getElem (show i < cur.size by omega)]⟩⟩, fun i e he => ?_⟩
    have hlt := (List.getElem?_eq_some_iff.1 he).1
    obtain ⟨k0, k1⟩ := baseCells_at l i e he
    have h0 : (cur.toList.take (l.length * 2))[i * 2]? = some (.int .i64 e.id) := by rw [htake]; exact k0
    have h1 : (cur.toList.take (l.length * 2))[i * 2 + 1]? = some (.int .i64 e.ver) := by rw [htake]; exact k1
    rw [List.getElem?_take_of_lt (by omega)] at h0 h1
    simp at h0 h1
    simp [h0, h1]
def markB (i : Nat) : LBase := ⟨((2 * i + 1 : Nat) : Int), ((2 * i + 2 : Nat) : Int)⟩
def baseC (f : Nat → Value) (i : Nat) : Prop := ∃ e : LBase, f (i * 2) = .int .i64 e.id ∧ f (i * 2 + 1) = .int .i64 e.ver
def baseM (f : Nat → Value) (i : Nat) : Prop := f (i * 2) = .int .i64 ((2 * i + 1 : Nat) : Int) ∧ f (i * 2 + 1) = .int .i64 ((2 * i + 2 : Nat) : Int)

set_option maxHeartbeats 1000000 in
theorem markBaseS_any (a : Option Addr) (n c g cap B : Nat) (f : Nat → Value) (w : World) (hbd : n ≤ 1048576) (H : BaseRow w B a n g cap f) (hf : ∀ i, i < n → baseC f i) :
    Calls Try.prog 72 #[.slice a n c, .int .i64 1] w fun e w' => e = .returned (.int .i64 ((2 * n + 1 : Nat) : Int)) ∧ (∃ f', Hid (BaseRow w' B a n g cap f' ∧ ∀ i, i < n → baseM f' i)) ∧ But g w w' := by
  have HH : Hid (BaseRow w B a n g cap f) := H
  have HF : Hid (∀ i, i < n → baseC f i) := hf
  clear H hf
  go_enter Try.func72, Try.ntmps72
  go_wp2_with fail
  go_loopg [1, 5] n (fun k m i wr => ∃ j : Nat, j ≤ n ∧ Hid (k = n - j) ∧ i = .int .i64 j ∧ m = .int .i64 ((2 * j + 1 : Nat) : Int) ∧ (∃ f', Hid (BaseRow wr B a n g cap f' ∧ (∀ i, i < j → baseM f' i) ∧ ∀ i, j ≤ i → i < n → baseC f' i)) ∧ But g w wr)
  case atStart => exact ⟨0, Nat.zero_le _, rfl, rfl, rfl, ⟨f, HH.out, fun i hi => by omega, fun i _ hi => HF.out i hi⟩, But.refl _ _⟩
  case round =>
    obtain ⟨j, hj, hk, rfl, rfl, ⟨f', hrow⟩, hb⟩ := hrel
    by_cases hlt : j < n
    · obtain ⟨h1, h2, h3⟩ := hrow.out
      obtain ⟨rfl, hB, hcap, hr⟩ := h1 (by omega)
      obtain ⟨o, o0, o1⟩ := h3 j (Nat.le_refl _) hlt
      have hlt' : (j : Int) < (n : Int) := by omega
      have c0 : wr.cell? ⟨g, j * 2, none⟩ = some (.int .i64 o.id) := by rw [hr.cell (by omega), o0]
      have z0 : wr.frozen? ⟨g, j * 2, none⟩ = false := hr.frozen _
      have c1 : wr.cell? ⟨g, j * 2 + 1, none⟩ = some (.int .i64 o.ver) := by rw [hr.cell (by omega), o1]
      have z1 : wr.frozen? ⟨g, j * 2 + 1, none⟩ = false := hr.frozen _
      have HR : Hid (wr.rowIs g 40 cap f') := hr
      have H2 : Hid (∀ i, i < j → baseM f' i) := h2
      have H3 : Hid (∀ i, j ≤ i → i < n → baseC f' i) := h3
      clear h1 h2 h3 hr hrow HH HF o0 o1
      go_wp2_with fail
      go_roundg (n - (j + 1))
      case measure => have := hk.out; omega
      case rel =>
        refine ⟨j + 1, by omega, rfl, by go_num, by go_num, ⟨_, fun _ => ⟨rfl, hB, hcap, (HR.out.set (j * 2) _).set (j * 2 + 1) _⟩, fun i hi => ?_, fun i h1 h2 => ?_⟩, (hb.set _ _).set _ _⟩
        · by_cases e : i = j
          · subst e
            refine ⟨by simp, ?_⟩
            simp
            omega
          · obtain ⟨q0, q1⟩ := H2.out i (by omega)
            refine ⟨?_, ?_⟩ <;> dsimp only <;> rw [if_neg (by omega), if_neg (by omega)] <;> assumption
        · obtain ⟨o', q0, q1⟩ := H3.out i (by omega) h2
          refine ⟨o', ?_, ?_⟩ <;> dsimp only <;> rw [if_neg (by omega), if_neg (by omega)] <;> assumption
    · obtain rfl : j = n := by omega
      go_wp2_with fail
      go_ret
      exact ⟨rfl, ⟨f', hrow.out.1, hrow.out.2.1⟩, hb⟩

set_option maxHeartbeats 1000000 in
theorem heldBaseS_any (a : Option Addr) (n c g cap B : Nat) (f : Nat → Value) (w : World) (hbd : n ≤ 1048576) (H : BaseRow w B a n g cap f) (hf : ∀ i, i < n → baseM f i) :
    Calls Try.prog 73 #[.slice a n c, .int .i64 1] w fun e w' => e = .returned (.int .i64 ((2 * n + 1 : Nat) : Int)) ∧ w' = w := by
  have HC : Hid (∀ i, i < n → a = some ⟨g, 0, none⟩ ∧ w.cell? ⟨g, i * 2, none⟩ = some (.int .i64 ((2 * i + 1 : Nat) : Int)) ∧ w.cell? ⟨g, i * 2 + 1, none⟩ = some (.int .i64 ((2 * i + 2 : Nat) : Int))) := fun i hi => by
    obtain ⟨h1, _, h3, h4⟩ := H (by omega)
    exact ⟨h1, by rw [h4.cell (by omega), (hf i hi).1], by rw [h4.cell (by omega), (hf i hi).2]⟩
  clear H hf
  go_enter Try.func73, Try.ntmps73
  go_wp2_with fail
  go_loopg [1, 5] n (fun k m i wr => ∃ j : Nat, j ≤ n ∧ Hid (k = n - j) ∧ i = .int .i64 j ∧ m = .int .i64 ((2 * j + 1 : Nat) : Int) ∧ w = wr)
  case atStart => exact ⟨0, Nat.zero_le _, rfl, rfl, rfl, rfl⟩
  case round =>
    obtain ⟨j, hj, hk, rfl, rfl, rfl⟩ := hrel
    by_cases hlt : j < n
    · obtain ⟨rfl, c0, c1⟩ := HC.out j hlt
      have hlt' : (j : Int) < (n : Int) := by omega
      go_wp2_with fail
      go_roundg (n - (j + 1))
      case measure => have := hk.out; omega
      case rel => exact ⟨j + 1, by omega, rfl, by go_num, by go_num, rfl⟩
    · obtain rfl : j = n := by omega
      go_wp2_with fail
      go_ret
      exact ⟨rfl, rfl⟩
end Go.Proofs.Ytdjffkiiglilnaa
