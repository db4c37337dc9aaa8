/- Lists of numbers as answers: compared, marked, held. -/
import Derived.Test.YtkllejaamnojpaaOpSet
namespace Go.Proofs.Ytkllejaamnojpaa
open Go.RowKit

/-- A list of numbers in a row of its own. -/
def IntRow (w : World) (B : Nat) (a : Option Addr) (n g cap : Nat) (f : Nat → Value) : Prop := n ≠ 0 → a = some ⟨g, 0, none⟩ ∧ B ≤ g ∧ n ≤ cap ∧ w.rowIs g 3 cap f
theorem OwnInts.row {w : World} {B : Nat} {v : Value} {l : List Nat} (h : OwnInts w B v l) : ∃ a c g cap f, v = .slice a l.length c ∧ B ≤ g ∧ IntRow w B a l.length g cap f ∧ ∀ i k, l[i]? = some k → f i = .int .i64 (k : Nat) := by
  rcases h.2 with ⟨rfl, h0⟩ | ⟨g, cap, cur, rfl, hb, hg, hnc, hcm, hcs, htake⟩
  · exact ⟨none, 0, B, 0, fun _ => default, by rw [h0], Nat.le_refl _, fun hn => absurd h0 hn, fun i k hk => by have := (List.getElem?_eq_some_iff.1 hk).1; omega⟩
  · refine ⟨_, cap, g, cap, fun i => cur[i]?.getD default, rfl, hb, fun _ => ⟨rfl, hb, hnc, ⟨cur, hg, by omega, fun i hi => by simp [Array.getElem?_eq_getElem (show i < cur.size by omega)]⟩⟩, fun i k hk => ?_⟩
    have hlt := (List.getElem?_eq_some_iff.1 hk).1
    have h1 : (cur.toList.take (l.length * 1))[i]? = some (.int .i64 (k : Nat)) := by rw [htake, List.getElem?_map, hk]; rfl
    rw [List.getElem?_take_of_lt (by omega)] at h1
    simp at h1
    simp [h1]
theorem IntRow.kept {w w' : World} {B : Nat} {a : Option Addr} {n g cap : Nat} {f : Nat → Value} (h : IntRow w B a n g cap f) (hb : ∀ k, k = g → k < w.heap.size → w'.heap[k]? = w.heap[k]?) : IntRow w' B a n g cap f := fun hn => by
  obtain ⟨h1, h2, h3, h4⟩ := h hn
  exact ⟨h1, h2, h3, h4.of_block (hb g rfl h4.lt)⟩

set_option maxHeartbeats 400000 in
theorem eqIntS_same (a a' : Option Addr) (n c c' g g' cap cap' B B' : Nat) (f f' : Nat → Value) (l : List Nat) (w : World) (hn : n = l.length) (hbd : n ≤ 1000000) (H : IntRow w B a n g cap f) (H' : IntRow w B' a' n g' cap' f')
    (hf : ∀ i k, l[i]? = some k → f i = .int .i64 (k : Nat)) (hf' : ∀ i k, l[i]? = some k → f' i = .int .i64 (k : Nat)) :
    Calls Try.prog 58 #[.slice a n c, .slice a' n c'] w fun e w' => e = .returned (.bool true) ∧ Below w.heap.size w w' := by
  have HC : Hid (∀ i, i < n → ∃ k : Nat, a = some ⟨g, 0, none⟩ ∧ a' = some ⟨g', 0, none⟩ ∧ w.cell? ⟨g, i, none⟩ = some (.int .i64 k) ∧ w.cell? ⟨g', i, none⟩ = some (.int .i64 k)) := fun i hi => by
    obtain ⟨h1, _, h3, h4⟩ := H (by omega)
    obtain ⟨k1, _, k3, k4⟩ := H' (by omega)
    have hl : l[i]? = some (l[i]'(by omega)) := by simp [show i < l.length by omega]
    exact ⟨l[i]'(by omega), h1, k1, by rw [h4.cell (by omega), hf i _ hl], by rw [k4.cell (by omega), hf' i _ hl]⟩
  clear H H' hf hf' hn
  go_enter Try.func58, Try.ntmps58
  go_wp2_with fail
  go_loopg [5] n (fun k i wr => ∃ j : Nat, j ≤ n ∧ Hid (k = n - j) ∧ i = .int .i64 j ∧ ∃ q, wr = w.drewN q)
  case atStart => exact ⟨0, Nat.zero_le _, rfl, rfl, 0, rfl⟩
  case round =>
    obtain ⟨j, hj, hk, rfl, q, rfl⟩ := hrel
    by_cases hlt : j < n
    · obtain ⟨x, rfl, rfl, c0, c1⟩ := HC.out j hlt
      have hlt' : (j : Int) < (n : Int) := by omega
      have d0 : (w.drewN q).cell? ⟨g, j, none⟩ = some (.int .i64 x) := c0
      have d1 : (w.drewN q).cell? ⟨g', j, none⟩ = some (.int .i64 x) := c1
      go_wp2_with fail
      go_region
      all_goals
        go_wp2_with fail
        go_roundg (n - (j + 1))
        case measure => have := hk.out; omega
        case rel => exact ⟨j + 1, by omega, rfl, by go_num, q + 1, rfl⟩
    · obtain rfl : j = n := by omega
      go_wp2_with fail
      go_ret
      exact ⟨rfl, Below.drewN _ _⟩

set_option maxHeartbeats 400000 in
theorem markIntS_any (a : Option Addr) (n c g cap B : Nat) (f : Nat → Value) (l : List Nat) (w : World) (hn : n = l.length) (hbd : n ≤ 1000000) (H : IntRow w B a n g cap f) (hf : ∀ i k, l[i]? = some k → f i = .int .i64 (k : Nat)) :
    Calls Try.prog 59 #[.slice a n c, .int .i64 1] w fun e w' => e = .returned (.int .i64 ((n + 1 : Nat) : Int)) ∧ (∃ f', Hid (IntRow w' B a n g cap f' ∧ ∀ i, i < n → f' i = .int .i64 ((i + 1 : Nat) : Int))) ∧ But g w w' := by
  have HV : Hid (∀ i, i < n → ∃ k : Nat, f i = .int .i64 k) := fun i hi => ⟨l[i]'(by omega), hf i _ (by simp [show i < l.length by omega])⟩
  clear hf hn
  have HH : Hid (IntRow w B a n g cap f) := H
  clear H
  go_enter Try.func59, Try.ntmps59
  go_wp2_with fail
  go_loopg [1, 5] n (fun k m i wr => ∃ j : Nat, j ≤ n ∧ Hid (k = n - j) ∧ i = .int .i64 j ∧ m = .int .i64 ((j + 1 : Nat) : Int) ∧ (∃ f', Hid (IntRow wr B a n g cap f' ∧ (∀ i, i < j → f' i = .int .i64 ((i + 1 : Nat) : Int)) ∧ ∀ i, j ≤ i → i < n → ∃ k : Nat, f' i = .int .i64 k)) ∧ But g w wr)
  case atStart => exact ⟨0, Nat.zero_le _, rfl, rfl, rfl, ⟨f, HH.out, fun i hi => by omega, fun i _ hi => HV.out i hi⟩, But.refl _ _⟩
  case round =>
    obtain ⟨j, hj, hk, rfl, rfl, ⟨f', hrow⟩, hb⟩ := hrel
    by_cases hlt : j < n
    · obtain ⟨h1, h2, h3⟩ := hrow.out
      obtain ⟨rfl, hB, hcap, hr⟩ := h1 (by omega)
      obtain ⟨x, hx⟩ := h3 j (Nat.le_refl _) hlt
      have c0 : wr.cell? ⟨g, j, none⟩ = some (.int .i64 x) := by rw [hr.cell (by omega), hx]
      have f0 : wr.frozen? ⟨g, j, none⟩ = false := hr.frozen j
      have HR : Hid (wr.rowIs g 3 cap f') := hr
      have hlt' : (j : Int) < (n : Int) := by omega
      have H2 : Hid (∀ i, i < j → f' i = .int .i64 ((i + 1 : Nat) : Int)) := h2
      have H3 : Hid (∀ i, j ≤ i → i < n → ∃ k : Nat, f' i = .int .i64 k) := h3
      clear h1 h2 h3 hr hx hrow
      go_wp2_with fail
      go_roundg (n - (j + 1))
      case measure => have := hk.out; omega
      case rel =>
        refine ⟨j + 1, by omega, rfl, by go_num, by go_num, ⟨_, fun _ => ⟨rfl, hB, hcap, HR.out.set j _⟩, fun i hi => ?_, fun i h1 h2 => ?_⟩, hb.set j _⟩
        · by_cases e : i = j
          · subst e; simp
          · rw [if_neg e]; exact H2.out i (by omega)
        · rw [if_neg (by omega)]; exact H3.out i (by omega) h2
    · obtain rfl : j = n := by omega
      go_wp2_with fail
      go_ret
      exact ⟨rfl, ⟨f', hrow.out.1, hrow.out.2.1⟩, hb⟩

set_option maxHeartbeats 400000 in
theorem heldIntS_any (a : Option Addr) (n c g cap B : Nat) (f : Nat → Value) (w : World) (hbd : n ≤ 1000000) (H : IntRow w B a n g cap f) (hf : ∀ i, i < n → f i = .int .i64 ((i + 1 : Nat) : Int)) :
    Calls Try.prog 60 #[.slice a n c, .int .i64 1] w fun e w' => e = .returned (.int .i64 ((n + 1 : Nat) : Int)) ∧ w' = w := by
  have HC : Hid (∀ i, i < n → a = some ⟨g, 0, none⟩ ∧ w.cell? ⟨g, i, none⟩ = some (.int .i64 ((i + 1 : Nat) : Int))) := fun i hi => by
    obtain ⟨h1, _, h3, h4⟩ := H (by omega)
    exact ⟨h1, by rw [h4.cell (by omega), hf i hi]⟩
  clear H hf
  go_enter Try.func60, Try.ntmps60
  go_wp2_with fail
  go_loopg [1, 5] n (fun k m i wr => ∃ j : Nat, j ≤ n ∧ Hid (k = n - j) ∧ i = .int .i64 j ∧ m = .int .i64 ((j + 1 : Nat) : Int) ∧ w = wr)
  case atStart => exact ⟨0, Nat.zero_le _, rfl, rfl, rfl, rfl⟩
  case round =>
    obtain ⟨j, hj, hk, rfl, rfl, rfl⟩ := hrel
    by_cases hlt : j < n
    · obtain ⟨rfl, c0⟩ := HC.out j hlt
      have hlt' : (j : Int) < (n : Int) := by omega
      go_wp2_with fail
      go_roundg (n - (j + 1))
      case measure => have := hk.out; omega
      case rel => exact ⟨j + 1, by omega, rfl, by go_num, by go_num, rfl⟩
    · obtain rfl : j = n := by omega
      go_wp2_with fail
      go_ret
      exact ⟨rfl, rfl⟩
end Go.Proofs.Ytkllejaamnojpaa
