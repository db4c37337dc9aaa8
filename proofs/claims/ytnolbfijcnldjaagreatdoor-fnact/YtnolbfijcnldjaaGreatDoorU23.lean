/- Lemmas that the proofs of this seat share: SlimM, MarkO, MarkP, KB, MarkW. -/
import Derived.Test.YtnolbfijcnldjaaGreatDoorU15
import Derived.Test.YtnolbfijcnldjaaGreatDoorU21
import Derived.Test.YtnolbfijcnldjaaGreatDoorU02
import Derived.Test.YtnolbfijcnldjaaGreatDoorU10
import Derived.Test.YtnolbfijcnldjaaGreatDoorU17
import Derived.Deep.RegionWith
import Derived.RowKitTokens
import Derived.Test.YtnolbfijcnldjaaGreatDoorU22
import Derived.Test.YtnolbfijcnldjaaGreatDoorU19
/- Lists of what is done as answers: marked, held. -/
namespace Go.Proofs.YtnolbfijcnldjaaGreatDoor
open Go.RowKit

set_option maxHeartbeats 1000000 in
set_option maxRecDepth 100000 in
theorem markText_big (k : Nat) (w : World) (h0 : 1 ≤ k) (h1 : k ≤ 100000000) :
    Calls Tryz.prog 112 #[.int .i64 k] w fun e w' => e = .returned (.string (mkT k)) ∧ Below w.heap.size w w' := by
  have hk : ¬ (k : Int) ≤ 0 := by omega
  go_enter Tryz.func112, Tryz.ntmps112
  go_wp2_with fail
  go_loopg [0, 3] k (fun g i p wr => ∃ (x f : Nat) (s : ByteArray), s.size + x ≤ k ∧ Hid (g = x) ∧ i = .int .i64 x ∧ p = .string s ∧ x ≤ f ∧ Hid (digs k k ⟨#[]⟩ = digs f x s) ∧ Below w.heap.size w wr)
  case atStart => exact ⟨k, k, ⟨#[]⟩, by simp [ByteArray.size], rfl, rfl, rfl, by omega, rfl, Below.refl _ _⟩
  case round =>
    obtain ⟨x, f, s, hs, hg, rfl, rfl, hf, hq, hb⟩ := hrel
    by_cases hx0 : 0 < x
    · have hx0' : (0 : Int) < (x : Int) := by omega
      have hcv := conv1 wr x
      obtain ⟨y, hy⟩ : ∃ y : Nat, (x : Int) / 10 = (y : Int) := ⟨x / 10, by omega⟩
      have hy1 : y < x := by omega
      have HY : Hid (digs k k ⟨#[]⟩ = digs (f - 1) y (⟨#[dg x]⟩ ++ s)) := by
        show _ = _
        rw [hq.out]
        obtain ⟨f', rfl⟩ : ∃ f', f = f' + 1 := ⟨f - 1, by omega⟩
        rw [digs, if_pos hx0, show x / 10 = y by omega]
        rfl
      go_wp2_with fail
      go_roundg y
      case measure => have := hg.out; omega
      case rel => exact ⟨y, f - 1, ⟨#[dg x]⟩ ++ s, by rw [ByteArray.size_append]; show 1 + s.size + y ≤ _; omega, rfl, rfl, rfl, by omega, HY, hb.alloc hb.size _⟩
    · have hx0' : ¬ (0 : Int) < (x : Int) := by omega
      have HX : Hid (digs k k ⟨#[]⟩ = s) := by
        show _ = _
        rw [hq.out, show x = 0 by omega]
        cases f with
        | zero => rfl
        | succ f => rw [digs, if_neg (by omega)]
      go_wp2_with fail
      go_ret
      exact ⟨by show Ending.returned (.string _) = Ending.returned (.string _); unfold mkT; rw [HX.out], hb⟩

theorem markText_to (x : Int) (k : Nat) (w : World) (e : x = k) (h0 : 1 ≤ k) (h1 : k ≤ 100000000) :
    Calls Tryz.prog 112 #[.int .i64 x] w fun e w' => e = .returned (.string (mkT k)) ∧ Below w.heap.size w w' := by
  subst e
  exact markText_big k w h0 h1
/-- A list of what is done in a row of its own. -/
def OpRow (w : World) (B : Nat) (a : Option Addr) (n g cap : Nat) (f : Nat → Value) : Prop := n ≠ 0 → a = some ⟨g, 0, none⟩ ∧ B ≤ g ∧ n ≤ cap ∧ w.rowIs g 27 (cap * 7) f
def OpCell (f : Nat → Value) (i : Nat) : Prop := ∃ o : LOp, opF f i o
theorem OwnOps.row {w : World} {B : Nat} {v : Value} {l : List LOp} (h : OwnOps w B v l) : ∃ a c g cap f, v = .slice a l.length c ∧ B ≤ g ∧ OpRow w B a l.length g cap f ∧ ∀ i, i < l.length → OpCell f i := by
  rcases h.2 with ⟨rfl, h0⟩ | ⟨g, cap, cur, rfl, hb, hg, hnc, hcm, hcs, htake⟩
  · exact ⟨none, 0, B, 0, fun _ => default, by rw [h0], Nat.le_refl _, fun hn => absurd h0 hn, fun i hi => by omega⟩
  · refine ⟨_, cap, g, cap, fun i => cur[i]?.getD default, rfl, hb, fun _ => ⟨rfl, hb, hnc, ⟨cur, hg, by omega, fun i hi => by simp [Array.getElem?_eq_getElem (show i < cur.size by omega)]⟩⟩, fun i hi => ⟨l[i], ?_⟩⟩
    have hq : ∀ t u, t < 7 → (l[i]).val[t]? = some u → cur[i * 7 + t]?.getD default = u := fun t u ht hu => by
      have h1 := opCells_at l i l[i] (by simp [hi]) t u hu
      rw [← htake, List.getElem?_take_of_lt (by omega)] at h1
      simp at h1
      simp [h1]
    exact ⟨by simpa using hq 0 _ (by omega) (by simp [LOp.val]), hq 1 _ (by omega) (by simp [LOp.val]), hq 2 _ (by omega) (by simp [LOp.val]), hq 3 _ (by omega) (by simp [LOp.val]), hq 4 _ (by omega) (by simp [LOp.val]), hq 5 _ (by omega) (by simp [LOp.val]), hq 6 _ (by omega) (by simp [LOp.val])⟩
theorem OpRow.at_ {w : World} {B : Nat} {a : Option Addr} {n g cap : Nat} {f : Nat → Value} (H : OpRow w B a n g cap f) {i : Nat} (hi : i < n) {o : LOp} (h : opF f i o) : a = some ⟨g, 0, none⟩ ∧ g < w.heap.size ∧ OpAt w g (i * 7) o := by
  obtain ⟨h1, _, h3, h4⟩ := H (by omega)
  obtain ⟨q0, q1, q2, q3, q4, q5, q6⟩ := h
  exact ⟨h1, h4.lt, by rw [h4.cell (by omega), q0], by rw [h4.cell (by omega), q1], by rw [h4.cell (by omega), q2], by rw [h4.cell (by omega), q3], by rw [h4.cell (by omega), q4], by rw [h4.cell (by omega), q5], by rw [h4.cell (by omega), q6]⟩
end Go.Proofs.YtnolbfijcnldjaaGreatDoor

/- A tree of one's own, written over and read again. -/
namespace Go.Proofs.YtnolbfijcnldjaaGreatDoor
open Go.RowKit

theorem digs_size : ∀ (f x : Nat) (s : ByteArray), (digs f x s).size ≤ s.size + f
  | 0, x, s => by simp [digs]
  | f + 1, x, s => by
    rw [digs]
    split
    · have := digs_size f (x / 10) (⟨#[dg x]⟩ ++ s)
      rw [ByteArray.size_append] at this
      have h1 : (⟨#[dg x]⟩ : ByteArray).size = 1 := rfl
      omega
    · omega
theorem mkT_size (k : Nat) (hk : k ≤ 1000000) : (mkT k).size ≤ maxLen := by
  unfold mkT
  rw [ByteArray.size_append]
  have := digs_size k k ⟨#[]⟩
  have h1 : (⟨#[109]⟩ : ByteArray).size = 1 := rfl
  have h2 : (⟨#[]⟩ : ByteArray).size = 0 := rfl
  unfold maxLen
  omega
/-- Entries written over from a number on. -/
def mkE (k n : Nat) : List LEnt := (List.range n).map fun i => ⟨mkT (k + 2 * i), ((k + 2 * i + 1 : Nat) : Int)⟩
theorem mkE_len (k n : Nat) : (mkE k n).length = n := by simp [mkE]
theorem mkE_at (k n i : Nat) (hi : i < n) : (mkE k n)[i]? = some ⟨mkT (k + 2 * i), ((k + 2 * i + 1 : Nat) : Int)⟩ := by simp [mkE, hi]
theorem mkE_size (k n : Nat) (hk : k + 2 * n ≤ 1000000) : ∀ e ∈ mkE k n, e.name.size ≤ maxLen := by
  intro e he
  simp only [mkE, List.mem_map, List.mem_range] at he
  obtain ⟨i, hi, rfl⟩ := he
  exact mkT_size _ (by omega)
theorem entCells_set (es : List LEnt) (i : Nat) (x : LEnt) (hi : i < es.length) : ((entCells es).set (i * 2) (.string x.name)).set (i * 2 + 1) (.int .i64 x.id) = entCells (es.set i x) := by
  induction es generalizing i with
  | nil => simp at hi
  | cons e r ih =>
    cases i with
    | zero => simp [entCells]
    | succ i =>
      have := ih i (by simpa using hi)
      simp only [entCells, List.flatMap_cons, List.set_cons_succ] at this ⊢
      rw [show (i + 1) * 2 = i * 2 + 1 + 1 by omega]
      simp only [List.cons_append, List.nil_append, List.set_cons_succ]
      rw [this]
theorem OwnEnts.setEnt {w : World} {B g n cap i : Nat} {es : List LEnt} (h : OwnEnts w B (.slice (some ⟨g, 0, none⟩) n cap) es) (hi : i < n) (s : ByteArray) (z : Int) :
    OwnEnts ((w.setCell ⟨g, i * 2, none⟩ (.string s)).setCell ⟨g, i * 2 + 1, none⟩ (.int .i64 z)) B (.slice (some ⟨g, 0, none⟩) n cap) (es.set i ⟨s, z⟩) := by
  obtain ⟨cur, hB, hg, hn, hnc, hcm, hcs, ht⟩ := h.open_
  refine OwnEnts.mk_ hB (heap_setCell_same _ g (i * 2 + 1) _ 53 _ (heap_setCell_same w g (i * 2) cur 53 _ hg)) (by simp [hn]) hnc hcm (by simpa using hcs) ?_
  rw [← entCells_set es i ⟨s, z⟩ (by omega), ← ht]
  simp [List.take_set]
theorem OwnEnts.cells {w : World} {B g n cap : Nat} {es : List LEnt} (h : OwnEnts w B (.slice (some ⟨g, 0, none⟩) n cap) es) {i : Nat} {e : LEnt} (he : es[i]? = some e) :
    w.cell? ⟨g, i * 2, none⟩ = some (.string e.name) ∧ w.cell? ⟨g, i * 2 + 1, none⟩ = some (.int .i64 e.id) ∧ g < w.heap.size ∧ (∀ k, w.frozen? ⟨g, k, none⟩ = false) ∧ B ≤ g := by
  obtain ⟨cur, hB, hg, hn, hnc, hcm, hcs, ht⟩ := h.open_
  obtain ⟨c0, c1⟩ := entCells_at es i e he
  have hi : i < es.length := (List.getElem?_eq_some_iff.1 he).1
  rw [← ht] at c0 c1
  have hrow : w.rowIs g 53 (cap * 2) (fun k => cur.getD k .nilIface) := ⟨cur, hg, hcs, fun k hk => by simp [hcs, hk]⟩
  refine ⟨?_, ?_, hrow.lt, hrow.frozen, hB⟩
  · rw [hrow.cell (by omega)]
    rw [List.getElem?_take_of_lt (by omega)] at c0
    simp at c0
    simp [c0]
  · rw [hrow.cell (by omega)]
    rw [List.getElem?_take_of_lt (by omega)] at c1
    simp at c1
    simp [c1]
/-- The rest of an own row while it is written over. -/
def MkdE (k : Nat) (es cur : List LEnt) (j : Nat) : Prop := cur.length = es.length ∧ (∀ i, i < j → cur[i]? = some ⟨mkT (k + 2 * i), ((k + 2 * i + 1 : Nat) : Int)⟩) ∧ ∀ i, j ≤ i → cur[i]? = es[i]?
theorem MkdE.done {k : Nat} {es cur : List LEnt} (h : MkdE k es cur es.length) : cur = mkE k es.length := by
  refine List.ext_getElem? fun i => ?_
  by_cases hi : i < es.length
  · rw [h.2.1 i hi, mkE_at k _ i hi]
  · rw [List.getElem?_eq_none (by rw [h.1]; omega), List.getElem?_eq_none (by rw [mkE_len]; omega)]
theorem MkdE.next {k : Nat} {es cur : List LEnt} {j : Nat} (h : MkdE k es cur j) (hj : j < es.length) : MkdE k es (cur.set j ⟨mkT (k + 2 * j), ((k + 2 * j + 1 : Nat) : Int)⟩) (j + 1) := by
  refine ⟨by simp [h.1], fun i hi => ?_, fun i hi => ?_⟩
  · by_cases e : i = j
    · subst e; rw [List.getElem?_set_self (by rw [h.1]; omega)]
    · rw [List.getElem?_set_ne (Ne.symm e)]; exact h.2.1 i (by omega)
  · rw [List.getElem?_set_ne (by omega)]; exact h.2.2 i (by omega)

set_option maxHeartbeats 2000000 in
theorem markEntS_own (k0 B g n c : Nat) (es : List LEnt) (w : World) (hk1 : 1 ≤ k0) (hk2 : k0 + 2 * n ≤ 900000) (H : OwnEnts w B (.slice (some ⟨g, 0, none⟩) n c) es) :
    Calls Tryz.prog 163 #[.slice (some ⟨g, 0, none⟩) n c, .int .i64 (k0 : Int)] w fun e w' => e = .returned (.int .i64 ((k0 + 2 * n : Nat) : Int)) ∧ OwnEnts w' B (.slice (some ⟨g, 0, none⟩) n c) (mkE k0 n) ∧ w.grownBy w' (some g) := by
  have HN : Hid (n = es.length) := by obtain ⟨cur, _, _, h, _⟩ := H.open_; exact h
  have HH : Hid (OwnEnts w B (.slice (some ⟨g, 0, none⟩) n c) es) := H
  clear H
  go_enter Tryz.func163, Tryz.ntmps163
  go_wp2_with fail
  go_loopg [1, 5] n (fun q m i wr => ∃ j : Nat, j ≤ n ∧ Hid (q = n - j) ∧ i = .int .i64 j ∧ m = .int .i64 ((k0 + 2 * j : Nat) : Int) ∧ (∃ cur, Hid (OwnEnts wr B (.slice (some ⟨g, 0, none⟩) n c) cur ∧ MkdE k0 es cur j)) ∧ Hid (w.grownBy wr (some g)))
  case atStart => exact ⟨0, Nat.zero_le _, rfl, rfl, rfl, ⟨es, HH.out, rfl, fun i hi => by omega, fun i _ => rfl⟩, World.grownBy.refl _ _⟩
  case round =>
    obtain ⟨j, hj, hk, rfl, rfl, ⟨cur, hC⟩, hG⟩ := hrel
    by_cases hlt : j < n
    · obtain ⟨e, he⟩ : ∃ e, cur[j]? = some e := ⟨cur[j]'(by rw [hC.out.2.1, ← HN.out]; exact hlt), by simp⟩
      obtain ⟨c0, c1, hgl, hfr, hBg⟩ := hC.out.1.cells he
      have hlt' : (j : Int) < (n : Int) := by omega
      clear he
      go_wp2_with fail
      refine (markText_to _ (k0 + 2 * j) _ (by push_cast; omega) (by omega) (by omega)).mono ?_
      rintro e2 w1 ⟨rfl, hb1⟩
      have d0 : w1.cell? ⟨g, j * 2, none⟩ = some (.string e.name) := by rw [hb1.cell (by simpa using hgl)]; exact c0
      have d1 : w1.cell? ⟨g, j * 2 + 1, none⟩ = some (.int .i64 e.id) := by rw [hb1.cell (by simpa using hgl)]; exact c1
      have z0 : w1.frozen? ⟨g, j * 2, none⟩ = false := by rw [hb1.frozen (by simpa using hgl)]; exact hfr _
      have z1 : w1.frozen? ⟨g, j * 2 + 1, none⟩ = false := by rw [hb1.frozen (by simpa using hgl)]; exact hfr _
      have HG1 : Hid (w.grownBy w1 (some g)) := hG.out.trans ⟨hb1.os, hb1.tape, hb1.output, hb1.size, fun q hq _ => hb1.block q hq⟩
      have HO1 : Hid (OwnEnts w1 B (.slice (some ⟨g, 0, none⟩) n c) cur) := World.ownsRow.kept hC.out.1 (row := none) ⟨hb1.os, hb1.tape, hb1.output, hb1.size, fun q hq _ => hb1.block q hq⟩ (.inr (by simp [Value.ownBlock]))
      clear c0 c1 hfr hb1
      go_wp2_with fail
      go_roundg (n - (j + 1))
      case measure => have := hk.out; omega
      case rel =>
        refine ⟨j + 1, by omega, rfl, by go_num, by go_num, ⟨cur.set j ⟨mkT (k0 + 2 * j), ((k0 + 2 * j + 1 : Nat) : Int)⟩, ?_, hC.out.2.next (by rw [← HN.out]; exact hlt)⟩, ?_⟩
        · have := HO1.out.setEnt hlt (mkT (k0 + 2 * j)) ((k0 + 2 * j + 1 : Nat) : Int)
          push_cast at this ⊢
          exact this
        · exact HG1.out.trans ⟨rfl, rfl, rfl, by simp, fun q hq hne => by
            have h9 : q ≠ g := fun e => hne (by rw [e])
            rw [Below.heap_setCell _ ⟨g, j * 2 + 1, none⟩ _ q h9, Below.heap_setCell _ ⟨g, j * 2, none⟩ _ q h9]⟩
    · obtain rfl : j = n := by omega
      have HE : Hid (cur = mkE k0 j) := by show _ = _; have h9 := hC.out.2; rw [HN.out] at h9; rw [h9.done, HN.out]
      go_wp2_with fail
      go_ret
      exact ⟨rfl, by rw [← HE.out]; exact hC.out.1, hG.out⟩

set_option maxHeartbeats 2000000 in
theorem heldEntS_own (k0 B g n c : Nat) (w : World) (hk1 : 1 ≤ k0) (hk2 : k0 + 2 * n ≤ 900000) (H : OwnEnts w B (.slice (some ⟨g, 0, none⟩) n c) (mkE k0 n)) :
    Calls Tryz.prog 164 #[.slice (some ⟨g, 0, none⟩) n c, .int .i64 (k0 : Int)] w fun e w' => e = .returned (.int .i64 ((k0 + 2 * n : Nat) : Int)) ∧ Below w.heap.size w w' := by
  have HH : Hid (OwnEnts w B (.slice (some ⟨g, 0, none⟩) n c) (mkE k0 n)) := H
  clear H
  go_enter Tryz.func164, Tryz.ntmps164
  go_wp2_with fail
  go_loopg [1, 5] n (fun q m i wr => ∃ j : Nat, j ≤ n ∧ Hid (q = n - j) ∧ i = .int .i64 j ∧ m = .int .i64 ((k0 + 2 * j : Nat) : Int) ∧ Below w.heap.size w wr)
  case atStart => exact ⟨0, Nat.zero_le _, rfl, rfl, rfl, Below.refl _ _⟩
  case round =>
    obtain ⟨j, hj, hk, rfl, rfl, hb⟩ := hrel
    by_cases hlt : j < n
    · obtain ⟨c0, c1, hgl, hfr, hBg⟩ := HH.out.cells (mkE_at k0 n j hlt)
      have hsb := hb.size
      have d0 : wr.cell? ⟨g, j * 2, none⟩ = some (.string (mkT (k0 + 2 * j))) := by rw [hb.cell (by simpa using hgl)]; exact c0
      have D1 : Hid (∀ w1, Below wr.heap.size wr w1 → w1.cell? ⟨g, j * 2 + 1, none⟩ = some (.int .i64 ((k0 + 2 * j + 1 : Nat) : Int))) := fun w1 h => by rw [h.cell (by simp; omega), hb.cell (by simpa using hgl)]; exact c1
      have hlt' : (j : Int) < (n : Int) := by omega
      clear c0 c1 hfr
      go_upto_region 4 with fail
      go_cut [19] (fun s wx => s = .bool false ∧ Below wr.heap.size wr wx)
      case first =>
        go_region_with (go_at_call 112; go_must (refine (markText_to _ (k0 + 2 * j) _ (by push_cast; omega) (by omega) (by omega)).mono ?_; rintro e w1 ⟨rfl, hb1⟩; have dd : w1.cell? ⟨g, j * 2, none⟩ = some (.string (mkT (k0 + 2 * j))) := (by rw [hb1.cell (by simp; omega)]; exact d0)))
        all_goals
          go_wp2_with fail
          go_meet
          exact ⟨by simp, (Below.refl _ _).drew.trans (hb1.mono (by simp))⟩
      obtain ⟨rfl, hb1⟩ := hcut
      have d1 := D1.out _ hb1
      have hb2 := hb.trans (hb1.mono hsb)
      clear d0 D1 hb1 hb
      push_cast at d1
      go_wp2_with fail
      go_roundg (n - (j + 1))
      case measure => have := hk.out; omega
      case rel => exact ⟨j + 1, by omega, rfl, by go_num, by go_num, hb2⟩
    · obtain rfl : j = n := by omega
      go_wp2_with fail
      go_ret
      exact ⟨rfl, hb⟩
end Go.Proofs.YtnolbfijcnldjaaGreatDoor

/- A tree of one's own, written over and read again: its objects. -/
namespace Go.Proofs.YtnolbfijcnldjaaGreatDoor
open Go.RowKit

theorem markEntS_v (x : Int) (k0 B : Nat) (e : x = k0) (v : Value) (es : List LEnt) (w : World) (hk1 : 1 ≤ k0) (hk2 : k0 + 2 * es.length ≤ 900000) (H : OwnEnts w B v es) :
    Calls Tryz.prog 163 #[v, .int .i64 x] w fun e w' => e = .returned (.int .i64 ((k0 + 2 * es.length : Nat) : Int)) ∧ OwnEnts w' B v (mkE k0 es.length) ∧ w.grownBy w' v.ownBlock := by
  subst e
  rcases H.2 with ⟨rfl, h0⟩ | ⟨g, cap, cur, rfl, hB, hg, hnc, hcm, hcs, ht⟩
  · obtain rfl : es = [] := List.eq_nil_of_length_eq_zero h0
    refine (markEntS_nil _ _).mono ?_
    rintro e w' ⟨rfl, rfl⟩
    exact ⟨rfl, OwnEnts.bare _ _, World.grownBy.refl _ _⟩
  · refine (markEntS_own k0 B g es.length cap es w hk1 hk2 H).mono ?_
    rintro e w' ⟨rfl, h1, h2⟩
    exact ⟨rfl, h1, h2⟩
theorem heldEntS_v (x : Int) (k0 B n : Nat) (e : x = k0) (v : Value) (w : World) (hk1 : 1 ≤ k0) (hk2 : k0 + 2 * n ≤ 900000) (H : OwnEnts w B v (mkE k0 n)) :
    Calls Tryz.prog 164 #[v, .int .i64 x] w fun e w' => e = .returned (.int .i64 ((k0 + 2 * n : Nat) : Int)) ∧ Below w.heap.size w w' := by
  subst e
  rcases H.2 with ⟨rfl, h0⟩ | ⟨g, cap, cur, rfl, hB, hg, hnc, hcm, hcs, ht⟩
  · obtain rfl : n = 0 := by rw [mkE_len] at h0; exact h0
    refine (heldEntS_nil _ _).mono ?_
    rintro e w' ⟨rfl, rfl⟩
    exact ⟨rfl, Below.refl _ _⟩
  · rw [mkE_len] at H ⊢
    exact heldEntS_own k0 B g n cap w hk1 hk2 H

theorem OwnT.rekids {w w' : World} {B b c : Nat} {os : List LObj} {vs : Nat → Value} (h : OwnT w B b c os vs) {i : Nat} {o : LObj} (ho : os[i]? = some o) (hg : w.grownBy w' (vs i).ownBlock) {es : List LEnt} (hv : OwnEnts w' B (vs i) es) (hs : ∀ e ∈ es, e.name.size ≤ maxLen) : OwnT w' B b c (os.set i { o with kids := es }) vs := by
  obtain ⟨cur, hr, hcs, hlc, hcm⟩ := h.row
  have hlt : i < os.length := (List.getElem?_eq_some_iff.1 ho).1
  have hb : some b ≠ (vs i).ownBlock := Ne.symm (h.kids_ne (h.at_ i o ho).2.2.2.2.2.1)
  refine ⟨h.lo, ⟨cur, by rw [hg.block b h.lt hb]; exact hr, hcs, by simpa using hlc, hcm⟩, fun j p hp => ?_, fun j k g hj hk => h.apart j k g (by simpa using hj) (by simpa using hk)⟩
  by_cases hji : j = i
  · subst hji
    rw [List.getElem?_set_self hlt] at hp
    simp at hp; subst hp
    obtain ⟨h1, h2, h3, h4, h5, h6, h7⟩ := h.at_ j o ho
    refine ⟨h1, ?_, ?_, ?_, ?_, hv, hs⟩ <;> (rw [hg.cell_far _ h.lt hb]; assumption)
  · rw [List.getElem?_set_ne (Ne.symm hji)] at hp
    obtain ⟨h1, h2, h3, h4, h5, h6, h7⟩ := h.at_ j p hp
    have hjl : j < os.length := (List.getElem?_eq_some_iff.1 hp).1
    have hne : (vs j).ownBlock = none ∨ (vs j).ownBlock ≠ (vs i).ownBlock := by
      rcases e : (vs j).ownBlock with _ | g
      · exact .inl rfl
      · exact .inr fun e2 => h.apart j i g hjl hlt hji e e2.symm
    refine ⟨h1, ?_, ?_, ?_, ?_, World.ownsRow.kept h6 hg hne, h7⟩ <;> (rw [hg.cell_far _ h.lt hb]; assumption)

theorem retI {a b : Nat} (h : a = b) : Ending.returned (.int .i64 (a : Int)) = .returned (.int .i64 (b : Int)) := by rw [h]
/-- The number at which an object is written over. -/
def kAt (k0 : Nat) (os : List LObj) (i : Nat) : Nat := k0 + 3 * i + 2 * ((os.take i).map fun o => o.kids.length).sum
theorem kAt_succ {k0 : Nat} {os : List LObj} {i : Nat} {o : LObj} (ho : os[i]? = some o) : kAt k0 os (i + 1) = kAt k0 os i + 3 + 2 * o.kids.length := by
  have hi : i < os.length := (List.getElem?_eq_some_iff.1 ho).1
  have he : os[i] = o := (List.getElem?_eq_some_iff.1 ho).2
  unfold kAt
  rw [List.take_succ_eq_append_getElem hi]
  simp [he]
  omega
def KB (os : List LObj) (M : Nat) : Prop := ∀ o ∈ os, o.kids.length ≤ M
theorem kAt_le {k0 M : Nat} {os : List LObj} (h : KB os M) : ∀ i, i ≤ os.length → kAt k0 os i ≤ k0 + i * (3 + 2 * M)
  | 0, _ => by simp [kAt]
  | i + 1, hi => by
    have h1 := kAt_le h (k0 := k0) i (by omega)
    have h2 := h os[i] (List.getElem_mem _)
    have e : (i + 1) * (3 + 2 * M) = i * (3 + 2 * M) + (3 + 2 * M) := Nat.succ_mul _ _
    rw [kAt_succ (o := os[i]) (by simp [show i < os.length by omega]), e]
    generalize i * (3 + 2 * M) = X at *
    omega
def markO (k : Nat) (o : LObj) : LObj := ⟨(k : Int), ((k + 1 : Nat) : Int), mkT (k + 2), mkE (k + 3) o.kids.length⟩
def MkdO (k0 : Nat) (os cur : List LObj) (j : Nat) : Prop := cur.length = os.length ∧ (∀ i o, i < j → os[i]? = some o → cur[i]? = some (markO (kAt k0 os i) o)) ∧ ∀ i, j ≤ i → cur[i]? = os[i]?
theorem MkdO.next {k0 j : Nat} {os cur : List LObj} {o : LObj} (h : MkdO k0 os cur j) (ho : os[j]? = some o) : MkdO k0 os (cur.set j (markO (kAt k0 os j) o)) (j + 1) := by
  have hj : j < os.length := (List.getElem?_eq_some_iff.1 ho).1
  refine ⟨by simp [h.1], fun i p hi hp => ?_, fun i hi => ?_⟩
  · by_cases e : i = j
    · subst e; rw [ho] at hp; cases hp; rw [List.getElem?_set_self (by rw [h.1]; omega)]
    · rw [List.getElem?_set_ne (Ne.symm e)]; exact h.2.1 i p (by omega) hp
  · rw [List.getElem?_set_ne (by omega)]; exact h.2.2 i (by omega)

set_option maxHeartbeats 4000000 in
set_option maxRecDepth 20000 in
theorem markObjS_own (k0 B b n c : Nat) (os : List LObj) (vs : Nat → Value) (w : World) (hn : n = os.length) (hk1 : 1 ≤ k0) (hk2 : ∀ i, i ≤ n → kAt k0 os i ≤ 800000) (H : OwnT w B b c os vs) :
    Calls Tryz.prog 109 #[.slice (some ⟨b, 0, none⟩) n c, .int .i64 (k0 : Int)] w fun e w' => e = .returned (.int .i64 (kAt k0 os n : Int)) ∧ (∃ cur, OwnT w' B b c cur vs ∧ MkdO k0 os cur n) ∧ Below B w w' ∧ Kt w w' b n vs := by
  have HN : Hid (n = os.length) := hn
  have HH : Hid (OwnT w B b c os vs) := H
  have HK : Hid (∀ i, i ≤ n → kAt k0 os i ≤ 800000) := hk2
  have hnb : n ≤ 800000 := by have := hk2 n (Nat.le_refl _); unfold kAt at this; omega
  clear H hn hk2
  go_enter Tryz.func109, Tryz.ntmps109
  go_wp2_with fail
  go_loopg [1, 5] n (fun q m i wr => ∃ j : Nat, j ≤ n ∧ Hid (q = n - j) ∧ i = .int .i64 j ∧ (∃ K : Nat, m = .int .i64 (K : Int) ∧ Hid (K = kAt k0 os j) ∧ 1 ≤ K) ∧ (∃ cur, Hid (OwnT wr B b c cur vs ∧ MkdO k0 os cur j)) ∧ Hid (Below B w wr) ∧ Hid (Kt w wr b n vs ∧ w.heap.size ≤ wr.heap.size))
  case atStart => exact ⟨0, Nat.zero_le _, rfl, rfl, ⟨k0, rfl, by show _ = _; simp [kAt], hk1⟩, ⟨os, HH.out, rfl, fun i o hi => by omega, fun i _ => rfl⟩, Below.refl _ _, fun _ _ _ _ => rfl, Nat.le_refl _⟩
  case round =>
    obtain ⟨j, hj, hk, rfl, ⟨K, rfl, hK, hK1⟩, ⟨cur, hC⟩, hB, hT⟩ := hrel
    by_cases hlt : j < n
    · obtain ⟨o, ho⟩ : ∃ o, os[j]? = some o := ⟨os[j]'(by rw [← HN.out]; exact hlt), by simp⟩
      have hco : cur[j]? = some o := by rw [hC.out.2.2.2 j (Nat.le_refl _)]; exact ho
      have hcl : j < cur.length := (List.getElem?_eq_some_iff.1 hco).1
      have hK2 : K + 3 + 2 * o.kids.length ≤ 800000 := by
        have h1 := HK.out (j + 1) hlt
        rw [kAt_succ ho, ← hK.out] at h1
        exact h1
      obtain ⟨-, c0, c1, c2, c3, hown, -⟩ := hC.out.1.at_ j o hco
      have hbl := hC.out.1.lt
      have hBb := hC.out.1.lo
      have hfr : ∀ q, wr.frozen? ⟨b, q, none⟩ = false := hC.out.1.frozen
      have z0 := hfr (j * 4)
      have z1 := hfr (j * 4 + 1)
      have HO : Hid (os[j]? = some o) := ho
      have T1 : Hid (∀ y1 y2 : Int, OwnT ((wr.setCell ⟨b, j * 4, none⟩ (.int .i64 y1)).setCell ⟨b, j * 4 + 1, none⟩ (.int .i64 y2)) B b c (cur.set j { o with kind := y1, ver := y2 }) vs) := fun y1 y2 => by
        have h2 := (hC.out.1.setKind hco y1).setVer (List.getElem?_set_self hcl) y2
        simpa using h2
      have e1 : ∀ v, (wr.setCell ⟨b, j * 4, none⟩ v).cell? ⟨b, j * 4 + 1, none⟩ = some (.int .i64 o.ver) := fun v => by rw [World.cell?_setCell_other _ _ _ _ (by simp)]; exact c1
      have hlt' : (j : Int) < (n : Int) := by omega
      have HB1 : Hid (∀ v1 v2 : Value, Below B w ((wr.setCell ⟨b, j * 4, none⟩ v1).setCell ⟨b, j * 4 + 1, none⟩ v2)) := fun v1 v2 => (hB.out.setCell hBb v1).setCell hBb v2
      have HT1 : Hid (∀ v1 v2 : Value, Kt w ((wr.setCell ⟨b, j * 4, none⟩ v1).setCell ⟨b, j * 4 + 1, none⟩ v2) b n vs) := fun v1 v2 => (hT.out.1.set _ v1).set _ v2
      clear ho hown hfr
      go_wp2_with fail
      refine (markText_to _ (K + 2) _ (by push_cast; omega) (by omega) (by omega)).mono ?_
      rintro e w1 ⟨rfl, hb1⟩
      have T2 := (T1.out (K : Int) ((K : Int) + 1)).below hb1
      have HB2 : Hid (Below B w w1) := (HB1.out (.int .i64 (K : Int)) (.int .i64 ((K : Int) + 1))).trans (hb1.mono (by simp; omega))
      have HT2 : Hid (Kt w (w1.setCell ⟨b, j * 4 + 2, none⟩ (.string (mkT (K + 2)))) b n vs) := ((HT1.out (.int .i64 (K : Int)) (.int .i64 ((K : Int) + 1))).step fun q h1 _ _ => hb1.block q (by have := hT.out.2; simp; omega)).set _ _
      have HS2 : Hid (w.heap.size ≤ w1.heap.size) := by show _ ≤ _; have := hb1.size; have := hT.out.2; simp at *; omega
      have hc2 : (cur.set j { o with kind := (K : Int), ver := (K : Int) + 1 })[j]? = some { o with kind := (K : Int), ver := (K : Int) + 1 } := List.getElem?_set_self hcl
      obtain ⟨-, -, -, d2, d3', -, -⟩ := T2.at_ j _ hc2
      have d3 : ∀ v, (w1.setCell ⟨b, j * 4 + 2, none⟩ v).cell? ⟨b, j * 4 + 3, none⟩ = some (vs j) := fun v => by rw [World.cell?_setCell_other _ _ _ _ (by simp)]; exact d3'
      have z2 := T2.frozen (j * 4 + 2)
      have T3 := T2.setText hc2 (mkT (K + 2)) (mkT_size _ (by omega))
      simp only [List.set_set] at T3
      have hc3 : (cur.set j { o with kind := (K : Int), ver := (K : Int) + 1, text := mkT (K + 2) })[j]? = some { o with kind := (K : Int), ver := (K : Int) + 1, text := mkT (K + 2) } := List.getElem?_set_self hcl
      have HT3 : Hid (OwnT (w1.setCell ⟨b, j * 4 + 2, none⟩ (.string (mkT (K + 2)))) B b c (cur.set j { o with kind := (K : Int), ver := (K : Int) + 1, text := mkT (K + 2) }) vs) := T3
      have HC3 : Hid ((cur.set j { o with kind := (K : Int), ver := (K : Int) + 1, text := mkT (K + 2) })[j]? = some { o with kind := (K : Int), ver := (K : Int) + 1, text := mkT (K + 2) }) := hc3
      have HE : Hid (OwnEnts (w1.setCell ⟨b, j * 4 + 2, none⟩ (.string (mkT (K + 2)))) B (vs j) o.kids) := (T3.at_ j _ hc3).2.2.2.2.2.1
      have HB3 : Hid (Below B w (w1.setCell ⟨b, j * 4 + 2, none⟩ (.string (mkT (K + 2))))) := HB2.out.setCell hBb _
      have HBV : Hid (∀ q, (vs j).ownBlock = some q → B ≤ q) := fun q hq => (World.ownsRow.lt HE.out q hq).1
      clear c0 c1 c2 c3 e1 z0 z1 T1 T2 T3 hc2 hc3 d3' hb1 HB1 HB2 hco
      go_wp2_with fail
      refine (markEntS_v _ (K + 3) B (by push_cast; omega) (vs j) o.kids _ (by omega) (by omega) HE.out).mono ?_
      rintro e w2 ⟨rfl, hE2, hg2⟩
      have T4 := HT3.out.rekids HC3.out hg2 hE2 (mkE_size _ _ (by omega))
      simp only [List.set_set] at T4
      have HT4 : Hid (OwnT w2 B b c (cur.set j (markO K o)) vs) := by show OwnT _ _ _ _ _ _; unfold markO; push_cast; exact T4
      have HB4 : Hid (Below B w w2) := HB3.out.trans ⟨hg2.os, hg2.tape, hg2.output, hg2.size, fun q hq => hg2.block q (by have := HB3.out.size; have := HT3.out.lt; omega) fun e => by have := HBV.out q e.symm; omega⟩
      have HT4k : Hid (Kt w w2 b n vs ∧ w.heap.size ≤ w2.heap.size) := ⟨HT2.out.step fun q h1 _ h3 => hg2.block q (by have := HS2.out; simp; omega) (fun e => h3 j hlt e.symm), by have := hg2.size; have := HS2.out; simp at *; omega⟩
      clear T4 hE2 hg2 d2 d3 z2 HE HB3 HT1
      go_wp2_with fail
      go_roundg (n - (j + 1))
      case measure => have := hk.out; omega
      case rel =>
        refine ⟨j + 1, by omega, rfl, by go_num, ⟨K + 3 + 2 * o.kids.length, by go_num, by show _ = _; rw [kAt_succ HO.out, hK.out], by omega⟩, ⟨cur.set j (markO K o), HT4.out, ?_⟩, HB4.out, HT4k.out⟩
        rw [hK.out]
        exact hC.out.2.next HO.out
    · obtain rfl : j = n := by omega
      go_wp2_with fail
      go_ret
      exact ⟨retI hK.out, ⟨cur, hC.out⟩, hB.out, hT.out.1⟩

set_option maxHeartbeats 4000000 in
set_option maxRecDepth 20000 in
theorem heldObjS_own (k0 B b n c : Nat) (os cur : List LObj) (vs : Nat → Value) (w : World) (hn : n = os.length) (hk1 : 1 ≤ k0) (hk2 : ∀ i, i ≤ n → kAt k0 os i ≤ 800000) (H : OwnT w B b c cur vs) (hM : MkdO k0 os cur n) :
    Calls Tryz.prog 110 #[.slice (some ⟨b, 0, none⟩) n c, .int .i64 (k0 : Int)] w fun e w' => e = .returned (.int .i64 (kAt k0 os n : Int)) ∧ Below w.heap.size w w' := by
  have HN : Hid (n = os.length) := hn
  have HH : Hid (OwnT w B b c cur vs ∧ MkdO k0 os cur n) := ⟨H, hM⟩
  have HK : Hid (∀ i, i ≤ n → kAt k0 os i ≤ 800000) := hk2
  have hnb : n ≤ 800000 := by have := hk2 n (Nat.le_refl _); unfold kAt at this; omega
  have hbl := H.lt
  clear H hn hk2 hM
  go_enter Tryz.func110, Tryz.ntmps110
  go_wp2_with fail
  go_loopg [1, 5] n (fun q m i wr => ∃ j : Nat, j ≤ n ∧ Hid (q = n - j) ∧ i = .int .i64 j ∧ (∃ K : Nat, m = .int .i64 (K : Int) ∧ Hid (K = kAt k0 os j) ∧ 1 ≤ K) ∧ Below w.heap.size w wr)
  case atStart => exact ⟨0, Nat.zero_le _, rfl, rfl, ⟨k0, rfl, by show _ = _; simp [kAt], hk1⟩, Below.refl _ _⟩
  case round =>
    obtain ⟨j, hj, hk, rfl, ⟨K, rfl, hK, hK1⟩, hb⟩ := hrel
    by_cases hlt : j < n
    · obtain ⟨o, ho⟩ : ∃ o, os[j]? = some o := ⟨os[j]'(by rw [← HN.out]; exact hlt), by simp⟩
      have hK2 : K + 3 + 2 * o.kids.length ≤ 800000 := by
        have h1 := HK.out (j + 1) hlt
        rw [kAt_succ ho, ← hK.out] at h1
        exact h1
      have hco := HH.out.2.2.1 j o hlt ho
      rw [← hK.out] at hco
      have HO : Hid (os[j]? = some o) := ho
      have hsb := hb.size
      have TT : Hid (OwnT wr B b c cur vs) := HH.out.1.below hb
      obtain ⟨-, c0, c1, c2, -, -, -⟩ := TT.out.at_ j _ hco
      simp only [markO] at c0 c1 c2
      push_cast at c1
      have HCO : Hid (cur[j]? = some (markO K o)) := hco
      have hlt' : (j : Int) < (n : Int) := by omega
      clear ho hco
      go_upto_region 10 with fail
      go_cut [37] (fun s wx => s = .bool false ∧ Below wr.heap.size wr wx)
      case first =>
        go_region_with (go_at_call 112; go_must (refine (markText_to _ (K + 2) _ (by push_cast; omega) (by omega) (by omega)).mono ?_; rintro e w1 ⟨rfl, hb1⟩; have dd : w1.cell? ⟨b, j * 4 + 2, none⟩ = some (.string (mkT (K + 2))) := (by rw [hb1.cell (by simp; omega)]; exact c2)))
        all_goals
          go_wp2_with fail
          go_meet
          exact ⟨by simp, (Below.refl _ _).drew.trans (hb1.mono (by simp))⟩
      obtain ⟨rfl, hb1⟩ := hcut
      obtain ⟨W1, rfl⟩ : ∃ W1, W1 = wc := ⟨_, rfl⟩
      have T1 := TT.out.below hb1
      obtain ⟨-, -, -, -, d3, hE, -⟩ := T1.at_ j _ HCO.out
      have HE : Hid (OwnEnts W1 B (vs j) (mkE (K + 3) o.kids.length)) := hE
      have hb2 : Below w.heap.size w W1 := hb.trans (hb1.mono hsb)
      clear c0 c1 c2 hb1 hb T1 hE TT
      go_wp2_with fail
      refine (heldEntS_v _ (K + 3) B o.kids.length (by push_cast; omega) (vs j) _ (by omega) (by omega) HE.out).mono ?_
      rintro e w2 ⟨rfl, hb3⟩
      have hb4 : Below w.heap.size w w2 := hb2.trans (hb3.mono hb2.size)
      have hnn : ¬ (((K + 3 + 2 * o.kids.length : Nat) : Int) < 0) := by omega
      clear d3 HE hb3
      go_wp2_with fail
      go_roundg (n - (j + 1))
      case measure => have := hk.out; omega
      case rel => exact ⟨j + 1, by omega, rfl, by go_num, ⟨K + 3 + 2 * o.kids.length, by go_num, by show _ = _; rw [kAt_succ HO.out, hK.out], by omega⟩, hb4⟩
    · obtain rfl : j = n := by omega
      go_wp2_with fail
      go_ret
      exact ⟨retI hK.out, hb⟩

/-- Numbers of a tree that is written over from one on. -/
structure Slim (n : Nat) (os : List LObj) : Prop where
  len : n = os.length
  le : ∀ i, i ≤ n → kAt 1 os i ≤ 800000
theorem slim_of {n : Nat} {os : List LObj} (hn : n = os.length) (h32 : n ≤ 32) (h : KB os 64) : Slim n os :=
  ⟨hn, fun i hi => by
    have h1 := kAt_le (k0 := 1) h i (by omega)
    have h2 : i * (3 + 2 * 64) ≤ 32 * (3 + 2 * 64) := Nat.mul_le_mul_right _ (by omega)
    omega⟩
set_option maxHeartbeats 2000000 in
theorem markTree_own (B b n c : Nat) (os : List LObj) (vs : Nat → Value) (w : World) (hB : B ≤ w.heap.size) (hs : Slim n os) (H : OwnT w B b c os vs) :
    Calls Tryz.prog 52 #[.agg #[.slice (some ⟨b, 0, none⟩) n c], .int .i64 1] w fun e w' => e = .returned (.int .i64 (kAt 1 os n : Int)) ∧ (∃ cur, OwnT w' B b c cur vs ∧ MkdO 1 os cur n) ∧ Below B w w' ∧ Kt w w' b n vs := by
  have hA : Below w.heap.size w (w.alloc (Obj.cells #[.slice (some ⟨b, 0, none⟩) n c] 25)) := (Below.refl _ _).alloc (Nat.le_refl _) _
  go_enter Tryz.func52, Tryz.ntmps52
  go_wp2_with fail
  refine (markObjS_own 1 B b n c os vs _ hs.len (Nat.le_refl _) hs.le (H.below hA)).mono ?_
  rintro e w1 ⟨rfl, hM, hb, hk⟩
  have hb1 : Below B w w1 := (hA.mono hB).trans hb
  have hk1 : Kt w w1 b n vs := fun q h1 h2 h3 => (hk q (by simp; omega) h2 h3).trans (hA.block q h1)
  clear hA hb hk
  go_wp2_with fail
  go_ret
  exact ⟨rfl, hM, hb1, hk1⟩
set_option maxHeartbeats 2000000 in
theorem heldTree_own (B b n c : Nat) (os cur : List LObj) (vs : Nat → Value) (w : World) (hs : Slim n os) (H : OwnT w B b c cur vs) (hM : MkdO 1 os cur n) :
    Calls Tryz.prog 53 #[.agg #[.slice (some ⟨b, 0, none⟩) n c], .int .i64 1] w fun e w' => e = .returned (.int .i64 (kAt 1 os n : Int)) ∧ Below w.heap.size w w' := by
  have hA : Below w.heap.size w (w.alloc (Obj.cells #[.slice (some ⟨b, 0, none⟩) n c] 25)) := (Below.refl _ _).alloc (Nat.le_refl _) _
  go_enter Tryz.func53, Tryz.ntmps53
  go_wp2_with fail
  refine (heldObjS_own 1 B b n c os cur vs _ hs.len (Nat.le_refl _) hs.le (H.below hA) hM).mono ?_
  rintro e w1 ⟨rfl, hb⟩
  have hb1 : Below w.heap.size w w1 := hA.trans (hb.mono hA.size)
  clear hA hb
  have hk : ¬ ((kAt 1 os n : Int) < 0) := by omega
  go_wp2_with fail
  go_ret
  exact ⟨rfl, hb1⟩
end Go.Proofs.YtnolbfijcnldjaaGreatDoor

/- How many names an object of ActDo's answer has at most. -/
namespace Go.Proofs.YtnolbfijcnldjaaGreatDoor
theorem KB.set {os : List LObj} {M i : Nat} {y : LObj} (h : KB os M) (hy : y.kids.length ≤ M) : KB (os.set i y) M := fun o ho => by
  rcases List.mem_or_eq_of_mem_set ho with h1 | rfl
  · exact h o h1
  · exact hy
theorem KB.mono {os : List LObj} {M N : Nat} (h : KB os M) (hm : M ≤ N) : KB os N := fun o ho => Nat.le_trans (h o ho) hm
theorem KB.get {os : List LObj} {M i : Nat} {o : LObj} (h : KB os M) (ho : os[i]? = some o) : o.kids.length ≤ M := h o (List.mem_of_getElem? ho)
theorem putL_length (x : LEnt) (es : List LEnt) : (putL x es).length = es.length + 1 := by
  have := placeL_le x.name es
  simp [putL]
  omega
theorem KB.turn {os : List LObj} {M : Nat} (h : KB os M) (i : Nat) : KB (turnL os i) M := by
  unfold turnL
  split
  · next o ho => exact h.set (show o.kids.length ≤ M from h.get ho)
  · exact h
theorem KB.turnM {os : List LObj} {M : Nat} (h : KB os M) (i j : Nat) : KB (turnM os i j) M := by
  unfold Go.Proofs.YtnolbfijcnldjaaGreatDoor.turnM
  split
  · exact h.turn i
  · exact (h.turn i).turn j
theorem KB.kids {os : List LObj} {M N : Nat} (h : KB os M) (hm : M ≤ N) (i : Nat) (f : List LEnt → List LEnt) (hf : ∀ es, es.length ≤ M → (f es).length ≤ N) : KB (kidsL os i f) N := by
  unfold kidsL
  split
  · next o ho => exact (h.mono hm).set (hf _ (h.get ho))
  · exact h.mono hm
theorem actDo_KB {os : List LObj} (h : KB os 32) (o : LOp) : KB (actDo os o).1 64 := by
  have h64 := h.mono (show 32 ≤ 64 by omega)
  have hp : ∀ x es, es.length ≤ 32 → (putL x es).length ≤ 64 := fun x es he => by rw [putL_length]; omega
  have ho : ∀ nm es, es.length ≤ 32 → (outL nm es).length ≤ 32 := fun nm es he => Nat.le_trans (outL_le nm es) he
  unfold actDo
  split
  · exact h64
  split
  · unfold actNew
    split
    · next d x hd hx =>
      split
      · exact h64
      split
      · exact h64
      split
      · exact h64
      · exact KB.set (KB.set h64 (Nat.zero_le _)) (hp _ _ (h.get hd))
    · exact h64
  split
  · unfold actGone
    split
    · next d x hd hx =>
      split
      · exact h64
      split
      · exact h64
      split
      · exact h64
      · exact KB.set (KB.set h64 (Nat.le_trans (ho _ _ (h.get hd)) (by omega))) (Nat.zero_le _)
    · exact h64
  split
  · unfold actMove
    split
    · split
      · exact h64
      split
      · exact h64
      split
      · exact h64
      split
      · exact h64
      · exact ((h.kids (Nat.le_refl _) _ _ (ho _)).kids (by omega) _ _ (hp _)).turnM _ _
    · exact h64
  · unfold actText
    split
    · next x hx =>
      split
      · exact h64
      · exact h64.set (show x.kids.length ≤ 64 from Nat.le_trans (h.get hx) (by omega))
    · exact h64
/-- The answer of ActDo can be written over. -/
theorem actR_slim (os : List LObj) (o : LOp) (hl : (actR os o).1.length ≤ 32) : Slim (actR os o).1.length (actR os o).1 := by
  refine slim_of rfl hl ?_
  unfold actR
  split
  · next hs =>
    have h32 : KB os 32 := fun x hx => by
      obtain ⟨i, hi, rfl⟩ := List.getElem_of_mem hx
      exact ok_kids hs (i := i) (by simp [hi])
    split
    · exact actDo_KB h32 o
    · exact h32.mono (by omega)
  · exact fun x hx => by cases hx
theorem actR_len (os : List LObj) (o : LOp) : (actR os o).1.length ≤ 32 := by
  unfold actR
  split
  · next hs =>
    split
    · rw [actDo_len, ok_len hs]; exact Nat.le_refl _
    · rw [ok_len hs]; exact Nat.le_refl _
  · exact Nat.zero_le _
end Go.Proofs.YtnolbfijcnldjaaGreatDoor

/- Any tree that can be written: marked. What is asked of it: it is there, and can be written; what is told: each cell keeps its sort, and nothing but the tree's blocks is changed. -/
namespace Go.Proofs.YtnolbfijcnldjaaGreatDoor
open Go.RowKit

/-- Each cell keeps its sort. -/
structure Keeps (w w' : World) : Prop where
  size : w.heap.size ≤ w'.heap.size
  int : ∀ p k, w.cell? p = some (.int .i64 k) → ∃ k', w'.cell? p = some (.int .i64 k')
  str : ∀ p s, w.cell? p = some (.string s) → ∃ s', w'.cell? p = some (.string s')
  sli : ∀ p a n c, w.cell? p = some (.slice a n c) → w'.cell? p = some (.slice a n c)
  fro : ∀ p, p.block < w.heap.size → w'.frozen? p = w.frozen? p
theorem Keeps.refl (w : World) : Keeps w w := ⟨Nat.le_refl _, fun _ k h => ⟨k, h⟩, fun _ s h => ⟨s, h⟩, fun _ _ _ _ h => h, fun _ _ => rfl⟩
theorem Keeps.trans {a b c : World} (h : Keeps a b) (k : Keeps b c) : Keeps a c :=
  ⟨Nat.le_trans h.size k.size, fun p x hx => by obtain ⟨y, hy⟩ := h.int p x hx; exact k.int p y hy, fun p x hx => by obtain ⟨y, hy⟩ := h.str p x hx; exact k.str p y hy, fun p x y z hx => k.sli p x y z (h.sli p x y z hx), fun p hp => (k.fro p (by have := h.size; omega)).trans (h.fro p hp)⟩
theorem Keeps.below {w w' : World} (h : Below w.heap.size w w') : Keeps w w' :=
  ⟨h.size, fun p x hx => ⟨x, by rw [h.cell (World.block_lt_of_cell? w p hx)]; exact hx⟩, fun p x hx => ⟨x, by rw [h.cell (World.block_lt_of_cell? w p hx)]; exact hx⟩, fun p x y z hx => by rw [h.cell (World.block_lt_of_cell? w p hx)]; exact hx, fun p hp => h.frozen hp⟩
theorem Keeps.setInt {w : World} {p : Addr} {k k' : Int} (h : w.cell? p = some (.int .i64 k)) : Keeps w (w.setCell p (.int .i64 k')) := by
  refine ⟨by simp, fun q x hx => ?_, fun q x hx => ?_, fun q x y z hx => ?_, fun q _ => by simp⟩
  · by_cases e : p = q
    · subst e; exact ⟨k', World.cell?_setCell_same _ _ _ h⟩
    · exact ⟨x, by rw [World.cell?_setCell_other _ _ _ _ e]; exact hx⟩
  · by_cases e : p = q
    · subst e; rw [h] at hx; cases hx
    · exact ⟨x, by rw [World.cell?_setCell_other _ _ _ _ e]; exact hx⟩
  · by_cases e : p = q
    · subst e; rw [h] at hx; cases hx
    · rw [World.cell?_setCell_other _ _ _ _ e]; exact hx
theorem Keeps.setStr {w : World} {p : Addr} {k k' : ByteArray} (h : w.cell? p = some (.string k)) : Keeps w (w.setCell p (.string k')) := by
  refine ⟨by simp, fun q x hx => ?_, fun q x hx => ?_, fun q x y z hx => ?_, fun q _ => by simp⟩
  · by_cases e : p = q
    · subst e; rw [h] at hx; cases hx
    · exact ⟨x, by rw [World.cell?_setCell_other _ _ _ _ e]; exact hx⟩
  · by_cases e : p = q
    · subst e; exact ⟨k', World.cell?_setCell_same _ _ _ h⟩
    · exact ⟨x, by rw [World.cell?_setCell_other _ _ _ _ e]; exact hx⟩
  · by_cases e : p = q
    · subst e; rw [h] at hx; cases hx
    · rw [World.cell?_setCell_other _ _ _ _ e]; exact hx
/-- Nothing but blocks from L on and below U is changed. -/
def Only (L U : Nat) (w w' : World) : Prop := Below L w w' ∧ ∀ b, b < w.heap.size → U ≤ b → w'.heap[b]? = w.heap[b]?
theorem Only.refl (L U : Nat) (w : World) : Only L U w w := ⟨Below.refl _ _, fun _ _ _ => rfl⟩
theorem Only.trans {L U : Nat} {a b c : World} (h : Only L U a b) (k : Only L U b c) : Only L U a c := ⟨h.1.trans k.1, fun i hi hn => (k.2 i (by have := h.1.size; omega) hn).trans (h.2 i hi hn)⟩
theorem Only.below {L U : Nat} {w w' : World} (h : Below w.heap.size w w') (hL : L ≤ w.heap.size) : Only L U w w' := ⟨h.mono hL, fun b hb _ => h.block b hb⟩
theorem Only.set {L U : Nat} {w : World} {p : Addr} (v : Value) (hL : L ≤ p.block) (hU : p.block < U) : Only L U w (w.setCell p v) := ⟨(Below.refl _ _).setCell hL v, fun b _ hn => Below.heap_setCell w p v b (by omega)⟩

/-- Names that can be written. -/
def TypedE (w : World) (L U : Nat) (a : Option Addr) (n : Nat) : Prop := n ≠ 0 → ∃ b off, a = some ⟨b, off, none⟩ ∧ L ≤ b ∧ b < U ∧ b < w.heap.size ∧ (∀ o, w.frozen? ⟨b, o, none⟩ = false) ∧ ∀ i, i < n → (∃ s, w.cell? ⟨b, off + i * 2, none⟩ = some (.string s)) ∧ ∃ k, w.cell? ⟨b, off + i * 2 + 1, none⟩ = some (.int .i64 k)
theorem TypedE.keep {w w' : World} {L U : Nat} {a : Option Addr} {n : Nat} (h : TypedE w L U a n) (k : Keeps w w') : TypedE w' L U a n := fun hn => by
  obtain ⟨b, off, h1, h2, h3, h4, h5, h6⟩ := h hn
  refine ⟨b, off, h1, h2, h3, by have := k.size; omega, fun o => by rw [k.fro _ (by simpa using h4)]; exact h5 o, fun i hi => ?_⟩
  obtain ⟨⟨s, hs⟩, x, hx⟩ := h6 i hi
  exact ⟨k.str _ s hs, k.int _ x hx⟩
/-- Objects that can be written. -/
def TypedO (w : World) (L U : Nat) (a : Option Addr) (n : Nat) (os : List LObj) : Prop := n ≠ 0 → ∃ b off, a = some ⟨b, off, none⟩ ∧ L ≤ b ∧ b < U ∧ b < w.heap.size ∧ (∀ o, w.frozen? ⟨b, o, none⟩ = false) ∧ ∀ i, i < n → (∃ k, w.cell? ⟨b, off + i * 4, none⟩ = some (.int .i64 k)) ∧ (∃ k, w.cell? ⟨b, off + i * 4 + 1, none⟩ = some (.int .i64 k)) ∧ (∃ s, w.cell? ⟨b, off + i * 4 + 2, none⟩ = some (.string s)) ∧ ∃ o ka kc, os[i]? = some o ∧ w.cell? ⟨b, off + i * 4 + 3, none⟩ = some (.slice ka o.kids.length kc) ∧ TypedE w L U ka o.kids.length
theorem TypedO.keep {w w' : World} {L U : Nat} {a : Option Addr} {n : Nat} {os : List LObj} (h : TypedO w L U a n os) (k : Keeps w w') : TypedO w' L U a n os := fun hn => by
  obtain ⟨b, off, h1, h2, h3, h4, h5, h6⟩ := h hn
  refine ⟨b, off, h1, h2, h3, by have := k.size; omega, fun o => by rw [k.fro _ (by simpa using h4)]; exact h5 o, fun i hi => ?_⟩
  obtain ⟨⟨x, hx⟩, ⟨y, hy⟩, ⟨s, hs⟩, o, ka, kc, ho, hc, he⟩ := h6 i hi
  exact ⟨k.int _ x hx, k.int _ y hy, k.str _ s hs, o, ka, kc, ho, k.sli _ _ _ _ hc, he.keep k⟩

set_option maxHeartbeats 1000000 in
theorem markEntS_w (k0 : Nat) (a : Option Addr) (n c L U : Nat) (w : World) (hk1 : 1 ≤ k0) (hk2 : k0 ≤ 50000000) (hbd : n ≤ 1048576) (H : TypedE w L U a n) :
    Calls Tryz.prog 163 #[.slice a n c, .int .i64 (k0 : Int)] w fun e w' => e = .returned (.int .i64 ((k0 + 2 * n : Nat) : Int)) ∧ Keeps w w' ∧ Only L U w w' := by
  have HH : Hid (TypedE w L U a n) := H
  clear H
  go_enter Tryz.func163, Tryz.ntmps163
  go_wp2_with fail
  go_loopg [1, 5] n (fun g m i wr => ∃ j : Nat, j ≤ n ∧ Hid (g = n - j) ∧ i = .int .i64 j ∧ m = .int .i64 ((k0 + 2 * j : Nat) : Int) ∧ Hid (Keeps w wr) ∧ Hid (Only L U w wr))
  case atStart => exact ⟨0, Nat.zero_le _, rfl, rfl, rfl, Keeps.refl _, Only.refl _ _ _⟩
  case round =>
    obtain ⟨j, hj, hk, rfl, rfl, hK, hO⟩ := hrel
    by_cases hlt : j < n
    · obtain ⟨b, off, rfl, hL, hU, hbl, hfr, hcc⟩ := (HH.out.keep hK.out) (by omega)
      obtain ⟨⟨s, c0⟩, x, c1⟩ := hcc j hlt
      have hlt' : (j : Int) < (n : Int) := by omega
      clear hcc
      go_wp2_with fail
      refine (markText_to _ (k0 + 2 * j) _ (by push_cast; omega) (by omega) (by omega)).mono ?_
      rintro e w1 ⟨rfl, hb1⟩
      have d0 : w1.cell? ⟨b, off + j * 2, none⟩ = some (.string s) := by rw [hb1.cell (by simpa using hbl)]; exact c0
      have d1 : w1.cell? ⟨b, off + j * 2 + 1, none⟩ = some (.int .i64 x) := by rw [hb1.cell (by simpa using hbl)]; exact c1
      have hf1 : ∀ o, w1.frozen? ⟨b, o, none⟩ = false := fun o => by rw [hb1.frozen (by simpa using hbl)]; exact hfr o
      have z0 := hf1 (off + j * 2)
      have z1 := hf1 (off + j * 2 + 1)
      have hK1 : Hid (Keeps w w1) := hK.out.trans (Keeps.below hb1)
      have hO1 : Hid (Only L U w w1) := hO.out.trans (Only.below hb1 (by omega))
      have d1' : ∀ v, (w1.setCell ⟨b, off + j * 2, none⟩ v).cell? ⟨b, off + j * 2 + 1, none⟩ = some (.int .i64 x) := fun v => by rw [World.cell?_setCell_other _ _ _ _ (by simp)]; exact d1
      have KS : ∀ (v1 : ByteArray) (v2 : Int), Keeps w1 ((w1.setCell ⟨b, off + j * 2, none⟩ (.string v1)).setCell ⟨b, off + j * 2 + 1, none⟩ (.int .i64 v2)) := fun v1 v2 => (Keeps.setStr d0).trans (Keeps.setInt (d1' _))
      have OS : ∀ (v1 v2 : Value), Only L U w1 ((w1.setCell ⟨b, off + j * 2, none⟩ v1).setCell ⟨b, off + j * 2 + 1, none⟩ v2) := fun v1 v2 => (Only.set v1 hL hU).trans (Only.set v2 hL hU)
      have HKS : Hid (∀ (v1 : ByteArray) (v2 : Int), Keeps w1 ((w1.setCell ⟨b, off + j * 2, none⟩ (.string v1)).setCell ⟨b, off + j * 2 + 1, none⟩ (.int .i64 v2))) := KS
      have HOS : Hid (∀ (v1 v2 : Value), Only L U w1 ((w1.setCell ⟨b, off + j * 2, none⟩ v1).setCell ⟨b, off + j * 2 + 1, none⟩ v2)) := OS
      clear c0 c1 hfr hf1 hb1 KS OS d1'
      go_wp2_with fail
      go_roundg (n - (j + 1))
      case measure => have := hk.out; omega
      case rel => exact ⟨j + 1, by omega, rfl, by go_num, by go_num, hK1.out.trans (HKS.out _ _), hO1.out.trans (HOS.out _ _)⟩
    · obtain rfl : j = n := by omega
      go_wp2_with fail
      go_ret
      exact ⟨rfl, hK.out, hO.out⟩
theorem markEntS_to (x : Int) (k0 : Nat) (e : x = (k0 : Int)) (a : Option Addr) (n c L U : Nat) (w : World) (hk1 : 1 ≤ k0) (hk2 : k0 ≤ 50000000) (hbd : n ≤ 1048576) (H : TypedE w L U a n) :
    Calls Tryz.prog 163 #[.slice a n c, .int .i64 x] w fun e w' => e = .returned (.int .i64 ((k0 + 2 * n : Nat) : Int)) ∧ Keeps w w' ∧ Only L U w w' := by
  subst e; exact markEntS_w k0 a n c L U w hk1 hk2 hbd H

set_option maxHeartbeats 1000000 in
set_option maxRecDepth 20000 in
theorem markObjS_w (k0 : Nat) (a : Option Addr) (n c L U : Nat) (os : List LObj) (w : World) (hk1 : 1 ≤ k0) (hk2 : k0 ≤ 10000000) (hn : n = os.length) (hbd : n + totT os ≤ 1048576) (H : TypedO w L U a n os) :
    Calls Tryz.prog 109 #[.slice a n c, .int .i64 (k0 : Int)] w fun e w' => (∃ k : Nat, e = .returned (.int .i64 (k : Int)) ∧ k0 ≤ k ∧ k ≤ k0 + 3 * n + 2 * totT os) ∧ Keeps w w' ∧ Only L U w w' := by
  have HH : Hid (TypedO w L U a n os) := H
  have HN : Hid (n = os.length) := hn
  clear H hn
  go_enter Tryz.func109, Tryz.ntmps109
  go_wp2_with fail
  go_loopg [1, 5] n (fun g m i wr => ∃ j : Nat, j ≤ n ∧ Hid (g = n - j) ∧ i = .int .i64 j ∧ (∃ k : Nat, m = .int .i64 (k : Int) ∧ k0 ≤ k ∧ k ≤ 20000000 ∧ Hid (k ≤ k0 + 3 * j + 2 * totT (os.take j))) ∧ Hid (Keeps w wr) ∧ Hid (Only L U w wr))
  case atStart => exact ⟨0, Nat.zero_le _, rfl, rfl, ⟨k0, rfl, Nat.le_refl _, by omega, by show _ ≤ _; omega⟩, Keeps.refl _, Only.refl _ _ _⟩
  case round =>
    obtain ⟨j, hj, hk, rfl, ⟨k, rfl, hkl, hku, hkt⟩, hK, hO⟩ := hrel
    by_cases hlt : j < n
    · obtain ⟨b, off, rfl, hL, hU, hbl, hfr, hcc⟩ := (HH.out.keep hK.out) (by omega)
      obtain ⟨⟨x, c0⟩, ⟨y, c1⟩, ⟨s, c2⟩, o, ka, kc, ho, c3, he⟩ := hcc j hlt
      have hlt' : (j : Int) < (n : Int) := by omega
      have htk := totT_take ho
      have hto : o.kids.length ≤ totO o := by unfold totO; omega
      have htl : totT (os.take (j + 1)) ≤ totT os := by
        have h1 : totT os = totT (os.take (j + 1)) + totT (os.drop (j + 1)) := by
          unfold totT
          rw [← List.sum_append, ← List.map_append, List.take_append_drop]
        omega
      have hkids : o.kids.length ≤ 1048576 := by omega
      have hk9 : k + 3 + 2 * o.kids.length ≤ 20000000 := by have := hkt.out; omega
      have HKT : Hid (k + 3 + 2 * o.kids.length ≤ k0 + 3 * (j + 1) + 2 * totT (os.take (j + 1))) := by show _ ≤ _; have := hkt.out; omega
      have z0 := hfr (off + j * 4)
      have z1 := hfr (off + j * 4 + 1)
      have e1 : ∀ v, (wr.setCell ⟨b, off + j * 4, none⟩ v).cell? ⟨b, off + j * 4 + 1, none⟩ = some (.int .i64 y) := fun v => by rw [World.cell?_setCell_other _ _ _ _ (by simp)]; exact c1
      have HK2 : Hid (∀ v1 v2 : Int, Keeps wr ((wr.setCell ⟨b, off + j * 4, none⟩ (.int .i64 v1)).setCell ⟨b, off + j * 4 + 1, none⟩ (.int .i64 v2))) := fun v1 v2 => (Keeps.setInt c0).trans (Keeps.setInt (e1 _))
      have HO2 : Hid (∀ v1 v2 : Value, Only L U wr ((wr.setCell ⟨b, off + j * 4, none⟩ v1).setCell ⟨b, off + j * 4 + 1, none⟩ v2)) := fun v1 v2 => (Only.set v1 hL hU).trans (Only.set v2 hL hU)
      have HC2 : Hid (∀ v1 v2 : Value, ((wr.setCell ⟨b, off + j * 4, none⟩ v1).setCell ⟨b, off + j * 4 + 1, none⟩ v2).cell? ⟨b, off + j * 4 + 2, none⟩ = some (.string s)) := fun v1 v2 => by rw [World.cell?_setCell_other _ _ _ _ (by simp), World.cell?_setCell_other _ _ _ _ (by simp)]; exact c2
      have HC3 : Hid (∀ v1 v2 : Value, ((wr.setCell ⟨b, off + j * 4, none⟩ v1).setCell ⟨b, off + j * 4 + 1, none⟩ v2).cell? ⟨b, off + j * 4 + 3, none⟩ = some (.slice ka o.kids.length kc)) := fun v1 v2 => by rw [World.cell?_setCell_other _ _ _ _ (by simp), World.cell?_setCell_other _ _ _ _ (by simp)]; exact c3
      have HFR : Hid (∀ q, wr.frozen? ⟨b, q, none⟩ = false) := hfr
      have HE : Hid (TypedE wr L U ka o.kids.length) := he
      clear hcc c2 c3 hfr htk hto htl he ho
      go_wp2_with fail
      refine (markText_to _ (k + 2) _ (by push_cast; omega) (by omega) (by omega)).mono ?_
      rintro e w1 ⟨rfl, hb1⟩
      have d2 : w1.cell? ⟨b, off + j * 4 + 2, none⟩ = some (.string s) := by rw [hb1.cell (by simpa using hbl)]; exact HC2.out _ _
      have d3 : ∀ v, (w1.setCell ⟨b, off + j * 4 + 2, none⟩ v).cell? ⟨b, off + j * 4 + 3, none⟩ = some (.slice ka o.kids.length kc) := fun v => by rw [World.cell?_setCell_other _ _ _ _ (by simp), hb1.cell (by simpa using hbl)]; exact HC3.out _ _
      have z2 : w1.frozen? ⟨b, off + j * 4 + 2, none⟩ = false := by rw [hb1.frozen (by simpa using hbl)]; simpa using HFR.out _
      have hK1 : Hid (∀ v : ByteArray, Keeps wr (w1.setCell ⟨b, off + j * 4 + 2, none⟩ (.string v))) := fun v => ((HK2.out _ _).trans (Keeps.below hb1)).trans (Keeps.setStr d2)
      have hO1 : Hid (∀ v : Value, Only L U wr (w1.setCell ⟨b, off + j * 4 + 2, none⟩ v)) := fun v => ((HO2.out _ _).trans (Only.below hb1 (by simp; omega))).trans (Only.set v hL hU)
      clear HC2 HC3 hb1 c0 c1 e1 z0 z1 HK2 HO2
      go_wp2_with fail
      refine (markEntS_to _ (k + 3) (by push_cast; omega) _ _ _ L U _ (by omega) (by omega) hkids (HE.out.keep (hK1.out _))).mono ?_
      rintro e w2 ⟨rfl, hK2, hO2⟩
      have HK3 : Hid (Keeps w w2) := (hK.out.trans (hK1.out _)).trans hK2
      have HO3 : Hid (Only L U w w2) := (hO.out.trans (hO1.out _)).trans hO2
      clear hK2 hO2 d2 d3 z2 hK1 hO1 hK hO
      go_wp2_with fail
      go_roundg (n - (j + 1))
      case measure => have := hk.out; omega
      case rel => exact ⟨j + 1, by omega, rfl, by go_num, ⟨k + 3 + 2 * o.kids.length, rfl, by omega, hk9, HKT.out⟩, HK3.out, HO3.out⟩
    · have HE : Hid (os.take j = os) := by show _ = _; rw [List.take_of_length_le (by have := HN.out; omega)]
      have hlt' : ¬ (j : Int) < (n : Int) := by omega
      go_wp2_with fail
      go_ret
      exact ⟨⟨k, rfl, hkl, by have h1 := hkt.out; rw [HE.out] at h1; omega⟩, hK.out, hO.out⟩

theorem markTree_w (k0 : Nat) (a : Option Addr) (n c L U : Nat) (os : List LObj) (w : World) (hk1 : 1 ≤ k0) (hk2 : k0 ≤ 10000000) (hn : n = os.length) (hbd : n + totT os ≤ 1048576) (hLw : L ≤ w.heap.size) (H : TypedO w L U a n os) :
    Calls Tryz.prog 52 #[.agg #[.slice a n c], .int .i64 (k0 : Int)] w fun e w' => (∃ k : Nat, e = .returned (.int .i64 (k : Int)) ∧ k0 ≤ k ∧ k ≤ k0 + 3 * n + 2 * totT os) ∧ Keeps w w' ∧ Only L U w w' := by
  have hA : Below w.heap.size w (w.alloc (Obj.cells #[.slice a n c] 25)) := (Below.refl _ _).alloc (Nat.le_refl _) _
  have HN : Hid (n = os.length) := hn
  clear hn
  go_enter Tryz.func52, Tryz.ntmps52
  go_wp2_with fail
  refine (markObjS_w k0 _ _ _ L U os _ hk1 hk2 HN.out hbd (H.keep (Keeps.below hA))).mono ?_
  rintro e w1 ⟨⟨k, rfl, h1, h2⟩, hK, hO⟩
  have HK1 : Hid (Keeps w w1) := (Keeps.below hA).trans hK
  have HO1 : Hid (Only L U w w1) := (Only.below hA hLw).trans hO
  have HB : Hid (k0 ≤ k ∧ k ≤ k0 + 3 * n + 2 * totT os) := ⟨h1, h2⟩
  clear hK hO hA h1 h2
  go_wp2_with fail
  go_ret
  exact ⟨⟨k, rfl, HB.out⟩, HK1.out, HO1.out⟩
end Go.Proofs.YtnolbfijcnldjaaGreatDoor
