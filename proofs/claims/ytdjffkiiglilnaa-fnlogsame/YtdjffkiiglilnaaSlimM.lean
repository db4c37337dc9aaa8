import Derived.Test.YtdjffkiiglilnaaSlimAll
import Derived.Test.YtdjffkiiglilnaaOpSame
/- Lists of what is done as answers: marked, held. -/
namespace Go.Proofs.Ytdjffkiiglilnaa
open Go.RowKit

set_option maxHeartbeats 1000000 in
set_option maxRecDepth 100000 in
theorem markText_big (k : Nat) (w : World) (h0 : 1 ≤ k) (h1 : k ≤ 100000000) :
    Calls Try.prog 71 #[.int .i64 k] w fun e w' => e = .returned (.string (mkT k)) ∧ Below w.heap.size w w' := by
  have hk : ¬ (k : Int) ≤ 0 := by omega
  go_enter Try.func71, Try.ntmps71
  go_wp2_with fail
  go_loopg [0, 3] k (fun g i p wr => ∃ (x f : Nat) (s : ByteArray), s.size + x ≤ k ∧ Hid (g = x) ∧ i = .int .i64 x ∧ p = .string s ∧ x ≤ f ∧ Hid (digs k k ⟨#[]⟩ = digs f x s) ∧ Below w.heap.size w wr)
  case atStart => exact ⟨k, k, ⟨#[]⟩, by simp [ByteArray.size], rfl, rfl, rfl, by omega, rfl, Below.refl _ _⟩
  case round =>
    obtain ⟨x, f, s, hs, hg, rfl, rfl, hf, hq, hb⟩ := hrel
    by_cases hx0 : 0 < x
    · have hx0' : (0 : Int) < (x : Int) := by omega
      have hcv := conv1 wr x
      obtain ⟨y, hy⟩ : ∃ y : Nat, (x : Int) / 10 = (y : Int) := ⟨x / 10, by omega⟩
      have hy1 : y < x := by omega
      have HY : Hid (digs k k ⟨#[]⟩ = digs (f - 1) y (⟨#[dg x]⟩ ++ s)) := by
        show _ = _
        rw [hq.out]
        obtain ⟨f', rfl⟩ : ∃ f', f = f' + 1 := ⟨f - 1, by omega⟩
        rw [digs, if_pos hx0, show x / 10 = y by omega]
        rfl
      go_wp2_with fail
      go_roundg y
      case measure => have := hg.out; omega
      case rel => exact ⟨y, f - 1, ⟨#[dg x]⟩ ++ s, by rw [ByteArray.size_append]; show 1 + s.size + y ≤ _; omega, rfl, rfl, rfl, by omega, HY, hb.alloc hb.size _⟩
    · have hx0' : ¬ (0 : Int) < (x : Int) := by omega
      have HX : Hid (digs k k ⟨#[]⟩ = s) := by
        show _ = _
        rw [hq.out, show x = 0 by omega]
        cases f with
        | zero => rfl
        | succ f => rw [digs, if_neg (by omega)]
      go_wp2_with fail
      go_ret
      exact ⟨by show Ending.returned (.string _) = Ending.returned (.string _); unfold mkT; rw [HX.out], hb⟩

theorem markText_to (x : Int) (k : Nat) (w : World) (e : x = k) (h0 : 1 ≤ k) (h1 : k ≤ 100000000) :
    Calls Try.prog 71 #[.int .i64 x] w fun e w' => e = .returned (.string (mkT k)) ∧ Below w.heap.size w w' := by
  subst e
  exact markText_big k w h0 h1
/-- A list of what is done in a row of its own. -/
def OpRow (w : World) (B : Nat) (a : Option Addr) (n g cap : Nat) (f : Nat → Value) : Prop := n ≠ 0 → a = some ⟨g, 0, none⟩ ∧ B ≤ g ∧ n ≤ cap ∧ w.rowIs g 99 (cap * 7) f
def OpCell (f : Nat → Value) (i : Nat) : Prop := ∃ o : LOp, opF f i o
theorem OwnOps.row {w : World} {B : Nat} {v : Value} {l : List LOp} (h : OwnOps w B v l) : ∃ a c g cap f, v = .slice a l.length c ∧ B ≤ g ∧ OpRow w B a l.length g cap f ∧ ∀ i, i < l.length → OpCell f i := by
  rcases h.2 with ⟨rfl, h0⟩ | ⟨g, cap, cur, rfl, hb, hg, hnc, hcm, hcs, htake⟩
  · exact ⟨none, 0, B, 0, fun _ => default, by rw [h0], Nat.le_refl _, fun hn => absurd h0 hn, fun i hi => by omega⟩
  · refine ⟨_, cap, g, cap, fun i => cur[i]?.getD default, rfl, hb, fun _ => ⟨rfl, hb, hnc, ⟨cur, hg, by omega, fun i hi => by simp [Array.getElem?_eq_getElem (show i < cur.size by omega)]⟩⟩, fun i hi => ⟨l[i], ?_⟩⟩
    have hq : ∀ t u, t < 7 → (l[i]).val[t]? = some u → cur[i * 7 + t]?.getD default = u := fun t u ht hu => by
      have h1 := opCells_at l i l[i] (by simp [hi]) t u hu
      rw [← htake, List.getElem?_take_of_lt (by omega)] at h1
      simp at h1
      simp [h1]
    exact ⟨by simpa using hq 0 _ (by omega) (by simp [LOp.val]), hq 1 _ (by omega) (by simp [LOp.val]), hq 2 _ (by omega) (by simp [LOp.val]), hq 3 _ (by omega) (by simp [LOp.val]), hq 4 _ (by omega) (by simp [LOp.val]), hq 5 _ (by omega) (by simp [LOp.val]), hq 6 _ (by omega) (by simp [LOp.val])⟩
def markOp (i : Nat) : LOp := ⟨((7 * i + 1 : Nat) : Int), ((7 * i + 2 : Nat) : Int), mkT (7 * i + 3), ((7 * i + 4 : Nat) : Int), mkT (7 * i + 5), ((7 * i + 6 : Nat) : Int), mkT (7 * i + 7)⟩

set_option maxHeartbeats 2000000 in
theorem markOpS_any (a : Option Addr) (n c g cap B : Nat) (f : Nat → Value) (w : World) (hbd : n ≤ 1048576) (H : OpRow w B a n g cap f) (hf : ∀ i, i < n → OpCell f i) :
    Calls Try.prog 29 #[.slice a n c, .int .i64 1] w fun e w' => e = .returned (.int .i64 ((7 * n + 1 : Nat) : Int)) ∧ (∃ f', Hid (OpRow w' B a n g cap f' ∧ ∀ i, i < n → opF f' i (markOp i))) ∧ But g w w' := by
  have HH : Hid (OpRow w B a n g cap f) := H
  have HF : Hid (∀ i, i < n → OpCell f i) := hf
  clear H hf
  go_enter Try.func29, Try.ntmps29
  go_wp2_with fail
  go_loopg [1, 5] n (fun k m i wr => ∃ j : Nat, j ≤ n ∧ Hid (k = n - j) ∧ i = .int .i64 j ∧ m = .int .i64 ((7 * j + 1 : Nat) : Int) ∧ (∃ f', Hid (OpRow wr B a n g cap f' ∧ (∀ i, i < j → opF f' i (markOp i)) ∧ ∀ i, j ≤ i → i < n → OpCell f' i)) ∧ But g w wr)
  case atStart => exact ⟨0, Nat.zero_le _, rfl, rfl, rfl, ⟨f, HH.out, fun i hi => by omega, fun i _ hi => HF.out i hi⟩, But.refl _ _⟩
  case round =>
    obtain ⟨j, hj, hk, rfl, rfl, ⟨f', hrow⟩, hb⟩ := hrel
    by_cases hlt : j < n
    · obtain ⟨h1, h2, h3⟩ := hrow.out
      obtain ⟨rfl, hB, hcap, hr⟩ := h1 (by omega)
      obtain ⟨o, o0, o1, o2, o3, o4, o5, o6⟩ := h3 j (Nat.le_refl _) hlt
      have hlt' : (j : Int) < (n : Int) := by omega
      have hrl := hr.lt
      have c0 : wr.cell? ⟨g, j * 7, none⟩ = some (.int .i64 o.kind) := by rw [hr.cell (by omega), o0]
      have z0 : wr.frozen? ⟨g, j * 7, none⟩ = false := hr.frozen _
      have c1 : wr.cell? ⟨g, j * 7 + 1, none⟩ = some (.int .i64 o.dir) := by rw [hr.cell (by omega), o1]
      have z1 : wr.frozen? ⟨g, j * 7 + 1, none⟩ = false := hr.frozen _
      have c2 : wr.cell? ⟨g, j * 7 + 2, none⟩ = some (.string o.name) := by rw [hr.cell (by omega), o2]
      have z2 : wr.frozen? ⟨g, j * 7 + 2, none⟩ = false := hr.frozen _
      have c3 : wr.cell? ⟨g, j * 7 + 3, none⟩ = some (.int .i64 o.dir2) := by rw [hr.cell (by omega), o3]
      have z3 : wr.frozen? ⟨g, j * 7 + 3, none⟩ = false := hr.frozen _
      have c4 : wr.cell? ⟨g, j * 7 + 4, none⟩ = some (.string o.name2) := by rw [hr.cell (by omega), o4]
      have z4 : wr.frozen? ⟨g, j * 7 + 4, none⟩ = false := hr.frozen _
      have c5 : wr.cell? ⟨g, j * 7 + 5, none⟩ = some (.int .i64 o.id) := by rw [hr.cell (by omega), o5]
      have z5 : wr.frozen? ⟨g, j * 7 + 5, none⟩ = false := hr.frozen _
      have c6 : wr.cell? ⟨g, j * 7 + 6, none⟩ = some (.string o.text) := by rw [hr.cell (by omega), o6]
      have z6 : wr.frozen? ⟨g, j * 7 + 6, none⟩ = false := hr.frozen _
      have HR : Hid (wr.rowIs g 99 (cap * 7) f') := hr
      have H2 : Hid (∀ i, i < j → opF f' i (markOp i)) := h2
      have H3 : Hid (∀ i, j ≤ i → i < n → OpCell f' i) := h3
      clear h1 h2 h3 hr hrow HH HF
      go_wp2_with fail
      refine (markText_to _ (7 * j + 3) _ (by push_cast; omega) (by omega) (by omega)).mono ?_
      rintro e w1 ⟨rfl, hb1⟩
      have HR1 : Hid (w1.rowIs g 99 (cap * 7) (fun q => if q = j * 7 + 1 then .int .i64 ((7 * j + 2 : Nat) : Int) else (fun q => if q = j * 7 then .int .i64 ((7 * j + 1 : Nat) : Int) else f' q) q)) := by
        show World.rowIs _ _ _ _ _
        refine World.rowIs.of_block ?_ (hb1.block g (by simp; omega))
        refine World.rowIs.congr ((HR.out.set (j * 7) _).set (j * 7 + 1) _) ?_
        intro i _
        first | rfl | (simp only []; push_cast; rfl) | simp [Int.add_assoc]
      have hB1 : But g wr w1 := by
        refine But.next ?_ (by simp; omega) hb1
        exact ((But.refl _ _).set _ _).set _ _
      have hl1 : g < w1.heap.size := HR1.out.lt
      clear c0 c1 c2 c3 c4 c5 c6 z0 z1 z2 z3 z4 z5 z6 hb1
      have c2 : w1.cell? ⟨g, j * 7 + 2, none⟩ = some (.string o.name) := by rw [HR1.out.cell (by omega)]; simp [o2]
      have z2 : w1.frozen? ⟨g, j * 7 + 2, none⟩ = false := HR1.out.frozen _
      have c3 : w1.cell? ⟨g, j * 7 + 3, none⟩ = some (.int .i64 o.dir2) := by rw [HR1.out.cell (by omega)]; simp [o3]
      have z3 : w1.frozen? ⟨g, j * 7 + 3, none⟩ = false := HR1.out.frozen _
      have c4 : w1.cell? ⟨g, j * 7 + 4, none⟩ = some (.string o.name2) := by rw [HR1.out.cell (by omega)]; simp [o4]
      have z4 : w1.frozen? ⟨g, j * 7 + 4, none⟩ = false := HR1.out.frozen _
      have c5 : w1.cell? ⟨g, j * 7 + 5, none⟩ = some (.int .i64 o.id) := by rw [HR1.out.cell (by omega)]; simp [o5]
      have z5 : w1.frozen? ⟨g, j * 7 + 5, none⟩ = false := HR1.out.frozen _
      have c6 : w1.cell? ⟨g, j * 7 + 6, none⟩ = some (.string o.text) := by rw [HR1.out.cell (by omega)]; simp [o6]
      have z6 : w1.frozen? ⟨g, j * 7 + 6, none⟩ = false := HR1.out.frozen _
      go_wp2_with fail
      refine (markText_to _ (7 * j + 5) _ (by push_cast; omega) (by omega) (by omega)).mono ?_
      rintro e w2 ⟨rfl, hb2⟩
      have HR2 : Hid (w2.rowIs g 99 (cap * 7) (fun q => if q = j * 7 + 3 then .int .i64 ((7 * j + 4 : Nat) : Int) else (fun q => if q = j * 7 + 2 then .string (mkT (7 * j + 3)) else (fun q => if q = j * 7 + 1 then .int .i64 ((7 * j + 2 : Nat) : Int) else (fun q => if q = j * 7 then .int .i64 ((7 * j + 1 : Nat) : Int) else f' q) q) q) q)) := by
        show World.rowIs _ _ _ _ _
        refine World.rowIs.of_block ?_ (hb2.block g (by simp; omega))
        refine World.rowIs.congr ((HR1.out.set (j * 7 + 2) _).set (j * 7 + 3) _) ?_
        intro i _
        first | rfl | (simp only []; push_cast; rfl) | simp [Int.add_assoc]
      have hB2 : But g wr w2 := by
        refine But.next ?_ (by simp; omega) hb2
        exact (hB1.set _ _).set _ _
      have hl2 : g < w2.heap.size := HR2.out.lt
      clear c2 z2 c3 z3 c4 z4 c5 z5 c6 z6 hb2
      have c4 : w2.cell? ⟨g, j * 7 + 4, none⟩ = some (.string o.name2) := by rw [HR2.out.cell (by omega)]; simp [o4]
      have z4 : w2.frozen? ⟨g, j * 7 + 4, none⟩ = false := HR2.out.frozen _
      have c5 : w2.cell? ⟨g, j * 7 + 5, none⟩ = some (.int .i64 o.id) := by rw [HR2.out.cell (by omega)]; simp [o5]
      have z5 : w2.frozen? ⟨g, j * 7 + 5, none⟩ = false := HR2.out.frozen _
      have c6 : w2.cell? ⟨g, j * 7 + 6, none⟩ = some (.string o.text) := by rw [HR2.out.cell (by omega)]; simp [o6]
      have z6 : w2.frozen? ⟨g, j * 7 + 6, none⟩ = false := HR2.out.frozen _
      go_wp2_with fail
      refine (markText_to _ (7 * j + 7) _ (by push_cast; omega) (by omega) (by omega)).mono ?_
      rintro e w3 ⟨rfl, hb3⟩
      have HR3 : Hid (w3.rowIs g 99 (cap * 7) (fun q => if q = j * 7 + 5 then .int .i64 ((7 * j + 6 : Nat) : Int) else (fun q => if q = j * 7 + 4 then .string (mkT (7 * j + 5)) else (fun q => if q = j * 7 + 3 then .int .i64 ((7 * j + 4 : Nat) : Int) else (fun q => if q = j * 7 + 2 then .string (mkT (7 * j + 3)) else (fun q => if q = j * 7 + 1 then .int .i64 ((7 * j + 2 : Nat) : Int) else (fun q => if q = j * 7 then .int .i64 ((7 * j + 1 : Nat) : Int) else f' q) q) q) q) q) q)) := by
        show World.rowIs _ _ _ _ _
        refine World.rowIs.of_block ?_ (hb3.block g (by simp; omega))
        refine World.rowIs.congr ((HR2.out.set (j * 7 + 4) _).set (j * 7 + 5) _) ?_
        intro i _
        first | rfl | (simp only []; push_cast; rfl) | simp [Int.add_assoc]
      have hB3 : But g wr w3 := by
        refine But.next ?_ (by simp; omega) hb3
        exact (hB2.set _ _).set _ _
      have hl3 : g < w3.heap.size := HR3.out.lt
      clear c4 z4 c5 z5 c6 z6 hb3
      have c6 : w3.cell? ⟨g, j * 7 + 6, none⟩ = some (.string o.text) := by rw [HR3.out.cell (by omega)]; simp [o6]
      have z6 : w3.frozen? ⟨g, j * 7 + 6, none⟩ = false := HR3.out.frozen _
      go_wp2_with fail
      go_roundg (n - (j + 1))
      case measure => have := hk.out; omega
      case rel =>
        refine ⟨j + 1, by omega, rfl, by go_num, by go_num, ⟨_, fun _ => ⟨rfl, hB, hcap, HR3.out.set (j * 7 + 6) _⟩, fun i hi => ?_, fun i h1 h2 => ?_⟩, hb.trans (hB3.set _ _)⟩
        · by_cases e : i = j
          · subst e
            refine ⟨?_, ?_, ?_, ?_, ?_, ?_, ?_⟩ <;> simp [markOp]
          · obtain ⟨q0, q1, q2, q3, q4, q5, q6⟩ := H2.out i (by omega)
            refine ⟨?_, ?_, ?_, ?_, ?_, ?_, ?_⟩ <;> dsimp only <;> rw [if_neg (by omega), if_neg (by omega), if_neg (by omega), if_neg (by omega), if_neg (by omega), if_neg (by omega), if_neg (by omega)] <;> assumption
        · obtain ⟨o', q0, q1, q2, q3, q4, q5, q6⟩ := H3.out i (by omega) h2
          refine ⟨o', ?_, ?_, ?_, ?_, ?_, ?_, ?_⟩ <;> dsimp only <;> rw [if_neg (by omega), if_neg (by omega), if_neg (by omega), if_neg (by omega), if_neg (by omega), if_neg (by omega), if_neg (by omega)] <;> assumption
    · obtain rfl : j = n := by omega
      go_wp2_with fail
      go_ret
      exact ⟨rfl, ⟨f', hrow.out.1, hrow.out.2.1⟩, hb⟩

theorem OpRow.at_ {w : World} {B : Nat} {a : Option Addr} {n g cap : Nat} {f : Nat → Value} (H : OpRow w B a n g cap f) {i : Nat} (hi : i < n) {o : LOp} (h : opF f i o) : a = some ⟨g, 0, none⟩ ∧ g < w.heap.size ∧ OpAt w g (i * 7) o := by
  obtain ⟨h1, _, h3, h4⟩ := H (by omega)
  obtain ⟨q0, q1, q2, q3, q4, q5, q6⟩ := h
  exact ⟨h1, h4.lt, by rw [h4.cell (by omega), q0], by rw [h4.cell (by omega), q1], by rw [h4.cell (by omega), q2], by rw [h4.cell (by omega), q3], by rw [h4.cell (by omega), q4], by rw [h4.cell (by omega), q5], by rw [h4.cell (by omega), q6]⟩
set_option maxHeartbeats 4000000 in
theorem heldOpS_any (a : Option Addr) (n c g cap B : Nat) (f : Nat → Value) (w : World) (hbd : n ≤ 1048576) (H : OpRow w B a n g cap f) (hf : ∀ i, i < n → opF f i (markOp i)) :
    Calls Try.prog 74 #[.slice a n c, .int .i64 1] w fun e w' => e = .returned (.int .i64 ((7 * n + 1 : Nat) : Int)) ∧ Below w.heap.size w w' := by
  have HH : Hid (∀ i, i < n → a = some ⟨g, 0, none⟩ ∧ g < w.heap.size ∧ OpAt w g (i * 7) (markOp i)) := fun i hi => H.at_ hi (hf i hi)
  clear H hf
  go_enter Try.func74, Try.ntmps74
  go_wp2_with fail
  go_loopg [1, 5] n (fun k m i wr => ∃ j : Nat, j ≤ n ∧ Hid (k = n - j) ∧ i = .int .i64 j ∧ m = .int .i64 ((7 * j + 1 : Nat) : Int) ∧ Below w.heap.size w wr)
  case atStart => exact ⟨0, Nat.zero_le _, rfl, rfl, rfl, Below.refl _ _⟩
  case round =>
    obtain ⟨j, hj, hk, rfl, rfl, hb⟩ := hrel
    by_cases hlt : j < n
    · obtain ⟨rfl, hgl, hat⟩ := HH.out j hlt
      have hsb := hb.size
      have HAT : Hid (OpAt wr g (j * 7) (markOp j)) := hat.of_block (hb.block g hgl)
      obtain ⟨c0, c1, c2, c3, c4, c5, c6⟩ := HAT.out
      simp only [markOp] at c0 c1 c2 c3 c4 c5 c6
      have hlt' : (j : Int) < (n : Int) := by omega
      clear hat
      go_upto_region 10 with fail
      go_cut [37] (fun s wx => s = .bool false ∧ Below wr.heap.size wr wx)
      case first =>
        go_region_with (go_at_call 71; go_must (refine (markText_to _ (7 * j + 3) _ (by push_cast; omega) (by omega) (by omega)).mono ?_; rintro e w1 ⟨rfl, hb1⟩; have dd : w1.cell? ⟨g, j * 7 + 2, none⟩ = some (.string (mkT (7 * j + 3))) := (by rw [hb1.cell (by simp; omega)]; exact c2)))
        all_goals
          go_wp2_with fail
          go_meet
          exact ⟨by simp, (Below.refl _ _).drew.trans (hb1.mono (by simp))⟩
      obtain ⟨rfl, hb1⟩ := hcut
      obtain ⟨W1, rfl⟩ : ∃ W1, W1 = wc := ⟨_, rfl⟩
      have HC1 : Hid (OpAt W1 g (j * 7) (markOp j)) := HAT.out.of_block (hb1.block g (by omega))
      have hs1 := hb1.size
      clear c0 c1 c2 c3 c4 c5 c6
      obtain ⟨c0, c1, c2, c3, c4, c5, c6⟩ := HC1.out
      simp only [markOp] at c0 c1 c2 c3 c4 c5 c6
      go_upto_region 16 with fail
      go_cut [56] (fun s wx => s = .bool false ∧ Below W1.heap.size W1 wx)
      case first =>
        go_region_with (go_at_call 71; go_must (refine (markText_to _ (7 * j + 5) _ (by push_cast; omega) (by omega) (by omega)).mono ?_; rintro e w1 ⟨rfl, hb1⟩; have dd : w1.cell? ⟨g, j * 7 + 4, none⟩ = some (.string (mkT (7 * j + 5))) := (by rw [hb1.cell (by simp; omega)]; exact c4)))
        all_goals
          go_wp2_with fail
          go_meet
          exact ⟨by simp, (Below.refl _ _).drew.trans (hb1.mono (by simp))⟩
      obtain ⟨rfl, hb2⟩ := hcut
      obtain ⟨W2, rfl⟩ : ∃ W2, W2 = wc := ⟨_, rfl⟩
      have HC2 : Hid (OpAt W2 g (j * 7) (markOp j)) := HC1.out.of_block (hb2.block g (by omega))
      have hs2 := hb2.size
      clear c0 c1 c2 c3 c4 c5 c6
      obtain ⟨c0, c1, c2, c3, c4, c5, c6⟩ := HC2.out
      simp only [markOp] at c0 c1 c2 c3 c4 c5 c6
      go_upto_region 22 with fail
      go_cut [75] (fun s wx => s = .bool false ∧ Below W2.heap.size W2 wx)
      case first =>
        go_region_with (go_at_call 71; go_must (refine (markText_to _ (7 * j + 7) _ (by push_cast; omega) (by omega) (by omega)).mono ?_; rintro e w1 ⟨rfl, hb1⟩; have dd : w1.cell? ⟨g, j * 7 + 6, none⟩ = some (.string (mkT (7 * j + 7))) := (by rw [hb1.cell (by simp; omega)]; exact c6)))
        all_goals
          go_wp2_with fail
          go_meet
          exact ⟨by simp, (Below.refl _ _).drew.trans (hb1.mono (by simp))⟩
      obtain ⟨rfl, hb3⟩ := hcut
      obtain ⟨W3, rfl⟩ : ∃ W3, W3 = wc := ⟨_, rfl⟩
      have HC3 : Hid (OpAt W3 g (j * 7) (markOp j)) := HC2.out.of_block (hb3.block g (by omega))
      have hs3 := hb3.size
      clear c0 c1 c2 c3 c4 c5 c6
      obtain ⟨c0, c1, c2, c3, c4, c5, c6⟩ := HC3.out
      simp only [markOp] at c0 c1 c2 c3 c4 c5 c6
      go_wp2_with fail
      go_roundg (n - (j + 1))
      case measure => have := hk.out; omega
      case rel => exact ⟨j + 1, by omega, rfl, by go_num, by go_num, ((hb.trans (hb1.mono hb.size)).trans (hb2.mono (by omega))).trans (hb3.mono (by omega))⟩
    · obtain rfl : j = n := by omega
      go_wp2_with fail
      go_ret
      exact ⟨rfl, hb⟩
end Go.Proofs.Ytdjffkiiglilnaa
