/- Lemmas that the proofs of this seat share: LogQ, AllD, AllB, AllC. -/
import Derived.Test.YtnolbfijcnldjaaGreatDoorU23
import Derived.Test.YtnolbfijcnldjaaGreatDoorU30
import Derived.Test.YtnolbfijcnldjaaGreatDoorU24
import Derived.Test.YtnolbfijcnldjaaGreatDoorU06
import Derived.Deep.RegionWith
import Derived.RowKitTokens
/- What is done: marked from any number on, and held. -/
namespace Go.Proofs.YtnolbfijcnldjaaGreatDoor
open Go.RowKit

def markOpZ (z i : Nat) : LOp := ⟨((z + 7 * i + 1 : Nat) : Int), ((z + 7 * i + 2 : Nat) : Int), mkT (z + 7 * i + 3), ((z + 7 * i + 4 : Nat) : Int), mkT (z + 7 * i + 5), ((z + 7 * i + 6 : Nat) : Int), mkT (z + 7 * i + 7)⟩

set_option maxHeartbeats 2000000 in
theorem markOpS_z (z : Nat) (hz9 : z ≤ 10000000) (a : Option Addr) (n c g cap B : Nat) (f : Nat → Value) (w : World) (hbd : n ≤ 1048576) (H : OpRow w B a n g cap f) (hf : ∀ i, i < n → OpCell f i) :
    Calls Tryz.prog 57 #[.slice a n c, .int .i64 ((z + 1 : Nat) : Int)] w fun e w' => e = .returned (.int .i64 ((z + 7 * n + 1 : Nat) : Int)) ∧ (∃ f', Hid (OpRow w' B a n g cap f' ∧ ∀ i, i < n → opF f' i (markOpZ z i))) ∧ But g w w' := by
  have HH : Hid (OpRow w B a n g cap f) := H
  have HF : Hid (∀ i, i < n → OpCell f i) := hf
  clear H hf
  go_enter Tryz.func57, Tryz.ntmps57
  go_wp2_with fail
  go_loopg [1, 5] n (fun k m i wr => ∃ j : Nat, j ≤ n ∧ Hid (k = n - j) ∧ i = .int .i64 j ∧ m = .int .i64 ((z + 7 * j + 1 : Nat) : Int) ∧ (∃ f', Hid (OpRow wr B a n g cap f' ∧ (∀ i, i < j → opF f' i (markOpZ z i)) ∧ ∀ i, j ≤ i → i < n → OpCell f' i)) ∧ But g w wr)
  case atStart => exact ⟨0, Nat.zero_le _, rfl, rfl, rfl, ⟨f, HH.out, fun i hi => by omega, fun i _ hi => HF.out i hi⟩, But.refl _ _⟩
  case round =>
    obtain ⟨j, hj, hk, rfl, rfl, ⟨f', hrow⟩, hb⟩ := hrel
    by_cases hlt : j < n
    · obtain ⟨h1, h2, h3⟩ := hrow.out
      obtain ⟨rfl, hB, hcap, hr⟩ := h1 (by omega)
      obtain ⟨o, o0, o1, o2, o3, o4, o5, o6⟩ := h3 j (Nat.le_refl _) hlt
      have hlt' : (j : Int) < (n : Int) := by omega
      have hrl := hr.lt
      have c0 : wr.cell? ⟨g, j * 7, none⟩ = some (.int .i64 o.kind) := by rw [hr.cell (by omega), o0]
      have z0 : wr.frozen? ⟨g, j * 7, none⟩ = false := hr.frozen _
      have c1 : wr.cell? ⟨g, j * 7 + 1, none⟩ = some (.int .i64 o.dir) := by rw [hr.cell (by omega), o1]
      have z1 : wr.frozen? ⟨g, j * 7 + 1, none⟩ = false := hr.frozen _
      have c2 : wr.cell? ⟨g, j * 7 + 2, none⟩ = some (.string o.name) := by rw [hr.cell (by omega), o2]
      have z2 : wr.frozen? ⟨g, j * 7 + 2, none⟩ = false := hr.frozen _
      have c3 : wr.cell? ⟨g, j * 7 + 3, none⟩ = some (.int .i64 o.dir2) := by rw [hr.cell (by omega), o3]
      have z3 : wr.frozen? ⟨g, j * 7 + 3, none⟩ = false := hr.frozen _
      have c4 : wr.cell? ⟨g, j * 7 + 4, none⟩ = some (.string o.name2) := by rw [hr.cell (by omega), o4]
      have z4 : wr.frozen? ⟨g, j * 7 + 4, none⟩ = false := hr.frozen _
      have c5 : wr.cell? ⟨g, j * 7 + 5, none⟩ = some (.int .i64 o.id) := by rw [hr.cell (by omega), o5]
      have z5 : wr.frozen? ⟨g, j * 7 + 5, none⟩ = false := hr.frozen _
      have c6 : wr.cell? ⟨g, j * 7 + 6, none⟩ = some (.string o.text) := by rw [hr.cell (by omega), o6]
      have z6 : wr.frozen? ⟨g, j * 7 + 6, none⟩ = false := hr.frozen _
      have HR : Hid (wr.rowIs g 27 (cap * 7) f') := hr
      have H2 : Hid (∀ i, i < j → opF f' i (markOpZ z i)) := h2
      have H3 : Hid (∀ i, j ≤ i → i < n → OpCell f' i) := h3
      clear h1 h2 h3 hr hrow HH HF
      go_wp2_with fail
      refine (markText_to _ (z + 7 * j + 3) _ (by push_cast; omega) (by omega) (by omega)).mono ?_
      rintro e w1 ⟨rfl, hb1⟩
      have HR1 : Hid (w1.rowIs g 27 (cap * 7) (fun q => if q = j * 7 + 1 then .int .i64 ((z + 7 * j + 2 : Nat) : Int) else (fun q => if q = j * 7 then .int .i64 ((z + 7 * j + 1 : Nat) : Int) else f' q) q)) := by
        show World.rowIs _ _ _ _ _
        refine World.rowIs.of_block ?_ (hb1.block g (by simp; omega))
        refine World.rowIs.congr ((HR.out.set (j * 7) _).set (j * 7 + 1) _) ?_
        intro i _
        first | rfl | (simp only []; push_cast; rfl) | simp [Int.add_assoc]
      have hB1 : But g wr w1 := by
        refine But.next ?_ (by simp; omega) hb1
        exact ((But.refl _ _).set _ _).set _ _
      have hl1 : g < w1.heap.size := HR1.out.lt
      clear c0 c1 c2 c3 c4 c5 c6 z0 z1 z2 z3 z4 z5 z6 hb1
      have c2 : w1.cell? ⟨g, j * 7 + 2, none⟩ = some (.string o.name) := by rw [HR1.out.cell (by omega)]; simp [o2]
      have z2 : w1.frozen? ⟨g, j * 7 + 2, none⟩ = false := HR1.out.frozen _
      have c3 : w1.cell? ⟨g, j * 7 + 3, none⟩ = some (.int .i64 o.dir2) := by rw [HR1.out.cell (by omega)]; simp [o3]
      have z3 : w1.frozen? ⟨g, j * 7 + 3, none⟩ = false := HR1.out.frozen _
      have c4 : w1.cell? ⟨g, j * 7 + 4, none⟩ = some (.string o.name2) := by rw [HR1.out.cell (by omega)]; simp [o4]
      have z4 : w1.frozen? ⟨g, j * 7 + 4, none⟩ = false := HR1.out.frozen _
      have c5 : w1.cell? ⟨g, j * 7 + 5, none⟩ = some (.int .i64 o.id) := by rw [HR1.out.cell (by omega)]; simp [o5]
      have z5 : w1.frozen? ⟨g, j * 7 + 5, none⟩ = false := HR1.out.frozen _
      have c6 : w1.cell? ⟨g, j * 7 + 6, none⟩ = some (.string o.text) := by rw [HR1.out.cell (by omega)]; simp [o6]
      have z6 : w1.frozen? ⟨g, j * 7 + 6, none⟩ = false := HR1.out.frozen _
      go_wp2_with fail
      refine (markText_to _ (z + 7 * j + 5) _ (by push_cast; omega) (by omega) (by omega)).mono ?_
      rintro e w2 ⟨rfl, hb2⟩
      have HR2 : Hid (w2.rowIs g 27 (cap * 7) (fun q => if q = j * 7 + 3 then .int .i64 ((z + 7 * j + 4 : Nat) : Int) else (fun q => if q = j * 7 + 2 then .string (mkT (z + 7 * j + 3)) else (fun q => if q = j * 7 + 1 then .int .i64 ((z + 7 * j + 2 : Nat) : Int) else (fun q => if q = j * 7 then .int .i64 ((z + 7 * j + 1 : Nat) : Int) else f' q) q) q) q)) := by
        show World.rowIs _ _ _ _ _
        refine World.rowIs.of_block ?_ (hb2.block g (by simp; omega))
        refine World.rowIs.congr ((HR1.out.set (j * 7 + 2) _).set (j * 7 + 3) _) ?_
        intro i _
        first | rfl | (simp only []; push_cast; rfl) | simp [Int.add_assoc]
      have hB2 : But g wr w2 := by
        refine But.next ?_ (by simp; omega) hb2
        exact (hB1.set _ _).set _ _
      have hl2 : g < w2.heap.size := HR2.out.lt
      clear c2 z2 c3 z3 c4 z4 c5 z5 c6 z6 hb2
      have c4 : w2.cell? ⟨g, j * 7 + 4, none⟩ = some (.string o.name2) := by rw [HR2.out.cell (by omega)]; simp [o4]
      have z4 : w2.frozen? ⟨g, j * 7 + 4, none⟩ = false := HR2.out.frozen _
      have c5 : w2.cell? ⟨g, j * 7 + 5, none⟩ = some (.int .i64 o.id) := by rw [HR2.out.cell (by omega)]; simp [o5]
      have z5 : w2.frozen? ⟨g, j * 7 + 5, none⟩ = false := HR2.out.frozen _
      have c6 : w2.cell? ⟨g, j * 7 + 6, none⟩ = some (.string o.text) := by rw [HR2.out.cell (by omega)]; simp [o6]
      have z6 : w2.frozen? ⟨g, j * 7 + 6, none⟩ = false := HR2.out.frozen _
      go_wp2_with fail
      refine (markText_to _ (z + 7 * j + 7) _ (by push_cast; omega) (by omega) (by omega)).mono ?_
      rintro e w3 ⟨rfl, hb3⟩
      have HR3 : Hid (w3.rowIs g 27 (cap * 7) (fun q => if q = j * 7 + 5 then .int .i64 ((z + 7 * j + 6 : Nat) : Int) else (fun q => if q = j * 7 + 4 then .string (mkT (z + 7 * j + 5)) else (fun q => if q = j * 7 + 3 then .int .i64 ((z + 7 * j + 4 : Nat) : Int) else (fun q => if q = j * 7 + 2 then .string (mkT (z + 7 * j + 3)) else (fun q => if q = j * 7 + 1 then .int .i64 ((z + 7 * j + 2 : Nat) : Int) else (fun q => if q = j * 7 then .int .i64 ((z + 7 * j + 1 : Nat) : Int) else f' q) q) q) q) q) q)) := by
        show World.rowIs _ _ _ _ _
        refine World.rowIs.of_block ?_ (hb3.block g (by simp; omega))
        refine World.rowIs.congr ((HR2.out.set (j * 7 + 4) _).set (j * 7 + 5) _) ?_
        intro i _
        first | rfl | (simp only []; push_cast; rfl) | simp [Int.add_assoc]
      have hB3 : But g wr w3 := by
        refine But.next ?_ (by simp; omega) hb3
        exact (hB2.set _ _).set _ _
      have hl3 : g < w3.heap.size := HR3.out.lt
      clear c4 z4 c5 z5 c6 z6 hb3
      have c6 : w3.cell? ⟨g, j * 7 + 6, none⟩ = some (.string o.text) := by rw [HR3.out.cell (by omega)]; simp [o6]
      have z6 : w3.frozen? ⟨g, j * 7 + 6, none⟩ = false := HR3.out.frozen _
      go_wp2_with fail
      go_roundg (n - (j + 1))
      case measure => have := hk.out; omega
      case rel =>
        refine ⟨j + 1, by omega, rfl, by go_num, by go_num, ⟨_, fun _ => ⟨rfl, hB, hcap, HR3.out.set (j * 7 + 6) _⟩, fun i hi => ?_, fun i h1 h2 => ?_⟩, hb.trans (hB3.set _ _)⟩
        · by_cases e : i = j
          · subst e
            refine ⟨?_, ?_, ?_, ?_, ?_, ?_, ?_⟩ <;> simp [markOpZ]
          · obtain ⟨q0, q1, q2, q3, q4, q5, q6⟩ := H2.out i (by omega)
            refine ⟨?_, ?_, ?_, ?_, ?_, ?_, ?_⟩ <;> dsimp only <;> rw [if_neg (by omega), if_neg (by omega), if_neg (by omega), if_neg (by omega), if_neg (by omega), if_neg (by omega), if_neg (by omega)] <;> assumption
        · obtain ⟨o', q0, q1, q2, q3, q4, q5, q6⟩ := H3.out i (by omega) h2
          refine ⟨o', ?_, ?_, ?_, ?_, ?_, ?_, ?_⟩ <;> dsimp only <;> rw [if_neg (by omega), if_neg (by omega), if_neg (by omega), if_neg (by omega), if_neg (by omega), if_neg (by omega), if_neg (by omega)] <;> assumption
    · obtain rfl : j = n := by omega
      go_wp2_with fail
      go_ret
      exact ⟨rfl, ⟨f', hrow.out.1, hrow.out.2.1⟩, hb⟩

end Go.Proofs.YtnolbfijcnldjaaGreatDoor

/- The law of ActAll: what stands in its boxes. -/
namespace Go.Proofs.YtnolbfijcnldjaaGreatDoor
open Go.RowKit

/-- The tree that came in, in its box. -/
structure AQ (w W : World) (ta : Option Addr) (tn tc : Nat) : Prop where
  below : Below w.heap.size w W
  t : W.cell? ⟨w.heap.size, 0, none⟩ = some (.slice ta tn tc)
  sz : w.heap.size < W.heap.size
theorem AQ.under {w W W' : World} {ta : Option Addr} {tn tc B : Nat} (h : AQ w W ta tn tc) (hb : Below B W W') (hB : w.heap.size < B) : AQ w W' ta tn tc :=
  ⟨h.below.trans (hb.mono (by omega)), by rw [hb.cell (by simpa using hB)]; exact h.t, by have := hb.size; have := h.sz; omega⟩
theorem AQ.next {w W W' : World} {ta : Option Addr} {tn tc : Nat} (h : AQ w W ta tn tc) (hb : Below W.heap.size W W') : AQ w W' ta tn tc := h.under hb h.sz
/-- A list that is handed in, a row of its own between lo and up. -/
structure RB (W : World) (lo up lb m : Nat) (f : Nat → Value) (ops : List LOp) : Prop where
  ge : lo ≤ lb
  lt : lb < up
  le : up ≤ W.heap.size
  row : W.rowIs lb 27 (m * 7) f
  ty : ∀ i, i < m → OpCell f i
  ops : OpsAt W lo up (some ⟨lb, 0, none⟩) m ops
theorem RB.blocks {W W' : World} {lo up lb m : Nat} {f : Nat → Value} {ops : List LOp} (h : RB W lo up lb m f ops) (hs : W.heap.size ≤ W'.heap.size) (hb : ∀ q, lo ≤ q → q < up → W'.heap[q]? = W.heap[q]?) : RB W' lo up lb m f ops :=
  ⟨h.ge, h.lt, Nat.le_trans h.le hs, h.row.of_block (hb lb h.ge h.lt), h.ty, h.ops.blocks hb⟩
theorem RB.under {W W' : World} {lo up lb m B : Nat} {f : Nat → Value} {ops : List LOp} (h : RB W lo up lb m f ops) (hb : Below B W W') (hB : up ≤ B) : RB W' lo up lb m f ops := h.blocks hb.size fun q _ h2 => hb.block q (by omega)
theorem RB.next {W W' : World} {lo up lb m : Nat} {f : Nat → Value} {ops : List LOp} (h : RB W lo up lb m f ops) (hb : Below W.heap.size W W') : RB W' lo up lb m f ops := h.under hb h.le
theorem RB.only {W W' : World} {lo up lb m L U : Nat} {f : Nat → Value} {ops : List LOp} (h : RB W lo up lb m f ops) (hO : Only L U W W') (hU : U ≤ lo) : RB W' lo up lb m f ops := h.blocks hO.1.size fun q h1 h2 => hO.2 q (by have := h.le; omega) (by omega)
theorem RB.opRow {W : World} {lo up lb m : Nat} {f : Nat → Value} {ops : List LOp} (h : RB W lo up lb m f ops) : OpRow W lo (some ⟨lb, 0, none⟩) m lb m f := fun _ => ⟨rfl, h.ge, Nat.le_refl _, h.row⟩
theorem GB.but {W W' : World} {lo g q : Nat} {x : Option Addr} {c : Nat} {vs : Nat → Value} {l : List LObj} (h : GB W lo g x c vs l) (hO : But q W W') (hlo : q < lo) (hg : q < g) : GB W' lo g x c vs l := by
  obtain ⟨f, hf⟩ := h.row
  have e := hO.block g (by omega) hf.lt
  exact ⟨by rw [World.cell?_of_block (w := W) e]; exact h.box, ⟨f, hf.of_block e⟩, h.ans.blocks fun k h1 h2 => hO.block k (by omega) h2⟩
/-- All that stands ahead of the call of the program. -/
structure CE (w W : World) (ta : Option Addr) (tn tc hi g : Nat) (x : Option Addr) (c : Nat) (l : List LObj) (L U b : Nat) (os : List LObj) (lo up lb m : Nat) (f : Nat → Value) (ops : List LOp) : Prop where
  ab : AQ w W ta tn tc
  tb : TB W hi g x c l
  xb : XB W L U b tn os
  rb : RB W lo up lb m f ops
  n1 : w.heap.size < hi
  n2 : hi ≤ L
  n3 : L ≤ U
  n4 : U < lo
theorem CE.next {w W W' : World} {ta : Option Addr} {tn tc hi g : Nat} {x : Option Addr} {c : Nat} {l : List LObj} {L U b : Nat} {os : List LObj} {lo up lb m : Nat} {f : Nat → Value} {ops : List LOp} (h : CE w W ta tn tc hi g x c l L U b os lo up lb m f ops) (hb : Below W.heap.size W W') : CE w W' ta tn tc hi g x c l L U b os lo up lb m f ops :=
  ⟨h.ab.next hb, h.tb.next hb, h.xb.under hb h.xb.lt, h.rb.next hb, h.n1, h.n2, h.n3, h.n4⟩
theorem AllEnd.objs {w w' : World} {r : List LObj × Int × Nat} {e : Ending} (h : AllEnd w r e w') : ∃ x c, e = .returned (.tuple #[.agg #[.slice x r.1.length c], .int .i64 r.2.1, .int .i64 (r.2.2 : Nat)]) ∧ ObjsAt w' w.heap.size w'.heap.size x r.1.length r.1 ∧ Below w.heap.size w w' := by
  obtain ⟨⟨h0, rfl⟩ | ⟨b, c, vs, rfl, hO⟩, hb⟩ := h
  · exact ⟨none, 0, by rw [h0]; rfl, by rw [h0]; exact ⟨rfl, Nat.zero_le _, fun h => absurd rfl h⟩, hb⟩
  · exact ⟨_, c, rfl, hO.to_objs, hb⟩
theorem AllEnd.ans {w w' : World} {r : List LObj × Int × Nat} {e : Ending} (h : AllEnd w r e w') : ∃ x c vs, e = .returned (.tuple #[.agg #[.slice x r.1.length c], .int .i64 r.2.1, .int .i64 (r.2.2 : Nat)]) ∧ AnsAt w' w.heap.size x c vs r.1 ∧ Below w.heap.size w w' := by
  obtain ⟨⟨h0, rfl⟩ | ⟨b, c, vs, rfl, hO⟩, hb⟩ := h
  · exact ⟨none, 0, fun _ => .nilIface, by rw [h0]; rfl, .inl ⟨h0, rfl, rfl⟩, hb⟩
  · exact ⟨_, c, vs, rfl, .inr ⟨b, rfl, hO⟩, hb⟩
theorem allGo_ok (os0 : List LObj) (h0 : specOk os0 = true) : ∀ (ops : List LOp) (os : List LObj) (i : Nat), specOk os = true → (∀ o ∈ ops, opOk o = true) → specOk (allGo os0 os ops i).1 = true
  | [], os, i, hs, _ => hs
  | o :: r, os, i, hs, ho => by
    unfold allGo
    split
    · next h => exact allGo_ok os0 h0 r _ _ (act_ok hs (ho o (by simp)) h) fun x hx => ho x (by simp [hx])
    · exact h0
theorem allR_ok (os : List LObj) (ops : List LOp) : (allR os ops).1 = [] ∨ specOk (allR os ops).1 = true := by
  unfold allR
  split
  · next h =>
    refine .inr (allGo_ok os h.1 ops os 0 h.1 fun o ho => ?_)
    obtain ⟨j, hj, rfl⟩ := List.getElem_of_mem ho
    exact forms_op h.2 (List.getElem?_eq_getElem hj)
  · exact .inl rfl
theorem allR_len (os : List LObj) (ops : List LOp) : (allR os ops).1.length ≤ 32 := by
  rcases allR_ok os ops with h | h
  · rw [h]; exact Nat.zero_le _
  · rw [ok_len h]; exact Nat.le_refl _
theorem allR_slim (os : List LObj) (ops : List LOp) : Slim (allR os ops).1.length (allR os ops).1 := by
  refine slim_of rfl (allR_len os ops) ?_
  rcases allR_ok os ops with h | h
  · rw [h]; exact fun x hx => by cases hx
  · exact fun x hx => by
      obtain ⟨i, hi, rfl⟩ := List.getElem_of_mem hx
      exact Nat.le_trans (ok_kids h (i := i) (List.getElem?_eq_getElem hi)) (by omega)
theorem markOpS_zz (x : Int) (z : Nat) (e : x = ((z + 1 : Nat) : Int)) (hz9 : z ≤ 10000000) (a : Option Addr) (n c g cap B : Nat) (f : Nat → Value) (w : World) (hbd : n ≤ 1048576) (H : OpRow w B a n g cap f) (hf : ∀ i, i < n → OpCell f i) :
    Calls Tryz.prog 57 #[.slice a n c, .int .i64 x] w fun e w' => e = .returned (.int .i64 ((z + 7 * n + 1 : Nat) : Int)) ∧ (∃ f', Hid (OpRow w' B a n g cap f' ∧ ∀ i, i < n → opF f' i (markOpZ z i))) ∧ But g w w' := by
  subst e; exact markOpS_z z hz9 a n c g cap B f w hbd H hf
end Go.Proofs.YtnolbfijcnldjaaGreatDoor

/- l3All and ActAll of the specification. -/
namespace Go.Proofs.YtnolbfijcnldjaaGreatDoor
open Go.RowKit

set_option maxHeartbeats 4000000 in
set_option maxRecDepth 20000 in
theorem l3All_any (a la : Option Addr) (n c m lc : Nat) (os : List LObj) (ops : List LOp) (L U L2 U2 : Nat) (w : World) (hS : Sizes os 1048576) (hs : specOk os = true) (hf : formsB ops = true) (hU : U ≤ w.heap.size) (H : ObjsAt w L U a n os) (hU2 : U2 ≤ w.heap.size) (H2 : OpsAt w L2 U2 la m ops) :
    Calls Tryz.prog 86 #[.agg #[.slice a n c], .slice la m lc] w fun e w' => AllEnd w (allGo os os ops 0) e w' := by
  have hbd := H2.bd
  unfold maxLen at hbd
  have HLN : Hid (n = os.length) := H.len
  have HN : Hid (n = 32) := by show _ = _; rw [HLN.out]; exact ok_len hs
  have HLM : Hid (m = ops.length) := H2.len
  have HSZ : Hid (∀ o ∈ os, o.text.size ≤ maxLen ∧ ∀ e ∈ o.kids, e.name.size ≤ maxLen) := H.sizes
  have HCP := fun w hU H => copy_any a n c os L U w (by rw [HN.out]; omega) (by rw [HN.out]; omega) hS hU H
  have hA : Below w.heap.size w ((w.alloc (.cells #[.slice a n c] 25)).alloc (.cells #[.slice none 0 0] 25)) := ((Below.refl _ _).alloc (Nat.le_refl _) _).alloc (by simp) _
  have hx : ((w.alloc (.cells #[.slice a n c] 25)).alloc (.cells #[.slice none 0 0] 25)).rowIs (w.heap.size + 1) 25 1 (zrow #[.slice none 0 0]) := by
    have := zrow_new (w.alloc (.cells #[.slice a n c] 25)) #[.slice none 0 0] 25
    simpa using this
  have ht : ((w.alloc (.cells #[.slice a n c] 25)).alloc (.cells #[.slice none 0 0] 25)).cell? ⟨w.heap.size, 0, none⟩ = some (.slice a n c) := by simp [go_sem]
  go_enter Tryz.func86, Tryz.ntmps86
  go_wp2_with fail
  refine (HCP _ (Nat.le_trans hU hA.size) (H.below hA hU)).mono ?_
  rintro e w1 ⟨⟨v, vs, rfl, hC⟩, hb1⟩
  have hB1 : Below w.heap.size w w1 := hA.trans (hb1.mono hA.size)
  obtain ⟨b1, c1, rfl, HOW⟩ := hC.out.done HLN.out (by rw [HN.out]; omega) HSZ.out
  have hz1 := hb1.size
  simp at hz1
  have hx1 := hx.of_block (hb1.block (w.heap.size + 1) hx.lt)
  have ht1 : w1.cell? ⟨w.heap.size, 0, none⟩ = some (.slice a n c) := by rw [hb1.cell (by simp; omega)]; exact ht
  have HOW1 : OwnT w1 (w.heap.size + 1 + 1) b1 c1 os vs := by simpa using HOW
  clear hC HOW hx ht hA hb1
  have hA2 : Below w1.heap.size w1 (w1.alloc (.cells #[.slice (some ⟨b1, 0, none⟩) n c1] 25)) := (Below.refl _ _).alloc (Nat.le_refl _) _
  have HZ0 : Hid (LZ w (w1.alloc (.cells #[.slice (some ⟨b1, 0, none⟩) n c1] 25)) w1.heap.size 25 a n c b1 c1) :=
    ⟨hB1.trans (hA2.mono hB1.size), by rw [hA2.cell (by simp; omega)]; exact ht1, ⟨_, hx1.of_block (hA2.block _ (by omega))⟩, by simp [go_sem], ⟨_, zrow_new w1 #[.slice (some ⟨b1, 0, none⟩) n c1] 25⟩, by omega, by simp⟩
  have HT0 : Hid (OwnT (w1.alloc (.cells #[.slice (some ⟨b1, 0, none⟩) n c1] 25)) (w.heap.size + 1 + 1) b1 c1 os vs) := HOW1.below hA2
  obtain ⟨T, hT⟩ : ∃ T, w1.heap.size = T := ⟨_, rfl⟩
  have HZT : Hid (LZ w (w1.alloc (.cells #[.slice (some ⟨b1, 0, none⟩) n c1] 25)) T 25 a n c b1 c1) := by have h9 := HZ0.out; rw [hT] at h9; exact h9
  have HFM : Hid (formsB ops = true) := hf
  have HSO : Hid (specOk os = true) := hs
  clear HZ0 HOW1 ht1 hx1 hA2 hB1 hf hs
  go_wp2_with fail
  clear hT hz1
  go_loopg [8] m (fun g i wr => ∃ j : Nat, j ≤ m ∧ Hid (g = m - j) ∧ i = .int .i64 j ∧ ∃ os' vs', Hid (LZ w wr T 25 a n c b1 c1) ∧ Hid (OwnT wr (w.heap.size + 1 + 1) b1 c1 os' vs') ∧ Hid (specOk os' = true) ∧ Hid (allGo os os ops 0 = allGo os os' (ops.drop j) j))
  case atStart => exact ⟨0, Nat.zero_le _, rfl, rfl, os, vs, HZT, HT0, HSO, by show _ = _; rw [List.drop_zero]⟩
  case round =>
    obtain ⟨j, hj, hg, rfl, os1, vs1, HZ, HT, HS1, HG⟩ := hrel
    clear HZT HT0
    by_cases hlt : j < m
    · obtain ⟨lb, off, ha, hL, hlb0, hcc⟩ := H2.at_ (by omega)
      obtain ⟨o, he, hsz, hat⟩ := hcc j hlt
      have hlb : lb < w.heap.size := by omega
      have HAT : Hid (OpAt w lb (off + j * 7) o) := hat
      have hltI : (j : Int) < (m : Int) := by omega
      have hok : opOk o = true := forms_op HFM.out he
      have HL : Hid (os1.length = n) := by show _ = _; rw [HN.out]; exact ok_len HS1.out
      have hDO := fun (B b c : Nat) (vs : Nat → Value) (w : World) hB H => do_any B b c n o os1 vs w hok HL.out.symm (by rw [HN.out]; omega) hB (ok_bd HS1.out) hsz H
      simp only [LOp.val] at hDO
      obtain ⟨r, hr⟩ : ∃ r, r = actDo os1 o := ⟨_, rfl⟩
      rw [← hr] at hDO
      have hDO := hDO (w.heap.size + 1 + 1)
      have HRL : Hid (r.1.length = n) := by show _ = _; rw [hr, actDo_len]; exact HL.out
      have HRO : Hid (r.2 = 0 → specOk r.1 = true) := fun h => by rw [hr]; exact act_ok HS1.out hok (by rw [← hr]; exact h)
      have HG1 : Hid (allGo os os ops 0 = if r.2 = 0 then allGo os r.1 (ops.drop (j + 1)) (j + 1) else (os, r.2, j)) := by show _ = _; rw [HG.out, allGo_step os os1 he, ← hr]
      subst ha
      clear hat hcc he hr HG hok
      have x0 := HZ.out.x
      go_upto_region 5 with fail
      have HZ5 := HZ.out.next (Below.refl _ _).drew
      have HT5 := HT.out.below (Below.refl _ _).drew
      clear x0
      go_cut [9, 10] (fun p k wx => ∃ q vs4, p = .pointer (some ⟨q, 0, none⟩) ∧ k = .int .i64 r.2 ∧ Hid (LZ w wx T 25 a n c b1 c1) ∧ Hid (YB wx q n b1 c1) ∧ Hid (OwnT wx (w.heap.size + 1 + 1) b1 c1 r.1 vs4) ∧ T < q)
      case first =>
        refine wp_region_held_drew (S := (fun W => LZ w W T 25 a n c b1 c1)) (by kernel_rfl) ?_ (fun hHeld => ?_)
        · exact HZ5
        refine listH (l2 := #[false, false, false, false, false, false, false, false, false, false, false, false]) (by kernel_rfl) ?_
        refine takeH (i := 0) (oi := _) (v := ?vs0) 20 #[true, false, false, false, false, false, false, false, false, false, false, false] rfl (by kernel_rfl) (by kernel_rfl) (by kernel_rfl) rfl (by kernel_rfl) (fun _ _ _ h => h) (Or.inl ⟨by rfl, ?ys0⟩) (by assumption) ?rs0
        case ys0 => (intro w' hSw; (try dsimp only at hSw); have x0 := hSw.x; obtain ⟨d0, d1, d2, d3, d4, d5, d6⟩ := HAT.out.of_block (hSw.below.block lb hlb); go_simp; try with_reducible rfl)
        simp only [Act.put, List.setIfInBounds_toArray, List.set_cons_succ, List.set_cons_zero]
        refine takeH (i := 1) (oi := _) (v := ?vs1) 21 #[true, true, false, false, false, false, false, false, false, false, false, false] rfl (by kernel_rfl) (by kernel_rfl) (by kernel_rfl) rfl (by kernel_rfl) (fun _ _ _ h => h) (Or.inl ⟨by rfl, ?ys1⟩) (by assumption) ?rs1
        case ys1 => (intro w' hSw; (try dsimp only at hSw); have x0 := hSw.x; obtain ⟨d0, d1, d2, d3, d4, d5, d6⟩ := HAT.out.of_block (hSw.below.block lb hlb); go_simp; try with_reducible rfl)
        simp only [Act.put, List.setIfInBounds_toArray, List.set_cons_succ, List.set_cons_zero]
        refine takeH (i := 2) (oi := _) (v := ?vs2) 22 #[true, true, true, false, false, false, false, false, false, false, false, false] rfl (by kernel_rfl) (by kernel_rfl) (by kernel_rfl) rfl (by kernel_rfl) (fun _ _ _ h => h) (Or.inl ⟨by rfl, ?ys2⟩) (by assumption) ?rs2
        case ys2 => (intro w' hSw; (try dsimp only at hSw); have x0 := hSw.x; obtain ⟨d0, d1, d2, d3, d4, d5, d6⟩ := HAT.out.of_block (hSw.below.block lb hlb); go_simp; try with_reducible rfl)
        simp only [Act.put, List.setIfInBounds_toArray, List.set_cons_succ, List.set_cons_zero]
        refine takeH (i := 3) (oi := _) (v := ?vs3) 23 #[true, true, true, true, false, false, false, false, false, false, false, false] rfl (by kernel_rfl) (by kernel_rfl) (by kernel_rfl) rfl (by kernel_rfl) (fun _ _ _ h => h) (Or.inl ⟨by rfl, ?ys3⟩) (by assumption) ?rs3
        case ys3 => (intro w' hSw; (try dsimp only at hSw); have x0 := hSw.x; obtain ⟨d0, d1, d2, d3, d4, d5, d6⟩ := HAT.out.of_block (hSw.below.block lb hlb); go_simp; try with_reducible rfl)
        simp only [Act.put, List.setIfInBounds_toArray, List.set_cons_succ, List.set_cons_zero]
        refine takeH (i := 4) (oi := _) (v := ?vs4) 24 #[true, true, true, true, true, false, false, false, false, false, false, false] rfl (by kernel_rfl) (by kernel_rfl) (by kernel_rfl) rfl (by kernel_rfl) (fun _ _ _ h => h) (Or.inl ⟨by rfl, ?ys4⟩) (by assumption) ?rs4
        case ys4 => (intro w' hSw; (try dsimp only at hSw); have x0 := hSw.x; obtain ⟨d0, d1, d2, d3, d4, d5, d6⟩ := HAT.out.of_block (hSw.below.block lb hlb); go_simp; try with_reducible rfl)
        simp only [Act.put, List.setIfInBounds_toArray, List.set_cons_succ, List.set_cons_zero]
        refine wpAnyH_ready (rs := [5, 9]) (by kernel_rfl) (by simp) ?_
        refine AllReadyH.cons (o := _) rfl (fun K hK => ?_) (AllReadyH.cons (o := _) rfl (fun K hK => ?_) AllReadyH.nil)
        · go_simp
          refine (hDO b1 c1 vs1 _ (by have := hHeld.lo; have := hHeld.lt; omega) HT5).mono ?_
          rintro e w4 ⟨vs4, rfl, HOW4, hb4, hk4⟩
          have HZ4 := hHeld.call (by decide) HL.out HT5 hb4 hk4
          rw [HRL.out]
          go_wp2_with fail
          refine hK.out _ _ HZ4 (fun hHeld => ?_)
          clear hK K
          try simp only [Act.put]
          refine listH (l2 := #[true, true, true, true, true, true, false, false, false, false, false, false]) (by kernel_rfl) ?_
          refine takeH (i := 6) (oi := _) (v := ?vsf6) 19 #[true, true, true, true, true, true, true, false, false, false, false, false] rfl (by kernel_rfl) (by kernel_rfl) (by kernel_rfl) rfl (by kernel_rfl) (fun _ _ _ h => h) (Or.inl ⟨by rfl, ?ysf6⟩) (by assumption) ?rsf6
          case ysf6 => (intro w' hSw; (try dsimp only at hSw); have x0 := hSw.x; obtain ⟨d0, d1, d2, d3, d4, d5, d6⟩ := HAT.out.of_block (hSw.below.block lb hlb); go_simp; try with_reducible rfl)
          simp only [Act.put, List.setIfInBounds_toArray, List.set_cons_succ, List.set_cons_zero]
          refine takeH (i := 7) (oi := _) (v := ?vsf7) 26 #[true, true, true, true, true, true, true, true, false, false, false, false] rfl (by kernel_rfl) (by kernel_rfl) (by kernel_rfl) rfl (by kernel_rfl) (fun _ _ _ h => h) (Or.inl ⟨by rfl, ?ysf7⟩) (by assumption) ?rsf7
          case ysf7 => (intro w' hSw; (try dsimp only at hSw); have x0 := hSw.x; obtain ⟨d0, d1, d2, d3, d4, d5, d6⟩ := HAT.out.of_block (hSw.below.block lb hlb); go_simp; try with_reducible rfl)
          simp only [Act.put, List.setIfInBounds_toArray, List.set_cons_succ, List.set_cons_zero]
          refine takeH (i := 8) (oi := _) (v := ?vsf8) 27 #[true, true, true, true, true, true, true, true, true, false, false, false] rfl (by kernel_rfl) (by kernel_rfl) (by kernel_rfl) rfl (by kernel_rfl) (fun _ _ _ h => h) (Or.inl ⟨by rfl, ?ysf8⟩) (by assumption) ?rsf8
          case ysf8 => (intro w' hSw; (try dsimp only at hSw); have x0 := hSw.x; obtain ⟨d0, d1, d2, d3, d4, d5, d6⟩ := HAT.out.of_block (hSw.below.block lb hlb); go_simp; try with_reducible rfl)
          simp only [Act.put, List.setIfInBounds_toArray, List.set_cons_succ, List.set_cons_zero]
          refine wpAnyH_ready (rs := [9]) (by kernel_rfl) (by simp) ?_
          refine AllReadyH.cons (o := _) rfl (fun K hK => ?_) AllReadyH.nil
          refine st_alloc31 _ 9 ?_
          intro q6 V6 hq6 hb6 R6
          have lt6 := R6.lt
          have lo6 : T < q6 := by have := HZ4.lt; omega
          clear hq6
          refine hK.out _ _ (hHeld.next hb6) (fun hHeld => ?_)
          clear hK K
          try simp only [Act.put]
          refine listH (l2 := #[true, true, true, true, true, true, true, true, true, true, false, false]) (by kernel_rfl) ?_
          refine wpAnyH_ready (rs := [10]) (by kernel_rfl) (by simp) ?_
          refine AllReadyH.cons (o := _) rfl (fun K hK => ?_) AllReadyH.nil
          refine st_store31 _ 9 26 q6 _ _ _ rfl rfl R6 ?_
          intro V7 hB7 g7 hE7
          refine hK.out _ _ (hHeld.but hB7 lo6) (fun hHeld => ?_)
          clear hK K
          try simp only [Act.put]
          refine listH (l2 := #[true, true, true, true, true, true, true, true, true, true, true, false]) (by kernel_rfl) ?_
          refine wpAnyH_ready (rs := [11]) (by kernel_rfl) (by simp) ?_
          refine AllReadyH.cons (o := _) rfl (fun K hK => ?_) AllReadyH.nil
          go_simp
          refine hK.out _ _ hHeld (fun hHeld => ?_)
          clear hK K
          try simp only [Act.put]
          refine listH (l2 := #[true, true, true, true, true, true, true, true, true, true, true, true]) (by kernel_rfl) ?_
          refine wpAnyH_done (by kernel_rfl) ?_ _
          go_wp2_with fail
          go_meet
          exact ⟨q6, vs4, rfl, rfl, hHeld, ⟨g7, by have := R6.lt; have := hB7.below.size; omega⟩, by rw [hE7.out]; exact (HOW4.below hb6).setBox ⟨_, R6⟩ 0 _, lo6⟩
        · refine st_alloc31 _ 9 ?_
          intro q6 V6 hq6 hb6 R6
          have lt6 := R6.lt
          have lo6 : T < q6 := by have := HZ5.lt; omega
          clear hq6
          refine hK.out _ _ (hHeld.next hb6) (fun hHeld => ?_)
          clear hK K
          try simp only [Act.put]
          refine listH (l2 := #[true, true, true, true, true, false, false, false, false, true, false, false]) (by kernel_rfl) ?_
          have HT6 := HT5.below hb6
          refine wpAnyH_ready (rs := [5]) (by kernel_rfl) (by simp) ?_
          refine AllReadyH.cons (o := _) rfl (fun K hK => ?_) AllReadyH.nil
          go_simp
          refine (hDO b1 c1 vs1 _ (by have := hHeld.lo; have := hHeld.lt; omega) HT6).mono ?_
          rintro e w4 ⟨vs4, rfl, HOW4, hb4, hk4⟩
          have HZ4 := hHeld.call (by decide) HL.out HT6 hb4 hk4
          rw [HRL.out]
          go_wp2_with fail
          have e6 := hk4 q6 lt6 (HT6.far (by decide) R6).1 (fun i hi => (HT6.far (by decide) R6).2 i (by have := HL.out; omega))
          have R6 := R6.of_block e6
          refine hK.out _ _ HZ4 (fun hHeld => ?_)
          clear hK K
          try simp only [Act.put]
          refine listH (l2 := #[true, true, true, true, true, true, false, false, false, true, false, false]) (by kernel_rfl) ?_
          refine takeH (i := 6) (oi := _) (v := ?vsfg6) 19 #[true, true, true, true, true, true, true, false, false, true, false, false] rfl (by kernel_rfl) (by kernel_rfl) (by kernel_rfl) rfl (by kernel_rfl) (fun _ _ _ h => h) (Or.inl ⟨by rfl, ?ysfg6⟩) (by assumption) ?rsfg6
          case ysfg6 => (intro w' hSw; (try dsimp only at hSw); have x0 := hSw.x; obtain ⟨d0, d1, d2, d3, d4, d5, d6⟩ := HAT.out.of_block (hSw.below.block lb hlb); go_simp; try with_reducible rfl)
          simp only [Act.put, List.setIfInBounds_toArray, List.set_cons_succ, List.set_cons_zero]
          refine takeH (i := 7) (oi := _) (v := ?vsfg7) 26 #[true, true, true, true, true, true, true, true, false, true, false, false] rfl (by kernel_rfl) (by kernel_rfl) (by kernel_rfl) rfl (by kernel_rfl) (fun _ _ _ h => h) (Or.inl ⟨by rfl, ?ysfg7⟩) (by assumption) ?rsfg7
          case ysfg7 => (intro w' hSw; (try dsimp only at hSw); have x0 := hSw.x; obtain ⟨d0, d1, d2, d3, d4, d5, d6⟩ := HAT.out.of_block (hSw.below.block lb hlb); go_simp; try with_reducible rfl)
          simp only [Act.put, List.setIfInBounds_toArray, List.set_cons_succ, List.set_cons_zero]
          refine takeH (i := 8) (oi := _) (v := ?vsfg8) 27 #[true, true, true, true, true, true, true, true, true, true, false, false] rfl (by kernel_rfl) (by kernel_rfl) (by kernel_rfl) rfl (by kernel_rfl) (fun _ _ _ h => h) (Or.inl ⟨by rfl, ?ysfg8⟩) (by assumption) ?rsfg8
          case ysfg8 => (intro w' hSw; (try dsimp only at hSw); have x0 := hSw.x; obtain ⟨d0, d1, d2, d3, d4, d5, d6⟩ := HAT.out.of_block (hSw.below.block lb hlb); go_simp; try with_reducible rfl)
          simp only [Act.put, List.setIfInBounds_toArray, List.set_cons_succ, List.set_cons_zero]
          refine wpAnyH_ready (rs := [10]) (by kernel_rfl) (by simp) ?_
          refine AllReadyH.cons (o := _) rfl (fun K hK => ?_) AllReadyH.nil
          refine st_store31 _ 9 26 q6 _ _ _ rfl rfl R6 ?_
          intro V7 hB7 g7 hE7
          refine hK.out _ _ (hHeld.but hB7 lo6) (fun hHeld => ?_)
          clear hK K
          try simp only [Act.put]
          refine listH (l2 := #[true, true, true, true, true, true, true, true, true, true, true, false]) (by kernel_rfl) ?_
          refine wpAnyH_ready (rs := [11]) (by kernel_rfl) (by simp) ?_
          refine AllReadyH.cons (o := _) rfl (fun K hK => ?_) AllReadyH.nil
          go_simp
          refine hK.out _ _ hHeld (fun hHeld => ?_)
          clear hK K
          try simp only [Act.put]
          refine listH (l2 := #[true, true, true, true, true, true, true, true, true, true, true, true]) (by kernel_rfl) ?_
          refine wpAnyH_done (by kernel_rfl) ?_ _
          go_wp2_with fail
          go_meet
          exact ⟨q6, vs4, rfl, rfl, hHeld, ⟨g7, by have := R6.lt; have := hB7.below.size; omega⟩, by rw [hE7.out]; exact (HOW4).setBox ⟨_, R6⟩ 0 _, lo6⟩
      obtain ⟨q, vs4, rfl, rfl, HZ7, HY7, HT7, hTq⟩ := hcut
      obtain ⟨W7, rfl⟩ : ∃ W7, W7 = wc := ⟨_, rfl⟩
      clear HZ5 HT5 HZ HT hDO HAT
      by_cases hr0 : r.2 = 0
      · have t0 : (r.2 == 0) = true := by simp [hr0]
        have HG2 : Hid (allGo os os ops 0 = allGo os r.1 (ops.drop (j + 1)) (j + 1)) := by show _ = _; rw [HG1.out, if_pos hr0]
        have HS2 : Hid (specOk r.1 = true) := HRO.out hr0
        clear hr0 HG1 HRO
        have y0 := HY7.out.box
        have y1 := HZ7.out.x
        obtain ⟨f7, x7⟩ := HZ7.out.xr
        have z7 := x7.frozen 0
        have lt7 := x7.lt
        have HZ8 : Hid (LZ w (W7.setCell ⟨T, 0, none⟩ (.slice (some ⟨b1, 0, none⟩) n c1)) T 25 a n c b1 c1) := HZ7.out.put (by decide)
        have HT8 : Hid (OwnT (W7.setCell ⟨T, 0, none⟩ (.slice (some ⟨b1, 0, none⟩) n c1)) (w.heap.size + 1 + 1) b1 c1 r.1 vs4) := HT7.out.setBox ⟨_, x7⟩ 0 _
        clear HZ7 HY7 HT7 x7 lt7
        go_wp2_with fail
        go_roundg (m - (j + 1))
        case measure => have := hg.out; omega
        case rel => exact ⟨j + 1, by omega, rfl, by go_num, r.1, vs4, HZ8, HT8, HS2, HG2⟩
      · have t0 : (r.2 == 0) = false := by simp [hr0]
        have HG2 : Hid (allGo os os ops 0 = (os, r.2, j)) := by show _ = _; rw [HG1.out, if_neg hr0]
        clear hr0 HG1 HRO HT7 HY7
        have y0 := HZ7.out.t
        go_wp2_with fail
        refine (HCP _ (Nat.le_trans hU HZ7.out.below.size) (H.below HZ7.out.below hU)).mono ?_
        rintro e w8 ⟨⟨v, vs8, rfl, hC⟩, hb8⟩
        obtain ⟨b8, c8, rfl, HOW⟩ := hC.out.done HLN.out (by rw [HN.out]; omega) HSZ.out
        obtain ⟨f8, r8⟩ := (HZ7.out.next hb8).r
        have z8 := r8.frozen 0
        have q8 := r8.cell (i := 0) (by omega)
        have hz8 := HZ7.out.below.size
        clear hC y0
        go_wp2_with fail
        refine bodyPost_ret (v := Value.tuple #[.agg #[.slice (some ⟨b8, 0, none⟩) n c8], .int .i64 r.2, .int .i64 j]) (by rw [results, Tryz.results86]; simp [go_sem, World.cell?_setCell_same _ _ _ q8]) rfl ⟨.inr ⟨b8, c8, vs8, by rw [HG2.out, HLN.out], ?_⟩, ?_⟩
        · rw [HG2.out]; exact (HOW.setBox ⟨_, r8⟩ 0 _).base' hz8
        · exact ((HZ7.out.next hb8).below).setCell (by show _ ≤ _ + 1; omega) _
    · have HG2 : Hid (allGo os os ops 0 = (os1, 0, m)) := by
        show _ = _
        have : j = m := by omega
        subst this
        rw [HG.out, allGo_end _ _ (by rw [HLM.out]; exact Nat.le_refl _)]
      have HL : Hid (os1.length = n) := by show _ = _; rw [HN.out]; exact ok_len HS1.out
      have hjm : ¬ ((j : Int) < (m : Int)) := by omega
      have y0 := HZ.out.x
      obtain ⟨f8, r8⟩ := HZ.out.r
      have z8 := r8.frozen 0
      have q8 := r8.cell (i := 0) (by omega)
      clear HG
      go_wp2_with fail
      refine bodyPost_ret (v := Value.tuple #[.agg #[.slice (some ⟨b1, 0, none⟩) n c1], .int .i64 0, .int .i64 m]) (by rw [results, Tryz.results86]; simp [go_sem, World.cell?_setCell_same _ _ _ q8]) rfl ⟨.inr ⟨b1, c1, vs1, by rw [HG2.out, HL.out], ?_⟩, ?_⟩
      · rw [HG2.out]; exact (HT.out.setBox ⟨_, r8⟩ 0 _).base' (by omega)
      · exact (HZ.out.below).setCell (by show _ ≤ _ + 1; omega) _

set_option maxHeartbeats 4000000 in
set_option maxRecDepth 20000 in
theorem specActAll (a la : Option Addr) (n c m lc : Nat) (os : List LObj) (ops : List LOp) (L U L2 U2 : Nat) (w : World) (hS : Sizes os 1048576) (hU : U ≤ w.heap.size) (H : ObjsAt w L U a n os) (hU2 : U2 ≤ w.heap.size) (H2 : OpsAt w L2 U2 la m ops) :
    Calls Tryz.prog 30 #[.agg #[.slice a n c], .slice la m lc] w fun e w' => AllEnd w (allR os ops) e w' := by
  have hA : Below w.heap.size w ((w.alloc (.cells #[.slice a n c] 25)).alloc (.cells #[.slice none 0 0] 25)) := ((Below.refl _ _).alloc (Nat.le_refl _) _).alloc (by simp) _
  have hx : ((w.alloc (.cells #[.slice a n c] 25)).alloc (.cells #[.slice none 0 0] 25)).rowIs (w.heap.size + 1) 25 1 (zrow #[.slice none 0 0]) := by
    have := zrow_new (w.alloc (.cells #[.slice a n c] 25)) #[.slice none 0 0] 25
    simpa using this
  have ht : ((w.alloc (.cells #[.slice a n c] 25)).alloc (.cells #[.slice none 0 0] 25)).cell? ⟨w.heap.size, 0, none⟩ = some (.slice a n c) := by simp [go_sem]
  have hHA : Hid (Below w.heap.size w ((w.alloc (.cells #[.slice a n c] 25)).alloc (.cells #[.slice none 0 0] 25))) := hA
  have hHX : Hid (((w.alloc (.cells #[.slice a n c] 25)).alloc (.cells #[.slice none 0 0] 25)).rowIs (w.heap.size + 1) 25 1 (zrow #[.slice none 0 0])) := hx
  have hHT : Hid (((w.alloc (.cells #[.slice a n c] 25)).alloc (.cells #[.slice none 0 0] 25)).cell? ⟨w.heap.size, 0, none⟩ = some (.slice a n c)) := ht
  clear hA hx ht
  go_enter Tryz.func30, Tryz.ntmps30
  go_wp2_with fail
  refine (specTreeOk _ _ _ os L U _ hS (Nat.le_trans hU hHA.out.size) (H.below hHA.out hU)).mono ?_
  rintro e w1 ⟨rfl, hb1⟩
  have hz1 := hb1.size
  simp at hz1
  have HB1 : Hid (Below w.heap.size w w1) := hHA.out.trans (hb1.mono hHA.out.size)
  have HX1 : Hid (w1.rowIs (w.heap.size + 1) 25 1 (zrow #[.slice none 0 0])) := hHX.out.of_block (hb1.block _ hHX.out.lt)
  have q1 : w1.cell? ⟨w.heap.size, 0, none⟩ = some (.slice a n c) := by rw [hb1.cell (by simp; omega)]; exact hHT.out
  have p1 := HX1.out.cell (i := 0) (by omega)
  have z1 := HX1.out.frozen 0
  clear hb1 hHA hHX hHT
  rcases ts : specOk os with _ | _
  · have HV : Hid (allR os ops = ([], 8, 0)) := by show _ = _; unfold allR; rw [if_neg (by rw [ts]; simp)]
    clear ts
    go_wp2_with fail
    refine bodyPost_ret (v := Value.tuple #[.agg #[.slice none 0 0], .int .i64 8, .int .i64 0]) (by rw [results, Tryz.results30]; simp [go_sem, World.cell?_setCell_same _ _ _ p1]) rfl ⟨.inl ⟨by rw [HV.out], by rw [HV.out]; rfl⟩, HB1.out.setCell (by show _ ≤ _ + 1; omega) _⟩
  have HOK : Hid (specOk os = true) := ts
  clear ts
  go_wp2_with fail
  refine (forms_any la m lc ops L2 U2 w1 (Nat.le_trans hU2 HB1.out.size) (H2.below HB1.out hU2)).mono ?_
  rintro e w2 ⟨rfl, hb2⟩
  have HB2 : Hid (Below w.heap.size w w2) := HB1.out.trans (hb2.mono HB1.out.size)
  have HX2 : Hid (w2.rowIs (w.heap.size + 1) 25 1 (zrow #[.slice none 0 0])) := HX1.out.of_block (hb2.block _ HX1.out.lt)
  have q2 : w2.cell? ⟨w.heap.size, 0, none⟩ = some (.slice a n c) := by rw [hb2.cell (by simp; omega)]; exact q1
  have p2 := HX2.out.cell (i := 0) (by omega)
  have z2 := HX2.out.frozen 0
  have hz2 := hb2.size
  clear hb2 q1 p1 z1 HB1 HX1
  rcases tf : formsB ops with _ | _
  · have HV : Hid (allR os ops = ([], 8, 0)) := by show _ = _; unfold allR; rw [if_neg (by rw [tf]; simp)]
    clear tf
    go_wp2_with fail
    refine bodyPost_ret (v := Value.tuple #[.agg #[.slice none 0 0], .int .i64 8, .int .i64 0]) (by rw [results, Tryz.results30]; simp [go_sem, World.cell?_setCell_same _ _ _ p2]) rfl ⟨.inl ⟨by rw [HV.out], by rw [HV.out]; rfl⟩, HB2.out.setCell (by show _ ≤ _ + 1; omega) _⟩
  have HV : Hid (allR os ops = allGo os os ops 0) := by show _ = _; unfold allR; rw [if_pos ⟨HOK.out, tf⟩]
  have HFM : Hid (formsB ops = true) := tf
  clear tf
  go_wp2_with fail
  refine (l3All_any a la n c m lc os ops L U L2 U2 w2 hS HOK.out HFM.out (Nat.le_trans hU HB2.out.size) (H.below HB2.out hU) (Nat.le_trans hU2 HB2.out.size) (H2.below HB2.out hU2)).mono ?_
  rintro e w3 ⟨hE, hb3⟩
  have HX3 := HX2.out.of_block (hb3.block _ HX2.out.lt)
  have p3 := HX3.cell (i := 0) (by omega)
  have z3 := HX3.frozen 0
  have HB3 : Hid (Below w.heap.size w w3) := HB2.out.trans (hb3.mono HB2.out.size)
  have hz3 := HB2.out.size
  obtain ⟨r, hr⟩ : ∃ r, r = allGo os os ops 0 := ⟨_, rfl⟩
  rw [← hr] at hE HV
  clear hr q2 p2 z2 hb3 HX2 HB2
  rcases hE with ⟨h0, rfl⟩ | ⟨b, c2, vs, rfl, hO⟩
  · have h0' : Hid (r.1 = []) := h0
    clear h0
    go_wp2_with fail
    refine bodyPost_ret (v := Value.tuple #[.agg #[.slice none 0 0], .int .i64 r.2.1, .int .i64 r.2.2]) (by rw [results, Tryz.results30]; simp [go_sem, World.cell?_setCell_same _ _ _ p3]) rfl ⟨.inl ⟨by rw [HV.out]; exact h0'.out, by rw [HV.out]⟩, HB3.out.setCell (by show _ ≤ _ + 1; omega) _⟩
  · have HO : Hid (OwnT w3 w2.heap.size b c2 r.1 vs) := hO
    clear hO
    go_wp2_with fail
    refine bodyPost_ret (v := Value.tuple #[.agg #[.slice (some ⟨b, 0, none⟩) r.1.length c2], .int .i64 r.2.1, .int .i64 r.2.2]) (by rw [results, Tryz.results30]; simp [go_sem, World.cell?_setCell_same _ _ _ p3]) rfl ⟨.inr ⟨b, c2, vs, by rw [HV.out], ?_⟩, HB3.out.setCell (by show _ ≤ _ + 1; omega) _⟩
    rw [HV.out]; exact (HO.out.setBox ⟨_, HX3⟩ 0 _).base' hz3
end Go.Proofs.YtnolbfijcnldjaaGreatDoor

/- ActAll of the program. -/
namespace Go.Proofs.YtnolbfijcnldjaaGreatDoor
open Go.RowKit


set_option maxHeartbeats 4000000 in
set_option maxRecDepth 20000 in
theorem implActAll (sn : Nat → Addr) (S0 : Nat) (t la : Option Addr) (n c m lc : Nat) (os : List LObj) (ops : List LOp) (L U L2 U2 : Nat) (w : World) (hS0 : S0 ≤ w.heap.size) (HS : Sents w S0 sn) (hS : Sizes os 1048576) (hU : U ≤ w.heap.size) (H : ObjsAt w L U t n os) (hU2 : U2 ≤ w.heap.size) (H2 : OpsAt w L2 U2 la m ops) :
    Calls Tryz.prog 29 #[.agg #[.slice t n c], .slice la m lc] w fun e w' => AllEnd w (allR os ops) e w' := by
  have hbd := H2.bd
  unfold maxLen at hbd
  have HLN : Hid (n = os.length) := H.len
  have HLM : Hid (m = ops.length) := H2.len
  have hHA : Hid (Below w.heap.size w ((w.alloc (.cells #[.slice t n c] 25)).alloc (.cells #[.slice none 0 0] 25))) := ((Below.refl _ _).alloc (Nat.le_refl _) _).alloc (by simp) _
  have hHX : Hid (((w.alloc (.cells #[.slice t n c] 25)).alloc (.cells #[.slice none 0 0] 25)).rowIs (w.heap.size + 1) 25 1 (zrow #[.slice none 0 0])) := by
    show World.rowIs _ _ _ _ _
    have := zrow_new (w.alloc (.cells #[.slice t n c] 25)) #[.slice none 0 0] 25
    simpa using this
  have hHT : Hid (((w.alloc (.cells #[.slice t n c] 25)).alloc (.cells #[.slice none 0 0] 25)).cell? ⟨w.heap.size, 0, none⟩ = some (.slice t n c)) := by show _ = _; simp [go_sem]
  go_enter Tryz.func29, Tryz.ntmps29
  go_wp2_with fail
  refine (implTreeOk _ _ _ os L U _ (Nat.le_trans hU hHA.out.size) (H.below hHA.out hU)).mono ?_
  rintro e w1 ⟨rfl, hb1⟩
  have hz1 := hb1.size
  simp at hz1
  have HB1 : Hid (Below w.heap.size w w1) := hHA.out.trans (hb1.mono hHA.out.size)
  have HX1 : Hid (w1.rowIs (w.heap.size + 1) 25 1 (zrow #[.slice none 0 0])) := hHX.out.of_block (hb1.block _ hHX.out.lt)
  have q1 : w1.cell? ⟨w.heap.size, 0, none⟩ = some (.slice t n c) := by rw [hb1.cell (by simp; omega)]; exact hHT.out
  have p1 := HX1.out.cell (i := 0) (by omega)
  have z1 := HX1.out.frozen 0
  clear hb1 hHA hHX hHT
  rcases ts : specOk os with _ | _
  · have HV : Hid (allR os ops = ([], 8, 0)) := by show _ = _; unfold allR; rw [if_neg (by rw [ts]; simp)]
    clear ts
    go_wp2_with fail
    refine bodyPost_ret (v := Value.tuple #[.agg #[.slice none 0 0], .int .i64 8, .int .i64 0]) (by rw [results, Tryz.results29]; simp [go_sem, World.cell?_setCell_same _ _ _ p1]) rfl ⟨.inl ⟨by rw [HV.out], by rw [HV.out]; rfl⟩, HB1.out.setCell (by show _ ≤ _ + 1; omega) _⟩
  have HOK : Hid (specOk os = true) := ts
  have HN : Hid (n = 32) := by show _ = _; rw [HLN.out]; exact ok_len ts
  clear ts
  go_wp2_with fail
  refine (listOk_any la m lc ops L2 U2 w1 (Nat.le_trans hU2 HB1.out.size) (H2.below HB1.out hU2)).mono ?_
  rintro e w2 ⟨rfl, hb2⟩
  have HB2 : Hid (Below w.heap.size w w2) := HB1.out.trans (hb2.mono HB1.out.size)
  have HX2 : Hid (w2.rowIs (w.heap.size + 1) 25 1 (zrow #[.slice none 0 0])) := HX1.out.of_block (hb2.block _ HX1.out.lt)
  have q2 : w2.cell? ⟨w.heap.size, 0, none⟩ = some (.slice t n c) := by rw [hb2.cell (by simp; omega)]; exact q1
  have p2 := HX2.out.cell (i := 0) (by omega)
  have z2 := HX2.out.frozen 0
  have hz2 := hb2.size
  clear hb2 q1 p1 z1 HB1 HX1
  rcases tf : formsB ops with _ | _
  · have HV : Hid (allR os ops = ([], 8, 0)) := by show _ = _; unfold allR; rw [if_neg (by rw [tf]; simp)]
    clear tf
    go_wp2_with fail
    refine bodyPost_ret (v := Value.tuple #[.agg #[.slice none 0 0], .int .i64 8, .int .i64 0]) (by rw [results, Tryz.results29]; simp [go_sem, World.cell?_setCell_same _ _ _ p2]) rfl ⟨.inl ⟨by rw [HV.out], by rw [HV.out]; rfl⟩, HB2.out.setCell (by show _ ≤ _ + 1; omega) _⟩
  have HV : Hid (allR os ops = allGo os os ops 0) := by show _ = _; unfold allR; rw [if_pos ⟨HOK.out, tf⟩]
  have HFM : Hid (formsB ops = true) := tf
  have HTR := fun w hU H => trialOf_any t n c os L U w (by rw [HN.out]; omega) (by rw [HN.out]; omega) hS hU H
  have HCT := fun w hU H => copyTree_any t n c os L U w (by rw [HN.out]; omega) (by rw [HN.out]; omega) hS hU H
  clear tf
  go_wp2_with fail
  refine (HTR w2 (Nat.le_trans hU HB2.out.size) (H.below HB2.out hU)).mono ?_
  rintro e w3 ⟨⟨b1, c1, vs, rfl, HOW⟩, hb3⟩
  have HX3 := HX2.out.of_block (hb3.block _ HX2.out.lt)
  have q3 : w3.cell? ⟨w.heap.size, 0, none⟩ = some (.slice t n c) := by rw [hb3.cell (by simp; omega)]; exact q2
  have HB3 := HB2.out.trans (hb3.mono HB2.out.size)
  have hz3 := hb3.size
  have hA2 : Below w3.heap.size w3 (w3.alloc (.cells #[.slice (some ⟨b1, 0, none⟩) n c1] 85)) := (Below.refl _ _).alloc (Nat.le_refl _) _
  have HZ0 : Hid (LZ w (w3.alloc (.cells #[.slice (some ⟨b1, 0, none⟩) n c1] 85)) w3.heap.size 85 t n c b1 c1) :=
    ⟨HB3.trans (hA2.mono HB3.size), by rw [hA2.cell (by simp; omega)]; exact q3, ⟨_, HX3.of_block (hA2.block _ HX3.lt)⟩, by simp [go_sem], ⟨_, zrow_new w3 #[.slice (some ⟨b1, 0, none⟩) n c1] 85⟩, by omega, by simp⟩
  have HT0 : Hid (OwnT (w3.alloc (.cells #[.slice (some ⟨b1, 0, none⟩) n c1] 85)) (w.heap.size + 1 + 1) b1 c1 os vs) := (HOW.base' (by omega)).below hA2
  obtain ⟨T, hT⟩ : ∃ T, w3.heap.size = T := ⟨_, rfl⟩
  have HZT : Hid (LZ w (w3.alloc (.cells #[.slice (some ⟨b1, 0, none⟩) n c1] 85)) T 85 t n c b1 c1) := by have h9 := HZ0.out; rw [hT] at h9; exact h9
  clear HZ0 HOW hA2 HB3 HX3 q3 hb3 q2 p2 z2 HX2 HB2
  go_wp2_with fail
  clear hT hz1 hz2 hz3
  go_loopg [24] m (fun g i wr => ∃ j : Nat, j ≤ m ∧ Hid (g = m - j) ∧ i = .int .i64 j ∧ ∃ os' vs', Hid (LZ w wr T 85 t n c b1 c1) ∧ Hid (OwnT wr (w.heap.size + 1 + 1) b1 c1 os' vs') ∧ Hid (specOk os' = true) ∧ Hid (allGo os os ops 0 = allGo os os' (ops.drop j) j))
  case atStart => exact ⟨0, Nat.zero_le _, rfl, rfl, os, vs, HZT, HT0, HOK, by show _ = _; rw [List.drop_zero]⟩
  case round =>
    obtain ⟨j, hj, hg, rfl, os1, vs1, HZ, HT, HS1, HG⟩ := hrel
    clear HZT HT0
    by_cases hlt : j < m
    · obtain ⟨lb, off, ha, hL, hlb0, hcc⟩ := H2.at_ (by omega)
      obtain ⟨o, he, hsz, hat⟩ := hcc j hlt
      have hlb : lb < w.heap.size := by omega
      obtain ⟨d0, d1, d2, d3, d4, d5, d6⟩ := hat.of_block (HZ.out.below.block lb hlb)
      have hltI : (j : Int) < (m : Int) := by omega
      have hok : opOk o = true := forms_op HFM.out he
      have HL : Hid (os1.length = n) := by show _ = _; rw [HN.out]; exact ok_len HS1.out
      have hDO := fun (w' : World) (b c : Nat) hU HS' hB H => attempt_any sn S0 (w.heap.size + 1 + 1) b c n o os1 vs1 w' hU HS' hB HS1.out HN.out hsz H hok
      obtain ⟨r, hr⟩ : ∃ r, r = actDo os1 o := ⟨_, rfl⟩
      rw [← hr] at hDO
      have HRL : Hid (r.1.length = n) := by show _ = _; rw [hr, actDo_len]; exact HL.out
      have HRO : Hid (r.2 = 0 → specOk r.1 = true) := fun h => by rw [hr]; exact act_ok HS1.out hok (by rw [← hr]; exact h)
      have HG1 : Hid (allGo os os ops 0 = if r.2 = 0 then allGo os r.1 (ops.drop (j + 1)) (j + 1) else (os, r.2, j)) := by show _ = _; rw [HG.out, allGo_step os os1 he, ← hr]
      have hal : Below wr.heap.size wr (wr.alloc (.cells #[.int .i64 o.kind, .int .i64 o.dir, .string o.name, .int .i64 o.dir2, .string o.name2, .int .i64 o.id, .string o.text] 27)) := (Below.refl _ _).alloc (Nat.le_refl _) _
      have HZ6 : Hid (LZ w (wr.alloc (.cells #[.int .i64 o.kind, .int .i64 o.dir, .string o.name, .int .i64 o.dir2, .string o.name2, .int .i64 o.id, .string o.text] 27)) T 85 t n c b1 c1) := HZ.out.next hal
      have HT6 : Hid (OwnT (wr.alloc (.cells #[.int .i64 o.kind, .int .i64 o.dir, .string o.name, .int .i64 o.dir2, .string o.name2, .int .i64 o.id, .string o.text] 27)) (w.heap.size + 1 + 1) b1 c1 os1 vs1) := HT.out.below hal
      have y0 : ∀ ob : Obj, (wr.alloc ob).cell? ⟨T, 0, none⟩ = some (.slice (some ⟨b1, 0, none⟩) n c1) := fun ob => (HZ.out.next ((Below.refl _ _).alloc (Nat.le_refl _) ob)).x
      subst ha
      clear hat hcc he hr HG hok hal
      go_wp2_with fail
      refine (hDO _ b1 c1 (by omega) (HS.below HZ6.out.below hS0) (by have := HZ6.out.lo; have := HZ6.out.lt; omega) HT6.out).mono ?_
      rintro e w4 ⟨k, vs4, hk1, hk2, rfl, hP⟩
      have HZ7 : Hid (LZ w w4 T 85 t n c b1 c1) := HZ6.out.call (by decide) HL.out HT6.out hP.below hP.kt
      have HT7 : Hid (OwnT w4 (w.heap.size + 1 + 1) b1 c1 r.1 vs4) := hP.own
      have HSE : Hid (Sents w4 S0 sn) := HS.below HZ7.out.below hS0
      clear HZ6 HT6 hP hDO HZ HT d0 d1 d2 d3 d4 d5 d6 y0
      rcases k with _ | k
      · have HG2 : Hid (allGo os os ops 0 = allGo os r.1 (ops.drop (j + 1)) (j + 1)) := by show _ = _; rw [HG1.out, if_pos (by simpa using hk1)]
        have HS2 : Hid (specOk r.1 = true) := HRO.out (by simpa using hk1)
        clear hk1 HG1 HRO
        simp only [errV]
        go_wp2_with fail
        go_roundg (m - (j + 1))
        case measure => have := hg.out; omega
        case rel => exact ⟨j + 1, by omega, rfl, by go_num, r.1, vs4, HZ7, HT7, HS2, HG2⟩
      · have HG2 : Hid (allGo os os ops 0 = (os, ((k + 1 : Nat) : Int), j)) := by show _ = _; rw [HG1.out, if_neg (by rw [hk1]; omega), hk1]
        have HAC := actCode_any sn S0 (k + 1) w4
        clear hk1 HG1 HRO HT7
        have y0 := HZ7.out.t
        have hAC := fun w' H => actCode_any sn S0 (k + 1) w' hk2 H
        simp only [errV] at hAC ⊢
        clear HAC
        go_wp2_with fail
        refine (HCT w4 (Nat.le_trans hU HZ7.out.below.size) (H.below HZ7.out.below hU)).mono ?_
        rintro e w8 ⟨⟨b8, c8, vs8, rfl, HOW⟩, hb8⟩
        obtain ⟨f8, r8⟩ := (HZ7.out.next hb8).r
        have z8 := r8.frozen 0
        have q8 := r8.cell (i := 0) (by omega)
        have hz8 := HZ7.out.below.size
        have HSE8 : Hid (Sents w8 S0 sn) := HS.below (HZ7.out.next hb8).below hS0
        go_wp2_with fail
        refine (hAC _ HSE8.out).mono ?_
        rintro e w9 ⟨rfl, rfl⟩
        go_wp2_with fail
        refine bodyPost_ret (v := Value.tuple #[.agg #[.slice (some ⟨b8, 0, none⟩) n c8], .int .i64 ((k + 1 : Nat) : Int), .int .i64 j]) (by rw [results, Tryz.results29]; simp [go_sem, World.cell?_setCell_same _ _ _ q8]) rfl ⟨.inr ⟨b8, c8, vs8, by rw [HV.out, HG2.out, HLN.out], ?_⟩, ?_⟩
        · rw [HV.out, HG2.out]; exact (HOW.setBox ⟨_, r8⟩ 0 _).base' (by omega)
        · exact ((HZ7.out.next hb8).below).setCell (by show _ ≤ _ + 1; omega) _
    · have HG2 : Hid (allGo os os ops 0 = (os1, 0, m)) := by
        show _ = _
        have : j = m := by omega
        subst this
        rw [HG.out, allGo_end _ _ (by rw [HLM.out]; exact Nat.le_refl _)]
      have HL : Hid (os1.length = n) := by show _ = _; rw [HN.out]; exact ok_len HS1.out
      have hjm : ¬ ((j : Int) < (m : Int)) := by omega
      have y0 := HZ.out.x
      obtain ⟨f8, r8⟩ := HZ.out.r
      have z8 := r8.frozen 0
      have q8 := r8.cell (i := 0) (by omega)
      clear HG
      go_wp2_with fail
      refine bodyPost_ret (v := Value.tuple #[.agg #[.slice (some ⟨b1, 0, none⟩) n c1], .int .i64 0, .int .i64 m]) (by rw [results, Tryz.results29]; simp [go_sem, World.cell?_setCell_same _ _ _ q8]) rfl ⟨.inr ⟨b1, c1, vs1, by rw [HV.out, HG2.out, HL.out], ?_⟩, ?_⟩
      · rw [HV.out, HG2.out]; exact (HT.out.setBox ⟨_, r8⟩ 0 _).base' (by omega)
      · exact (HZ.out.below).setCell (by show _ ≤ _ + 1; omega) _
end Go.Proofs.YtnolbfijcnldjaaGreatDoor
