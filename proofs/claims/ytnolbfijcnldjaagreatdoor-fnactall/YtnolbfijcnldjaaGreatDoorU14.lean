/- Lemmas that the proofs of this seat share: OpSet, LogIJ, IntS, LogD, LogE, LogF, LogM, LogN, OpBentA, RunA. -/
import Derived.Test.YtnolbfijcnldjaaGreatDoorU05
import Derived.Test.YtnolbfijcnldjaaGreatDoorU13
import Derived.Test.YtnolbfijcnldjaaGreatDoorU08
import Derived.Deep.CutBlock
import Derived.Test.YtnolbfijcnldjaaGreatDoorU12
/- What is done: the numbers that it names, by the program's set. -/
namespace Go.Proofs.YtnolbfijcnldjaaGreatDoor
open Go.RowKit

/-! Numbers that ascend: two such lists with the same members are one. -/
def AscI (l : List Nat) : Prop := l.Pairwise (· < ·)
theorem ascI_ext : ∀ {l m : List Nat}, AscI l → AscI m → (∀ x, x ∈ l ↔ x ∈ m) → l = m
  | [], [], _, _, _ => rfl
  | [], b :: m, _, _, h => by have := (h b).2 (by simp); simp at this
  | a :: l, [], _, _, h => by have := (h a).1 (by simp); simp at this
  | a :: l, b :: m, hl, hm, h => by
    have hl' := List.pairwise_cons.1 hl
    have hm' := List.pairwise_cons.1 hm
    have hab : a = b := by
      have h1 := (h a).1 (by simp)
      have h2 := (h b).2 (by simp)
      simp at h1 h2
      rcases h1 with h1 | h1
      · exact h1
      · rcases h2 with h2 | h2
        · exact h2.symm
        · have := hl'.1 b h2; have := hm'.1 a h1; omega
    subst hab
    rw [ascI_ext hl'.2 hm'.2 fun x => ?_]
    constructor
    · intro hx
      have := hl'.1 x hx
      have := (h x).1 (by simp [hx])
      simp at this
      rcases this with e | e
      · omega
      · exact e
    · intro hx
      have := hm'.1 x hx
      have := (h x).2 (by simp [hx])
      simp at this
      rcases this with e | e
      · omega
      · exact e
theorem placeI_cons_lt {x y : Nat} {l : List Nat} (h : y < x) : placeI x (y :: l) = placeI x l + 1 := by simp [placeI, h]
theorem placeI_cons_ge {x y : Nat} {l : List Nat} (h : ¬ y < x) : placeI x (y :: l) = 0 := by simp [placeI, h]
theorem putI_cons_lt {x y : Nat} {l : List Nat} (h : y < x) : putI x (y :: l) = y :: putI x l := by
  unfold putI
  rw [placeI_cons_lt h]
  simp
  split <;> simp
theorem putI_cons_eq {x : Nat} {l : List Nat} : putI x (x :: l) = x :: l := by
  unfold putI
  rw [placeI_cons_ge (by omega)]
  simp
theorem putI_cons_gt {x y : Nat} {l : List Nat} (h : x < y) : putI x (y :: l) = x :: y :: l := by
  unfold putI
  rw [placeI_cons_ge (by omega)]
  simp; omega
theorem putI_nil (x : Nat) : putI x [] = [x] := by simp [putI, placeI]
theorem mem_putI (x y : Nat) : ∀ l, y ∈ putI x l ↔ y = x ∨ y ∈ l
  | [] => by simp [putI_nil]
  | a :: l => by
    by_cases h : a < x
    · rw [putI_cons_lt h]; simp [mem_putI x y l]; constructor <;> (intro h; rcases h with h | h | h <;> simp [h])
    · by_cases e : a = x
      · subst e; rw [putI_cons_eq]; simp
      · rw [putI_cons_gt (by omega)]; simp
theorem ascI_putI (x : Nat) : ∀ l, AscI l → AscI (putI x l)
  | [], _ => by simp [putI_nil, AscI]
  | a :: l, h => by
    have h' := List.pairwise_cons.1 h
    by_cases hlt : a < x
    · rw [putI_cons_lt hlt]
      refine List.pairwise_cons.2 ⟨fun y hy => ?_, ascI_putI x l h'.2⟩
      rcases (mem_putI x y l).1 hy with rfl | hy
      · exact hlt
      · exact h'.1 y hy
    · by_cases e : a = x
      · subst e; rw [putI_cons_eq]; exact h
      · rw [putI_cons_gt (by omega)]
        refine List.pairwise_cons.2 ⟨fun y hy => ?_, h⟩
        simp at hy
        rcases hy with rfl | hy
        · omega
        · have := h'.1 y hy; omega
theorem ascI_filter_range (p : Nat → Bool) (n : Nat) : AscI ((List.range n).filter p) :=
  List.Pairwise.filter p List.pairwise_lt_range

/-- Which numbers the set holds. -/
def inSet (k : Int) (i j l m : Nat) : Bool := m == i || (k != 5 && m == j) || (k == 4 && m == l)
def setL (s : Nat → Bool) (n : Nat) : List Nat := (List.range n).filter s
theorem opIds_set {o : LOp} (h : opOk o = true) : opIds o = setL (inSet o.kind o.id.toNat o.dir.toNat o.dir2.toNat) 32 := by
  have b1 := opOk_id h
  have b2 := opOk_dir h
  have b3 := opOk_dir2 h
  have a1 : AscI (opIds1 o) := by
    unfold opIds1
    split
    · simp [AscI]
    · exact ascI_putI _ _ (by simp [AscI])
  refine ascI_ext ?_ (ascI_filter_range _ _) fun x => ?_
  · unfold opIds
    rw [if_pos h]
    split
    · exact ascI_putI _ _ a1
    · exact a1
  · unfold opIds opIds1 setL inSet
    rw [if_pos h]
    by_cases k4 : o.kind = 4
    · simp [k4, mem_putI]
      omega
    · by_cases k5 : o.kind = 5
      · simp [k5]
        omega
      · simp [k4, k5, mem_putI]
        omega
theorem setL_yes {s : Nat → Bool} {n : Nat} (h : s n = true) : setL s (n + 1) = setL s n ++ [n] := by simp [setL, List.range_succ, List.filter_append, h]
theorem setL_no {s : Nat → Bool} {n : Nat} (h : s n = false) : setL s (n + 1) = setL s n := by simp [setL, List.range_succ, List.filter_append, h]
theorem setL_le (s : Nat → Bool) (n : Nat) : (setL s n).length ≤ n := by have := List.length_filter_le s (List.range n); simpa [setL] using this

theorem OwnInts.bare (w : World) (B : Nat) : OwnInts w B (.slice none 0 0) [] := ⟨rfl, .inl ⟨rfl, rfl⟩⟩

set_option maxHeartbeats 1000000 in
set_option maxRecDepth 20000 in
theorem list_any (b : Nat) (s : Nat → Bool) (w : World) (hrow : w.rowIs b 100 32 (fun m => .bool (s m))) :
    Calls Tryz.prog 77 #[.pointer (some ⟨b, 0, none⟩)] w fun e w' => (∃ v, e = .returned v ∧ Hid (OwnInts w' w.heap.size v (setL s 32))) ∧ Below w.heap.size w w' := by
  obtain ⟨i0, hi, hz0, hz1, hz2⟩ := info_parts infoI
  have HR : Hid (w.rowIs b 100 32 (fun m => .bool (s m))) := hrow
  have hbw : b < w.heap.size := hrow.lt
  clear hrow
  go_enter Tryz.func77, Tryz.ntmps77
  go_wp2_with fail
  go_loopg [3, 7] 32 (fun g v i wr => ∃ j : Nat, j ≤ 32 ∧ Hid (g = 32 - j) ∧ i = .int .i64 j ∧ Hid (OwnInts wr w.heap.size v (setL s j)) ∧ Below w.heap.size w wr)
  case atStart => exact ⟨0, by omega, rfl, rfl, OwnInts.bare _ _, Below.refl _ _⟩
  case round =>
    obtain ⟨j, hj, hk, rfl, hown, hb⟩ := hrel
    have hsz := hb.size
    by_cases hlt : j < 32
    · have hc : wr.cell? ⟨b, j, none⟩ = some (.bool (s j)) := by rw [hb.cell (by simpa using hbw)]; exact HR.out.cell hlt
      have hbl : b < wr.heap.size := by omega
      have hlt' : (j : Int) < 32 := by omega
      have hle := setL_le s j
      rcases hs : s j with _ | _
      · have HL : Hid (setL s (j + 1) = setL s j) := setL_no hs
        rw [hs] at hc
        clear hs
        go_wp2_with fail
        go_region
        all_goals
          go_wp2_with fail
          go_roundg (32 - (j + 1))
          case measure => have := hk.out; omega
          case rel => exact ⟨j + 1, by omega, rfl, by go_num, by show OwnInts _ _ _ _; rw [HL.out]; exact hown.out, hb.drew⟩
      · have HL : Hid (setL s (j + 1) = setL s j ++ [j]) := setL_yes hs
        rw [hs] at hc
        clear hs
        go_wp2_with fail
        go_region
        all_goals
          go_wp2_with (first
            | (at_builtin; refine wpList_append_own _ rfl _ _ 34 rfl w.heap.size 3 i0 (.int .i64 0) 1 8 Tryz.underlying34 hi hz0 hz1 hz2 rfl (by decide) _ _ _ rfl (hown.out.alloc _) ⟨wr.heap.size, 0, none⟩ 1 1 [.int .i64 (j : Int)] rfl rfl ?c1 ?c2 ?c3 ?c4 ?c5 ?_)
            | go_in)
          case c1 => intro i u hi; exact one_at hi
          case c2 => intro u hu; simp at hu; subst hu; rfl
          case c3 => unfold maxLen; omega
          case c4 => omega
          case c5 => simp; omega
          intro v' w1 hown' hgrow _
          go_wp2_with fail
          go_roundg (32 - (j + 1))
          case measure => have := hk.out; omega
          case rel => exact ⟨j + 1, by omega, rfl, by go_num, by show OwnInts _ _ _ _; rw [HL.out]; simpa [OwnInts] using hown', below_grown (hb.drew.alloc (by simpa using hsz) _) hgrow (fun k e => (hown.out.lt k e).1) (by simp; omega)⟩
    · obtain rfl : j = 32 := by omega
      go_wp2_with fail
      go_ret
      exact ⟨⟨_, rfl, hown⟩, hb⟩

def AddEnd (b i j l : Nat) (k : Int) (w : World) (e : Ending) (w' : World) : Prop :=
  e = .returned (.tuple #[]) ∧ w'.rowIs b 100 32 (fun m => .bool (inSet k i j l m)) ∧ But b w w'

theorem row_add {w : World} {b i : Nat} {s s' : Nat → Bool} (h : w.rowIs b 100 32 (fun m => .bool (s m))) (e : ∀ m, s' m = (s m || m == i)) : (w.setCell ⟨b, i, none⟩ (.bool true)).rowIs b 100 32 (fun m => .bool (s' m)) :=
  (h.set i (.bool true)).congr fun m _ => by
    rw [e m]
    by_cases hm : m = i
    · simp [hm]
    · simp [hm]
set_option maxHeartbeats 1000000 in
set_option maxRecDepth 20000 in
theorem addOf_any (b i j l : Nat) (k : Int) (nm nm2 tx : ByteArray) (w : World) (hi : i < 32) (hj : j < 32) (hl : l < 32) (hrow : w.rowIs b 100 32 (fun _ => .bool false)) :
    Calls Tryz.prog 76 #[.pointer (some ⟨b, 0, none⟩), .agg #[.int .i64 k, .int .i64 j, .string nm, .int .i64 l, .string nm2, .int .i64 i, .string tx]] w fun e w' => AddEnd b i j l k w e w' := by
  have hbw : b < w.heap.size := hrow.lt
  have hi' : (i : Int) < 32 := by omega
  have hj' : (j : Int) < 32 := by omega
  have hl' : (l : Int) < 32 := by omega
  have g1 : w.cell? ⟨b, i, none⟩ = some (.bool false) := hrow.cell hi
  have f1 : w.frozen? ⟨b, i, none⟩ = false := hrow.frozen i
  have HR : Hid (w.rowIs b 100 32 (fun _ => .bool false)) := hrow
  clear hrow
  go_enter Tryz.func76, Tryz.ntmps76
  go_upto_region 2 with fail
  go_cut [4] (fun s wx => s = .int .i64 k ∧ Hid (wx.rowIs b 100 32 (fun m => .bool (m == i))) ∧ Hid (But b w wx) ∧ w.heap.size < wx.heap.size ∧ wx.cell? ⟨w.heap.size, 1, none⟩ = some (.int .i64 j) ∧ wx.cell? ⟨w.heap.size, 3, none⟩ = some (.int .i64 l))
  case first =>
    go_region
    all_goals
      go_wp2_with fail
      go_meet
      refine ⟨rfl, ?_, ?_, by simp, by simp [go_sem], by simp [go_sem]⟩
      · show World.rowIs _ b 100 32 _
        exact ((row_add HR.out (s' := fun m => m == i) (fun m => by simp)).alloc _).drew
      · exact ((But.refl b w).set i (.bool true)).next (by simp; omega) ((Below.refl _ _).alloc (Nat.le_refl _) _).drew
  obtain ⟨rfl, hr1, hb1, hz1, c1, c3⟩ := hcut
  have hbx : b < wc.heap.size := by omega
  by_cases k5 : k = 5
  · subst k5
    go_wp2_with (first | (go_at_call 134; refine (inDir_any _ _).mono ?_; rintro e w' ⟨rfl, rfl⟩) | (go_at_call 135; refine (moves_any _ _).mono ?_; rintro e w' ⟨rfl, rfl⟩))
    go_end0
    exact ⟨rfl, hr1.out.congr fun m _ => by simp [inSet], hb1.out⟩
  have t5 : (k != 5) = true := by simpa using k5
  have g2 : wc.cell? ⟨b, j, none⟩ = some (.bool (j == i)) := hr1.out.cell hj
  have f2 : wc.frozen? ⟨b, j, none⟩ = false := hr1.out.frozen j
  have hc3 : ∀ v, (wc.setCell ⟨b, j, none⟩ v).cell? ⟨w.heap.size, 3, none⟩ = some (.int .i64 l) := fun v => by rw [World.cell?_setCell_other _ _ _ _ (by simp <;> omega)]; exact c3
  have hr2 := row_add hr1.out (i := j) (s' := fun m => m == i || m == j) (fun m => rfl)
  have g3 : (wc.setCell ⟨b, j, none⟩ (.bool true)).cell? ⟨b, l, none⟩ = some (.bool (l == i || l == j)) := hr2.cell hl
  have f3 : (wc.setCell ⟨b, j, none⟩ (.bool true)).frozen? ⟨b, l, none⟩ = false := hr2.frozen l
  have g4 := hc3 (.bool true)
  have HR2 : Hid ((wc.setCell ⟨b, j, none⟩ (.bool true)).rowIs b 100 32 (fun m => .bool (m == i || m == j))) := hr2
  clear hr2 hc3
  by_cases k4 : k = 4
  · subst k4
    go_wp2_with (go_at_call 134; refine (inDir_any _ _).mono ?_; rintro e w' ⟨rfl, rfl⟩)
    go_region
    all_goals
      go_wp2_with (go_at_call 135; refine (moves_any _ _).mono ?_; rintro e w9 ⟨rfl, rfl⟩)
      go_region
      all_goals
        go_wp2_with fail
        go_end0
        exact ⟨rfl, (row_add HR2.out (i := l) (s' := inSet 4 i j l) (fun m => by simp [inSet])).drew.drew, ((hb1.out.set j (.bool true)).set l (.bool true)).next (by simp; omega) (Below.refl _ _).drew.drew⟩
  · have t4 : (k == 4) = false := by simpa using k4
    go_wp2_with (go_at_call 134; refine (inDir_any _ _).mono ?_; rintro e w' ⟨rfl, rfl⟩)
    go_region
    all_goals
      go_wp2_with (go_at_call 135; refine (moves_any _ _).mono ?_; rintro e w9 ⟨rfl, rfl⟩)
      go_end0
      exact ⟨rfl, HR2.out.drew.congr fun m _ => by simp [inSet, t5, t4], (hb1.out.set j (.bool true)).next (by simp; omega) (Below.refl _ _).drew⟩

theorem zero110 : (#[.bool false, .bool false, .bool false, .bool false, .bool false, .bool false, .bool false, .bool false, .bool false, .bool false, .bool false, .bool false, .bool false, .bool false, .bool false, .bool false, .bool false, .bool false, .bool false, .bool false, .bool false, .bool false, .bool false, .bool false, .bool false, .bool false, .bool false, .bool false, .bool false, .bool false, .bool false, .bool false] : Array Value) = madeCells #[.bool false] 32 := by kernel_rfl
theorem row_zero (w : World) : (w.alloc (.cells #[.bool false, .bool false, .bool false, .bool false, .bool false, .bool false, .bool false, .bool false, .bool false, .bool false, .bool false, .bool false, .bool false, .bool false, .bool false, .bool false, .bool false, .bool false, .bool false, .bool false, .bool false, .bool false, .bool false, .bool false, .bool false, .bool false, .bool false, .bool false, .bool false, .bool false, .bool false, .bool false] 100)).rowIs w.heap.size 100 32 (fun _ => .bool false) := by
  rw [zero110]; exact World.rowIs_made w (.bool false) 32 100

set_option maxHeartbeats 400000 in
theorem implOpIds (o : LOp) (w : World) (hs : OpSz o) :
    Calls Tryz.prog 23 #[.agg o.val] w fun e w' => (∃ v, e = .returned v ∧ Hid (OwnInts w' w.heap.size v (opIds o))) ∧ Below w.heap.size w w' := by
  have HIM := fun w => implOpOk o w hs
  rcases hok : opOk o with _ | _
  · have hids : Hid (opIds o = []) := by show _ = _; simp [opIds, hok]
    simp only [LOp.val] at *
    go_enter Tryz.func23, Tryz.ntmps23
    go_wp2_with fail
    refine (HIM _).mono ?_
    rintro x w1 ⟨rfl, hb1⟩
    rw [hok]
    go_wp2_with fail
    go_ret
    exact ⟨⟨_, rfl, by show OwnInts _ _ _ _; rw [hids.out]; exact OwnInts.bare _ _⟩, ((Below.refl _ _).alloc (Nat.le_refl _) _).trans (hb1.mono (by simp))⟩
  · have hset : Hid (opIds o = setL (inSet o.kind o.id.toNat o.dir.toNat o.dir2.toNat) 32) := opIds_set hok
    have b1 := opOk_id hok
    have b2 := opOk_dir hok
    have b3 := opOk_dir2 hok
    obtain ⟨k, d, nm, d2, nm2, id, tx⟩ := o
    simp only [LOp.val] at *
    obtain ⟨i, rfl⟩ : ∃ i : Nat, id = i := ⟨id.toNat, by omega⟩
    obtain ⟨j, rfl⟩ : ∃ i : Nat, d = i := ⟨d.toNat, by omega⟩
    obtain ⟨l, rfl⟩ : ∃ i : Nat, d2 = i := ⟨d2.toNat, by omega⟩
    simp only [Int.toNat_natCast] at hset
    have hi : i < 32 := by omega
    have hj : j < 32 := by omega
    have hl : l < 32 := by omega
    clear b1 b2 b3
    go_enter Tryz.func23, Tryz.ntmps23
    go_wp2_with fail
    refine (HIM _).mono ?_
    rintro x w1 ⟨rfl, hb1⟩
    rw [hok]
    have hA : Below w.heap.size w w1 := ((Below.refl _ _).alloc (Nat.le_refl _) _).trans (hb1.mono (by simp))
    have hz : w.heap.size < w1.heap.size := by have := hb1.size; simp at this; omega
    have c0 : w1.cell? ⟨w.heap.size, 0, none⟩ = some (.int .i64 k) := by rw [hb1.cell (by simp)]; simp [go_sem]
    have c1 : w1.cell? ⟨w.heap.size, 1, none⟩ = some (.int .i64 j) := by rw [hb1.cell (by simp)]; simp [go_sem]
    have c2 : w1.cell? ⟨w.heap.size, 2, none⟩ = some (.string nm) := by rw [hb1.cell (by simp)]; simp [go_sem]
    have c3 : w1.cell? ⟨w.heap.size, 3, none⟩ = some (.int .i64 l) := by rw [hb1.cell (by simp)]; simp [go_sem]
    have c4 : w1.cell? ⟨w.heap.size, 4, none⟩ = some (.string nm2) := by rw [hb1.cell (by simp)]; simp [go_sem]
    have c5 : w1.cell? ⟨w.heap.size, 5, none⟩ = some (.int .i64 i) := by rw [hb1.cell (by simp)]; simp [go_sem]
    have c6 : w1.cell? ⟨w.heap.size, 6, none⟩ = some (.string tx) := by rw [hb1.cell (by simp)]; simp [go_sem]
    clear hb1
    go_wp2_with fail
    refine (addOf_any _ i j l _ _ _ _ _ hi hj hl (row_zero w1)).mono ?_
    rintro x w2 ⟨rfl, hr2, hb2⟩
    have hb3 : Below w.heap.size w w2 := (hA.alloc hA.size _).trans (hb2.below.mono hA.size)
    have hz2 : w1.heap.size < w2.heap.size := by have := hb2.below.size; simp at this; omega
    clear c0 c1 c2 c3 c4 c5 c6
    go_wp2_with fail
    refine (list_any _ _ _ hr2).mono ?_
    rintro x w3 ⟨⟨v, rfl, hv⟩, hb4⟩
    go_wp2_with fail
    go_ret
    exact ⟨⟨_, rfl, by show OwnInts _ _ _ _; rw [hset.out]; exact hv.out.mono (by omega)⟩, hb3.trans (hb4.mono (by omega))⟩
end Go.Proofs.YtnolbfijcnldjaaGreatDoor

/- Logs: the numbers that a list names, of the program and of the specification. -/
namespace Go.Proofs.YtnolbfijcnldjaaGreatDoor
open Go.RowKit

/-! The plain function. -/
/-! The program's set grows. -/
end Go.Proofs.YtnolbfijcnldjaaGreatDoor

/- Logs: the numbers that a list names, of the specification. -/
namespace Go.Proofs.YtnolbfijcnldjaaGreatDoor
open Go.RowKit

theorem OwnInts.keep {w w' : World} {B g n cap : Nat} {l : List Nat} (h : OwnInts w B (.slice (some ⟨g, 0, none⟩) n cap) l) (hb : w'.heap[g]? = w.heap[g]?) : OwnInts w' B (.slice (some ⟨g, 0, none⟩) n cap) l := by
  rcases h with ⟨h0, h1⟩
  refine ⟨h0, ?_⟩
  rcases h1 with ⟨e, _⟩ | ⟨g', cap', cur, e, h2, h3, h4⟩
  · cases e
  · cases e
    exact .inr ⟨g, cap, cur, rfl, h2, by rw [hb]; exact h3, h4⟩
end Go.Proofs.YtnolbfijcnldjaaGreatDoor

/- Lists of numbers as answers: compared, marked, held. -/
namespace Go.Proofs.YtnolbfijcnldjaaGreatDoor
open Go.RowKit

/-- A list of numbers in a row of its own. -/
def IntRow (w : World) (B : Nat) (a : Option Addr) (n g cap : Nat) (f : Nat → Value) : Prop := n ≠ 0 → a = some ⟨g, 0, none⟩ ∧ B ≤ g ∧ n ≤ cap ∧ w.rowIs g 3 cap f
theorem OwnInts.row {w : World} {B : Nat} {v : Value} {l : List Nat} (h : OwnInts w B v l) : ∃ a c g cap f, v = .slice a l.length c ∧ B ≤ g ∧ IntRow w B a l.length g cap f ∧ ∀ i k, l[i]? = some k → f i = .int .i64 (k : Nat) := by
  rcases h.2 with ⟨rfl, h0⟩ | ⟨g, cap, cur, rfl, hb, hg, hnc, hcm, hcs, htake⟩
  · exact ⟨none, 0, B, 0, fun _ => default, by rw [h0], Nat.le_refl _, fun hn => absurd h0 hn, fun i k hk => by have := (List.getElem?_eq_some_iff.1 hk).1; omega⟩
  · refine ⟨_, cap, g, cap, fun i => cur[i]?.getD default, rfl, hb, fun _ => ⟨rfl, hb, hnc, ⟨cur, hg, by omega, fun i hi => by simp [Array.getElem?_eq_getElem (show i < cur.size by omega)]⟩⟩, fun i k hk => ?_⟩
    have hlt := (List.getElem?_eq_some_iff.1 hk).1
    have h1 : (cur.toList.take (l.length * 1))[i]? = some (.int .i64 (k : Nat)) := by rw [htake, List.getElem?_map, hk]; rfl
    rw [List.getElem?_take_of_lt (by omega)] at h1
    simp at h1
    simp [h1]
theorem IntRow.kept {w w' : World} {B : Nat} {a : Option Addr} {n g cap : Nat} {f : Nat → Value} (h : IntRow w B a n g cap f) (hb : ∀ k, k = g → k < w.heap.size → w'.heap[k]? = w.heap[k]?) : IntRow w' B a n g cap f := fun hn => by
  obtain ⟨h1, h2, h3, h4⟩ := h hn
  exact ⟨h1, h2, h3, h4.of_block (hb g rfl h4.lt)⟩

end Go.Proofs.YtnolbfijcnldjaaGreatDoor

/- Logs: what is ok, of the program. -/
namespace Go.Proofs.YtnolbfijcnldjaaGreatDoor
open Go.RowKit

/-- Numbers that are looked at only. -/
def IntsAt (w : World) (L U : Nat) (a : Option Addr) (n : Nat) (l : List Nat) : Prop := n = l.length ∧ ∀ i, i < n → ∃ g k, a = some ⟨g, 0, none⟩ ∧ L ≤ g ∧ g < U ∧ l[i]? = some k ∧ w.cell? ⟨g, i, none⟩ = some (.int .i64 (k : Nat))
theorem OwnInts.at_ {w : World} {B : Nat} {v : Value} {l : List Nat} (h : OwnInts w B v l) : ∃ a c, v = .slice a l.length c ∧ IntsAt w B w.heap.size a l.length l := by
  obtain ⟨a, c, rfl, hc⟩ := h.form
  exact ⟨a, c, rfl, rfl, fun i hi => by
    obtain ⟨g, k, h1, h2, h3, h4, h5⟩ := hc i hi
    exact ⟨g, k, h1, h2, h3, h4, h5⟩⟩
theorem IntsAt.below {w w' : World} {L U B : Nat} {a : Option Addr} {n : Nat} {l : List Nat} (h : IntsAt w L U a n l) (hb : Below B w w') (hU : U ≤ B) : IntsAt w' L U a n l := ⟨h.1, fun i hi => by
  obtain ⟨g, k, h1, h2, h3, h4, h5⟩ := h.2 i hi
  exact ⟨g, k, h1, h2, h3, h4, by rw [hb.cell (by simp; omega)]; exact h5⟩⟩

end Go.Proofs.YtnolbfijcnldjaaGreatDoor

/- Logs: what is ok, of the specification. -/
namespace Go.Proofs.YtnolbfijcnldjaaGreatDoor
open Go.RowKit

end Go.Proofs.YtnolbfijcnldjaaGreatDoor

/- Logs: whether a log fits, of the program and of the specification. -/
namespace Go.Proofs.YtnolbfijcnldjaaGreatDoor
open Go.RowKit

end Go.Proofs.YtnolbfijcnldjaaGreatDoor

/- Logs: made, by the program and by the specification. -/
namespace Go.Proofs.YtnolbfijcnldjaaGreatDoor
open Go.RowKit

/-! Rows of bases, of one's own, that grow. -/
def baseCells (l : List LBase) : List Value := l.flatMap fun e => [Value.int .i64 e.id, Value.int .i64 e.ver]
def OwnBases (w : World) (B : Nat) (v : Value) (l : List LBase) : Prop := w.ownsRow B 121 2 v l.length (baseCells l)
theorem OwnBases.bare (w : World) (B : Nat) : OwnBases w B (.slice none 0 0) [] := ⟨rfl, .inl ⟨rfl, rfl⟩⟩
theorem OwnBases.base {w : World} {B B' : Nat} {v : Value} {l : List LBase} (h : OwnBases w B v l) (hB : B' ≤ B) : OwnBases w B' v l := by
  rcases h with ⟨h0, h2⟩
  refine ⟨h0, ?_⟩
  rcases h2 with h2 | ⟨g', cap', cur, e, h3, h4⟩
  · exact .inl h2
  · exact .inr ⟨g', cap', cur, e, by omega, h4⟩
/-! The plain functions. -/
theorem OwnBases.form {w : World} {B : Nat} {v : Value} {l : List LBase} (h : OwnBases w B v l) : ∃ a c, v = .slice a l.length c := by
  rcases h.2 with ⟨e, h0⟩ | ⟨g, cap, cur, e, _⟩
  · exact ⟨none, 0, by rw [e, h0]⟩
  · exact ⟨_, _, e⟩
theorem OwnOps.formS {w : World} {B : Nat} {v : Value} {l : List LOp} (h : OwnOps w B v l) : ∃ a c, v = .slice a l.length c := by
  rcases h.2 with ⟨e, h0⟩ | ⟨g, cap, cur, e, _⟩
  · exact ⟨none, 0, by rw [e, h0]⟩
  · exact ⟨_, _, e⟩
theorem OwnBases.next {w w' : World} {B : Nat} {v : Value} {l : List LBase} (h : OwnBases w B v l) (hb : Below w.heap.size w w') : OwnBases w' B v l := by
  rcases h with ⟨h0, h2⟩
  refine ⟨h0, ?_⟩
  rcases h2 with h2 | ⟨g', cap', cur, e, h3, h4, h5⟩
  · exact .inl h2
  · exact .inr ⟨g', cap', cur, e, h3, by rw [hb.block g' (Array.getElem?_eq_some_iff.1 h4).1]; exact h4, h5⟩
end Go.Proofs.YtnolbfijcnldjaaGreatDoor

/- Logs: made by the specification. -/
namespace Go.Proofs.YtnolbfijcnldjaaGreatDoor
open Go.RowKit

section
variable {ops : Array Oper} {ac : Act} {K : Act → World → Prop} {Q : Exit → Act → World → Prop} {E : Prop} {ty : TypeId} {ps : String} {af : Array Edge}
end

end Go.Proofs.YtnolbfijcnldjaaGreatDoor

/- Something to be done, as it is drawn, one in twelve bent (l3OpBent). -/
namespace Go.Proofs.YtnolbfijcnldjaaGreatDoor
open Go.RowKit

theorem EntsAt.blocks_ {w w' : World} {L U : Nat} {a : Option Addr} {n : Nat} {es : List LEnt} (h : EntsAt w L U a n es) (hb : ∀ b, L ≤ b → b < U → w'.heap[b]? = w.heap[b]?) : EntsAt w' L U a n es :=
  ⟨h.len, h.bd, fun hn => by
    obtain ⟨b, off, ha, hL, hbU, hc⟩ := h.at_ hn
    refine ⟨b, off, ha, hL, hbU, fun i hi => ?_⟩
    obtain ⟨e, he, hs, h0, h1⟩ := hc i hi
    have hk := hb b hL hbU
    exact ⟨e, he, hs, by rw [World.cell?_of_block (w := w) hk]; exact h0, by rw [World.cell?_of_block (w := w) hk]; exact h1⟩⟩
theorem ObjsAt.blocks_ {w w' : World} {L U : Nat} {a : Option Addr} {n : Nat} {os : List LObj} (h : ObjsAt w L U a n os) (hb : ∀ b, L ≤ b → b < U → w'.heap[b]? = w.heap[b]?) : ObjsAt w' L U a n os :=
  ⟨h.len, h.bd, fun hn => by
    obtain ⟨b, off, ha, hL, hbU, hc⟩ := h.at_ hn
    refine ⟨b, off, ha, hL, hbU, fun i hi => ?_⟩
    obtain ⟨o, ka, kn, kc, he, hs, h0, h1, h2, h3, hk⟩ := hc i hi
    have hk' := hb b hL hbU
    exact ⟨o, ka, kn, kc, he, hs, by rw [World.cell?_of_block (w := w) hk']; exact h0, by rw [World.cell?_of_block (w := w) hk']; exact h1, by rw [World.cell?_of_block (w := w) hk']; exact h2, by rw [World.cell?_of_block (w := w) hk']; exact h3, hk.blocks_ hb⟩⟩
theorem But.both_ {W3 V F : World} {rb q : Nat} (h : But rb W3 V) (hb : But q V F) (hq : W3.heap.size ≤ q) (hr : rb ≤ q) : But rb W3 F := ⟨h.below.trans (hb.below.mono hr), fun i hi hl => (hb.block i (by omega) (by have := h.below.size; omega)).trans (h.block i hi hl)⟩
theorem RdTo.both_ {V F : World} {rb q P : Nat} (h : RdTo V rb P) (hb : But q V F) (hr : rb < q) : RdTo F rb P := by
  obtain ⟨p, hp, R⟩ := h
  exact ⟨p, hp, R.below hb.below hr⟩
theorem RdTo.on_ {V : World} {rb P P' : Nat} (h : RdTo V rb P) (hP : P ≤ P') : RdTo V rb P' := by
  obtain ⟨p, hp, R⟩ := h
  exact ⟨p, by omega, R⟩
theorem opAt_of {F : World} {q : Nat} {x : LOp} {f : Nat → Value} (h : F.rowIs q 27 7 (fun i => if i = 0 + 6 then .string x.text else if i = 0 + 5 then .int .i64 x.id else if i = 0 + 4 then .string x.name2 else if i = 0 + 3 then .int .i64 x.dir2 else if i = 0 + 2 then .string x.name else if i = 0 + 1 then .int .i64 x.dir else if i = 0 then .int .i64 x.kind else f i)) : OpAt F q 0 x :=
  ⟨by rw [h.cell (by omega)]; rfl, by rw [h.cell (by omega)]; rfl, by rw [h.cell (by omega)]; rfl, by rw [h.cell (by omega)]; rfl, by rw [h.cell (by omega)]; rfl, by rw [h.cell (by omega)]; rfl, by rw [h.cell (by omega)]; rfl⟩
/-- In the midst of it: the reader, the box of what is drawn. -/
structure OB (W0 W : World) (rb P q5 : Nat) (o : LOp) : Prop where
  but : But rb W0 W
  rd : RdTo W rb P
  at_ : OpAt W q5 0 o
  row : ∃ f, W.rowIs q5 27 7 f
  lo : W0.heap.size ≤ q5
  b : o.name.size ≤ 5 ∧ o.name2.size ≤ 5 ∧ o.text.size ≤ 5
theorem OB.next {W0 W W' : World} {rb P P' q5 : Nat} {o : LOp} (h : OB W0 W rb P q5 o) (hr0 : rb < W0.heap.size) (hb : But rb W W') (hr : RdTo W' rb P') : OB W0 W' rb P' q5 o := by
  obtain ⟨f, hf⟩ := h.row
  have hk := hb.block q5 (by have := h.lo; omega) hf.lt
  exact ⟨h.but.trans hb, hr, h.at_.of_block hk, ⟨f, hf.of_block hk⟩, h.lo, h.b⟩
theorem OB.put {W0 W : World} {rb P q5 : Nat} {o : LOp} (h : OB W0 W rb P q5 o) (hr0 : rb < W0.heap.size) (k : Nat) (v : Value) (o' : LOp) (ha : OpAt (W.setCell ⟨q5, k, none⟩ v) q5 0 o') (hb' : o'.name.size ≤ 5 ∧ o'.name2.size ≤ 5 ∧ o'.text.size ≤ 5) : OB W0 (W.setCell ⟨q5, k, none⟩ v) rb P q5 o' := by
  obtain ⟨f, hf⟩ := h.row
  have hs := (But.refl q5 W).set k v
  exact ⟨h.but.both_ hs h.lo (by have := h.lo; omega), h.rd.both_ hs (by have := h.lo; omega), ha, ⟨_, hf.set k v⟩, h.lo, hb'⟩
theorem OB.on {W0 W : World} {rb P P' q5 : Nat} {o : LOp} (h : OB W0 W rb P q5 o) (hP : P ≤ P') : OB W0 W rb P' q5 o := ⟨h.but, h.rd.on_ hP, h.at_, h.row, h.lo, h.b⟩
/-- Its texts are short. -/
def OpB (o : LOp) : Prop := o.name.size ≤ 5 ∧ o.name2.size ≤ 5 ∧ o.text.size ≤ 5
def OpBentEnd (w : World) (rb P : Nat) (e : Ending) (w' : World) : Prop := (∃ o : LOp, e = .returned (.agg o.val) ∧ OpB o) ∧ RdTo w' rb P ∧ But rb w w'
set_option maxHeartbeats 4000000 in
set_option maxRecDepth 20000 in
theorem opBent_any (rb p : Nat) (a : Option Addr) (c : Nat) (os : List LObj) (L : Nat) (w : World) (hp : p ≤ 900000) (hrw : rb < w.heap.size) (hrL : rb < L) (hS : Few os) (H : ObjsAt w L w.heap.size a 32 os) (R : RdTo w rb p) :
    Calls Tryz.prog 62 #[.pointer (some ⟨rb, 0, none⟩), .agg #[.slice a 32 c]] w fun e w' => OpBentEnd w rb (p + 20) e w' := by
  go_enter Tryz.func62, Tryz.ntmps62
  go_upto_region 1 with fail
  have hA0 : Below w.heap.size w ((w.alloc (Obj.cells #[.slice a 32 c] 25)).alloc (Obj.cells #[.int .i64 0, .int .i64 0, .string ⟨#[]⟩, .int .i64 0, .string ⟨#[]⟩, .int .i64 0, .string ⟨#[]⟩] 27)) := ((Below.refl _ _).alloc (Nat.le_refl _) _).alloc (by simp) _
  have s3 : ((w.alloc (Obj.cells #[.slice a 32 c] 25)).alloc (Obj.cells #[.int .i64 0, .int .i64 0, .string ⟨#[]⟩, .int .i64 0, .string ⟨#[]⟩, .int .i64 0, .string ⟨#[]⟩] 27)).cell? ⟨w.heap.size, 0, none⟩ = some (.slice a 32 c) := by simp [go_sem]
  have R4 : Hid (((w.alloc (Obj.cells #[.slice a 32 c] 25)).alloc (Obj.cells #[.int .i64 0, .int .i64 0, .string ⟨#[]⟩, .int .i64 0, .string ⟨#[]⟩, .int .i64 0, .string ⟨#[]⟩] 27)).rowIs (w.heap.size + 1) 27 7 (zrow #[.int .i64 0, .int .i64 0, .string ⟨#[]⟩, .int .i64 0, .string ⟨#[]⟩, .int .i64 0, .string ⟨#[]⟩])) := by
    have := zrow_new (w.alloc (Obj.cells #[.slice a 32 c] 25)) #[.int .i64 0, .int .i64 0, .string ⟨#[]⟩, .int .i64 0, .string ⟨#[]⟩, .int .i64 0, .string ⟨#[]⟩] 27
    show World.rowIs _ _ _ _ _
    simpa using this
  have hz0 : w.heap.size + 2 ≤ ((w.alloc (Obj.cells #[.slice a 32 c] 25)).alloc (Obj.cells #[.int .i64 0, .int .i64 0, .string ⟨#[]⟩, .int .i64 0, .string ⟨#[]⟩, .int .i64 0, .string ⟨#[]⟩] 27)).heap.size := by simp
  generalize hW0 : (w.alloc (Obj.cells #[.slice a 32 c] 25)).alloc (Obj.cells #[.int .i64 0, .int .i64 0, .string ⟨#[]⟩, .int .i64 0, .string ⟨#[]⟩, .int .i64 0, .string ⟨#[]⟩] 27) = W0 at *
  clear hW0
  have HO : Hid (ObjsAt W0 L w.heap.size a 32 os) := H.below hA0 (Nat.le_refl _)
  have hBt : But rb W0 W0.drew := But.of_below (by omega) (Below.refl _ _).drew
  have hRd : RdTo W0.drew rb p := (R.but hA0 hrw).but (Below.refl _ _).drew (by omega)
  go_cut [5] (fun s5 wx => ∃ q5 o, s5 = .pointer (some ⟨q5, 0, none⟩) ∧ W0.heap.size ≤ q5 ∧ OpSm o ∧ OpAt wx q5 0 o ∧ (∃ f, wx.rowIs q5 27 7 f) ∧ RdTo wx rb (p + 10) ∧ But rb W0 wx)
  case first =>
    refine wp_region_held_drew (S := (fun W => W.cell? ⟨w.heap.size, 0, none⟩ = some (.slice a 32 c))) (by kernel_rfl) ?_ (fun hHeld => ?_)
    · exact s3
    refine listH (l2 := #[false, false, false, false, false, false, false]) (by kernel_rfl) ?_
    refine takeH (i := 0) (oi := _) (v := ?vk35) 6 #[true, false, false, false, false, false, false] rfl (by kernel_rfl) (by kernel_rfl) (by kernel_rfl) rfl (by kernel_rfl) (fun _ _ _ h => h) (Or.inl ⟨by rfl, ?yk35⟩) (by assumption) ?rk35
    case yk35 => (intro w' hSw; go_simp; try with_reducible rfl)
    simp only [Act.put, List.setIfInBounds_toArray, List.set_cons_succ, List.set_cons_zero]
    refine takeH (i := 1) (oi := _) (v := ?vk36) 7 #[true, true, false, false, false, false, false] rfl (by kernel_rfl) (by kernel_rfl) (by kernel_rfl) rfl (by kernel_rfl) (fun _ _ _ h => h) (Or.inl ⟨by rfl, ?yk36⟩) (by assumption) ?rk36
    case yk36 => (intro w' hSw; go_simp; try with_reducible rfl)
    simp only [Act.put, List.setIfInBounds_toArray, List.set_cons_succ, List.set_cons_zero]
    refine takeH (i := 2) (oi := _) (v := ?vk37) 8 #[true, true, true, false, false, false, false] rfl (by kernel_rfl) (by kernel_rfl) (by kernel_rfl) rfl (by kernel_rfl) (fun _ _ _ h => h) (Or.inl ⟨by rfl, ?yk37⟩) (by assumption) ?rk37
    case yk37 => (intro w' hSw; go_simp; try with_reducible rfl)
    simp only [Act.put, List.setIfInBounds_toArray, List.set_cons_succ, List.set_cons_zero]
    refine wpAnyH_ready (rs := [3, 5]) (by kernel_rfl) (by simp) ?_
    refine AllReadyH.cons (o := _) rfl (fun K hK => ?_) (AllReadyH.cons (o := _) rfl (fun K hK => ?_) AllReadyH.nil)
    · go_simp
      refine (pick_to rb p 4 _ (by omega) (by omega) (by omega) hRd).mono ?_
      rintro e V3 ⟨⟨x, rfl, hx⟩, hRd, hb3⟩
      have hBt := hBt.trans hb3
      clear hb3
      go_wp2_with fail
      refine hK.out _ _ (by rw [hBt.cell (by simp; omega) (by simp; omega)]; exact s3) (fun hHeld => ?_)
      clear hK K
      try simp only [Act.put]
      refine listH (l2 := #[true, true, true, true, false, false, false]) (by kernel_rfl) ?_
      refine wpAnyH_ready (rs := [4, 5]) (by kernel_rfl) (by simp) ?_
      refine AllReadyH.cons (o := _) rfl (fun K hK => ?_) (AllReadyH.cons (o := _) rfl (fun K hK => ?_) AllReadyH.nil)
      · go_simp
        have HT := ((HO.out.blocks_ fun i h1 h2 => hBt.block i (by omega) (by omega)).wide (Nat.le_refl _) (Nat.le_trans (by omega : w.heap.size ≤ W0.heap.size) hBt.below.size) : ObjsAt _ L _ a 32 os)
        refine (op_any rb (p + 1) a c os L (x : Int) _ (by omega) (by have := hBt.below.size; omega) hrL hS HT hRd).mono ?_
        clear HT
        rintro e V5 ⟨⟨o, rfl, ho⟩, hRd, hb5⟩
        have hBt := hBt.trans hb5
        clear hb5
        go_wp2_with fail
        refine hK.out _ _ (by rw [hBt.cell (by simp; omega) (by simp; omega)]; exact s3) (fun hHeld => ?_)
        clear hK K
        try simp only [Act.put]
        refine listH (l2 := #[true, true, true, true, true, false, false]) (by kernel_rfl) ?_
        refine wpAnyH_ready (rs := [5]) (by kernel_rfl) (by simp) ?_
        refine AllReadyH.cons (o := _) rfl (fun K hK => ?_) AllReadyH.nil
        refine st_alloc30 _ 5 ?_
        intro q5 V9 hq5 hb9 R5
        have lo5 : W0.heap.size ≤ q5 := by have := hBt.below.size; rw [hq5]; exact this
        have hBt := hBt.next (by have := hBt.below.size; omega) hb9
        have hRd := hRd.but hb9 (by have := hBt.below.size; have := hb9.size; omega)
        clear hq5 hb9
        refine hK.out _ _ (by rw [hBt.cell (by simp; omega) (by simp; omega)]; exact s3) (fun hHeld => ?_)
        clear hK K
        simp only [Act.put, List.setIfInBounds_toArray, List.set_cons_succ, List.set_cons_zero]
        refine listH (l2 := #[true, true, true, true, true, true, false]) (by kernel_rfl) ?_
        refine wpAnyH_ready (rs := [6]) (by kernel_rfl) (by simp) ?_
        refine AllReadyH.cons (o := _) rfl (fun K hK => ?_) AllReadyH.nil
        refine st_store30 _ 5 10 q5 0 o 7 _ rfl rfl R5 (by omega) ⟨⟨0, 0, ⟨#[]⟩, 0, ⟨#[]⟩, 0, ⟨#[]⟩⟩, rfl, rfl, rfl, rfl, rfl, rfl, rfl⟩ ?_
        intro F hbF hrF
        have hBt := hBt.both_ hbF lo5 (by omega)
        have hRd := hRd.both_ hbF (by omega)
        refine hK.out _ _ (by rw [hBt.cell (by simp; omega) (by simp; omega)]; exact s3) (fun hHeld => ?_)
        clear hK K
        refine listH (l2 := #[true, true, true, true, true, true, true]) (by kernel_rfl) ?_
        refine wpAnyH_done (by kernel_rfl) ?_ _
        go_wp2_with fail
        go_meet
        exact ⟨q5, o, rfl, lo5, ho, opAt_of hrF, ⟨_, hrF⟩, hRd, hBt⟩
      · refine st_alloc30 _ 5 ?_
        intro q5 V9 hq5 hb9 R5
        have lo5 : W0.heap.size ≤ q5 := by have := hBt.below.size; rw [hq5]; exact this
        have hBt := hBt.next (by have := hBt.below.size; omega) hb9
        have hRd := hRd.but hb9 (by have := hBt.below.size; have := hb9.size; omega)
        clear hq5 hb9
        refine hK.out _ _ (by rw [hBt.cell (by simp; omega) (by simp; omega)]; exact s3) (fun hHeld => ?_)
        clear hK K
        simp only [Act.put, List.setIfInBounds_toArray, List.set_cons_succ, List.set_cons_zero]
        refine listH (l2 := #[true, true, true, true, false, true, false]) (by kernel_rfl) ?_
        refine wpAnyH_ready (rs := [4]) (by kernel_rfl) (by simp) ?_
        refine AllReadyH.cons (o := _) rfl (fun K hK => ?_) AllReadyH.nil
        go_simp
        have HT := ((HO.out.blocks_ fun i h1 h2 => hBt.block i (by omega) (by omega)).wide (Nat.le_refl _) (Nat.le_trans (by omega : w.heap.size ≤ W0.heap.size) hBt.below.size) : ObjsAt _ L _ a 32 os)
        refine (op_any rb (p + 1) a c os L (x : Int) _ (by omega) (by have := hBt.below.size; omega) hrL hS HT hRd).mono ?_
        clear HT
        rintro e V5 ⟨⟨o, rfl, ho⟩, hRd, hb5⟩
        have hBt := hBt.trans hb5
        have R5 := R5.of_block (hb5.block q5 (by omega) R5.lt)
        clear hb5
        go_wp2_with fail
        refine hK.out _ _ (by rw [hBt.cell (by simp; omega) (by simp; omega)]; exact s3) (fun hHeld => ?_)
        clear hK K
        try simp only [Act.put]
        refine listH (l2 := #[true, true, true, true, true, true, false]) (by kernel_rfl) ?_
        refine wpAnyH_ready (rs := [6]) (by kernel_rfl) (by simp) ?_
        refine AllReadyH.cons (o := _) rfl (fun K hK => ?_) AllReadyH.nil
        refine st_store30 _ 5 10 q5 0 o 7 _ rfl rfl R5 (by omega) ⟨⟨0, 0, ⟨#[]⟩, 0, ⟨#[]⟩, 0, ⟨#[]⟩⟩, rfl, rfl, rfl, rfl, rfl, rfl, rfl⟩ ?_
        intro F hbF hrF
        have hBt := hBt.both_ hbF lo5 (by omega)
        have hRd := hRd.both_ hbF (by omega)
        refine hK.out _ _ (by rw [hBt.cell (by simp; omega) (by simp; omega)]; exact s3) (fun hHeld => ?_)
        clear hK K
        refine listH (l2 := #[true, true, true, true, true, true, true]) (by kernel_rfl) ?_
        refine wpAnyH_done (by kernel_rfl) ?_ _
        go_wp2_with fail
        go_meet
        exact ⟨q5, o, rfl, lo5, ho, opAt_of hrF, ⟨_, hrF⟩, hRd, hBt⟩
    · refine st_alloc30 _ 5 ?_
      intro q5 V9 hq5 hb9 R5
      have lo5 : W0.heap.size ≤ q5 := by have := hBt.below.size; rw [hq5]; exact this
      have hBt := hBt.next (by have := hBt.below.size; omega) hb9
      have hRd := hRd.but hb9 (by have := hBt.below.size; have := hb9.size; omega)
      clear hq5 hb9
      refine hK.out _ _ (by rw [hBt.cell (by simp; omega) (by simp; omega)]; exact s3) (fun hHeld => ?_)
      clear hK K
      simp only [Act.put, List.setIfInBounds_toArray, List.set_cons_succ, List.set_cons_zero]
      refine listH (l2 := #[true, true, true, false, false, true, false]) (by kernel_rfl) ?_
      refine wpAnyH_ready (rs := [3]) (by kernel_rfl) (by simp) ?_
      refine AllReadyH.cons (o := _) rfl (fun K hK => ?_) AllReadyH.nil
      go_simp
      refine (pick_to rb p 4 _ (by omega) (by omega) (by omega) hRd).mono ?_
      rintro e V3 ⟨⟨x, rfl, hx⟩, hRd, hb3⟩
      have hBt := hBt.trans hb3
      have R5 := R5.of_block (hb3.block q5 (by omega) R5.lt)
      clear hb3
      go_wp2_with fail
      refine hK.out _ _ (by rw [hBt.cell (by simp; omega) (by simp; omega)]; exact s3) (fun hHeld => ?_)
      clear hK K
      try simp only [Act.put]
      refine listH (l2 := #[true, true, true, true, false, true, false]) (by kernel_rfl) ?_
      refine wpAnyH_ready (rs := [4]) (by kernel_rfl) (by simp) ?_
      refine AllReadyH.cons (o := _) rfl (fun K hK => ?_) AllReadyH.nil
      go_simp
      have HT := ((HO.out.blocks_ fun i h1 h2 => hBt.block i (by omega) (by omega)).wide (Nat.le_refl _) (Nat.le_trans (by omega : w.heap.size ≤ W0.heap.size) hBt.below.size) : ObjsAt _ L _ a 32 os)
      refine (op_any rb (p + 1) a c os L (x : Int) _ (by omega) (by have := hBt.below.size; omega) hrL hS HT hRd).mono ?_
      clear HT
      rintro e V5 ⟨⟨o, rfl, ho⟩, hRd, hb5⟩
      have hBt := hBt.trans hb5
      have R5 := R5.of_block (hb5.block q5 (by omega) R5.lt)
      clear hb5
      go_wp2_with fail
      refine hK.out _ _ (by rw [hBt.cell (by simp; omega) (by simp; omega)]; exact s3) (fun hHeld => ?_)
      clear hK K
      try simp only [Act.put]
      refine listH (l2 := #[true, true, true, true, true, true, false]) (by kernel_rfl) ?_
      refine wpAnyH_ready (rs := [6]) (by kernel_rfl) (by simp) ?_
      refine AllReadyH.cons (o := _) rfl (fun K hK => ?_) AllReadyH.nil
      refine st_store30 _ 5 10 q5 0 o 7 _ rfl rfl R5 (by omega) ⟨⟨0, 0, ⟨#[]⟩, 0, ⟨#[]⟩, 0, ⟨#[]⟩⟩, rfl, rfl, rfl, rfl, rfl, rfl, rfl⟩ ?_
      intro F hbF hrF
      have hBt := hBt.both_ hbF lo5 (by omega)
      have hRd := hRd.both_ hbF (by omega)
      refine hK.out _ _ (by rw [hBt.cell (by simp; omega) (by simp; omega)]; exact s3) (fun hHeld => ?_)
      clear hK K
      refine listH (l2 := #[true, true, true, true, true, true, true]) (by kernel_rfl) ?_
      refine wpAnyH_done (by kernel_rfl) ?_ _
      go_wp2_with fail
      go_meet
      exact ⟨q5, o, rfl, lo5, ho, opAt_of hrF, ⟨_, hrF⟩, hRd, hBt⟩
  obtain ⟨q5, o, rfl, lo5, ho, ha5, hr5, hrd5, hbt5⟩ := hcut
  have hr0 : rb < W0.heap.size := by omega
  have HB5 : Hid (OB W0 wc rb (p + 10) q5 o) := ⟨hbt5, hrd5, ha5, hr5, lo5, by have := ho.1; have := ho.2.1; have := ho.2.2; omega⟩
  clear ha5 hr5 hrd5 hbt5 hBt hRd s3 HO
  rename World => W5
  go_wp2_with fail
  refine (pick_to rb (p + 10) 48 _ (by omega) (by omega) (by omega) HB5.out.rd).mono ?_
  rintro e W6 ⟨⟨d, rfl, hd⟩, hr6, hb6⟩
  have HB6 : Hid (OB W0 W6 rb (p + 11) q5 o) := HB5.out.next hr0 hb6 hr6
  have hz6 : W0.heap.size ≤ W6.heap.size := HB6.out.but.below.size
  have hq5 : q5 < W6.heap.size := by obtain ⟨f, hf⟩ := HB6.out.row; exact hf.lt
  clear HB5 hr6 hb6 ho
  go_upto_block 0 with fail
  go_cut [] (fun wx => ∃ o', OB W0 wx rb (p + 12) q5 o')
  case first =>
    by_cases d0 : d = 0
    · subst d0
      go_wp2_with fail
      have hal : Below W6.heap.size W6 (W6.alloc (Obj.cells #[.int .i64 0, .int .i64 6] 3)) := (Below.refl _ _).alloc (Nat.le_refl _) _
      have H7 := HB6.out.next hr0 (But.of_below (by omega) hal) (HB6.out.rd.but hal (by omega))
      refine (num_to (fun _ => True) rb (p + 11) W6.heap.size 2 2 _ (by omega) (by omega) (by omega) (by omega) H7.rd ?_).mono ?_
      · intro i hi
        match i, hi with
        | 0, _ => exact ⟨0, by simp [go_sem], trivial⟩
        | 1, _ => exact ⟨6, by simp [go_sem], trivial⟩
      rintro e W7 ⟨⟨z, rfl, _⟩, hr7, hb7⟩
      have HB7 : Hid (OB W0 W7 rb (p + 11 + 1) q5 o) := H7.next hr0 hb7 hr7
      obtain ⟨f7, hf7⟩ := HB7.out.row
      obtain ⟨e0, e1, e2, e3, e4, e5, e6⟩ := HB7.out.at_
      have y0 := hf7.frozen 0
      have hl7 := hf7.lt
      clear hf7 H7 hb7 hr7 hal
      go_wp2_with fail
      go_meet
      exact ⟨_, HB7.out.put hr0 0 (.int .i64 z) { o with kind := z } ⟨by simp [go_sem, e0], by simp [go_sem, e1], by simp [go_sem, e2], by simp [go_sem, e3], by simp [go_sem, e4], by simp [go_sem, e5], by simp [go_sem, e6]⟩ HB7.out.b⟩
    by_cases d1 : d = 1
    · subst d1
      go_wp2_with fail
      have hal : Below W6.heap.size W6 (W6.alloc (Obj.cells #[.int .i64 0, .int .i64 32, .int .i64 (-1)] 3)) := (Below.refl _ _).alloc (Nat.le_refl _) _
      have H7 := HB6.out.next hr0 (But.of_below (by omega) hal) (HB6.out.rd.but hal (by omega))
      refine (num_to (fun _ => True) rb (p + 11) W6.heap.size 3 3 _ (by omega) (by omega) (by omega) (by omega) H7.rd ?_).mono ?_
      · intro i hi
        match i, hi with
        | 0, _ => exact ⟨0, by simp [go_sem], trivial⟩
        | 1, _ => exact ⟨32, by simp [go_sem], trivial⟩
        | 2, _ => exact ⟨-1, by simp [go_sem], trivial⟩
      rintro e W7 ⟨⟨z, rfl, _⟩, hr7, hb7⟩
      have HB7 : Hid (OB W0 W7 rb (p + 11 + 1) q5 o) := H7.next hr0 hb7 hr7
      obtain ⟨f7, hf7⟩ := HB7.out.row
      obtain ⟨e0, e1, e2, e3, e4, e5, e6⟩ := HB7.out.at_
      have y0 := hf7.frozen 5
      have hl7 := hf7.lt
      clear hf7 H7 hb7 hr7 hal
      go_wp2_with fail
      go_meet
      exact ⟨_, HB7.out.put hr0 5 (.int .i64 z) { o with id := z } ⟨by simp [go_sem, e0], by simp [go_sem, e1], by simp [go_sem, e2], by simp [go_sem, e3], by simp [go_sem, e4], by simp [go_sem, e5], by simp [go_sem, e6]⟩ HB7.out.b⟩
    by_cases d2 : d = 2
    · subst d2
      go_wp2_with fail
      have hal : Below W6.heap.size W6 (W6.alloc (Obj.cells #[.string ⟨#[]⟩, .string ⟨#[65]⟩, .string ⟨#[97, 98, 99, 100, 101]⟩] 9)) := (Below.refl _ _).alloc (Nat.le_refl _) _
      have H7 := HB6.out.next hr0 (But.of_below (by omega) hal) (HB6.out.rd.but hal (by omega))
      refine (of_to rb (p + 11) W6.heap.size 3 3 5 _ (by omega) (by omega) (by omega) (by omega) H7.rd ?_).mono ?_
      · intro i hi
        match i, hi with
        | 0, _ => exact ⟨⟨#[]⟩, by simp [go_sem], by decide⟩
        | 1, _ => exact ⟨⟨#[65]⟩, by simp [go_sem], by decide⟩
        | 2, _ => exact ⟨⟨#[97, 98, 99, 100, 101]⟩, by simp [go_sem], by decide⟩
      rintro e W7 ⟨⟨z, rfl, hz⟩, hr7, hb7⟩
      have HB7 : Hid (OB W0 W7 rb (p + 11 + 1) q5 o) := H7.next hr0 hb7 hr7
      obtain ⟨f7, hf7⟩ := HB7.out.row
      obtain ⟨e0, e1, e2, e3, e4, e5, e6⟩ := HB7.out.at_
      have y0 := hf7.frozen 2
      have hl7 := hf7.lt
      clear hf7 H7 hb7 hr7 hal
      go_wp2_with fail
      go_meet
      exact ⟨_, HB7.out.put hr0 2 (.string z) { o with name := z } ⟨by simp [go_sem, e0], by simp [go_sem, e1], by simp [go_sem, e2], by simp [go_sem, e3], by simp [go_sem, e4], by simp [go_sem, e5], by simp [go_sem, e6]⟩ ⟨hz, HB7.out.b.2⟩⟩
    by_cases d3 : d = 3
    · subst d3
      obtain ⟨f7, hf7⟩ := HB6.out.row
      obtain ⟨e0, e1, e2, e3, e4, e5, e6⟩ := HB6.out.at_
      have y0 := hf7.frozen 6
      have hl7 := hf7.lt
      clear hf7
      go_wp2_with fail
      go_meet
      exact ⟨_, (HB6.out.put hr0 6 (.string ⟨#[65]⟩) { o with text := ⟨#[65]⟩ } ⟨by simp [go_sem, e0], by simp [go_sem, e1], by simp [go_sem, e2], by simp [go_sem, e3], by simp [go_sem, e4], by simp [go_sem, e5], by simp [go_sem, e6]⟩ ⟨HB6.out.b.1, HB6.out.b.2.1, show (⟨#[65]⟩ : ByteArray).size ≤ 5 by decide⟩).on (by omega)⟩
    · have t0 : ((d : Int) == 0) = false := by simp; omega
      have t1 : ((d : Int) == 1) = false := by simp; omega
      have t2 : ((d : Int) == 2) = false := by simp; omega
      have t3 : ((d : Int) == 3) = false := by simp; omega
      go_wp2_with fail
      go_meet
      exact ⟨o, HB6.out.on (by omega)⟩
  obtain ⟨o9, h9⟩ := hcut
  have R4w := R4.out.of_block (h9.but.block (w.heap.size + 1) (by omega) R4.out.lt)
  have g0 : wc.cell? ⟨w.heap.size + 1, 0, none⟩ = some (.int .i64 0) := by rw [R4w.cell (by omega)]; rfl
  have z0 := R4w.frozen 0
  have g1 : wc.cell? ⟨w.heap.size + 1, 1, none⟩ = some (.int .i64 0) := by rw [R4w.cell (by omega)]; rfl
  have z1 := R4w.frozen 1
  have g2 : wc.cell? ⟨w.heap.size + 1, 2, none⟩ = some (.string ⟨#[]⟩) := by rw [R4w.cell (by omega)]; rfl
  have z2 := R4w.frozen 2
  have g3 : wc.cell? ⟨w.heap.size + 1, 3, none⟩ = some (.int .i64 0) := by rw [R4w.cell (by omega)]; rfl
  have z3 := R4w.frozen 3
  have g4 : wc.cell? ⟨w.heap.size + 1, 4, none⟩ = some (.string ⟨#[]⟩) := by rw [R4w.cell (by omega)]; rfl
  have z4 := R4w.frozen 4
  have g5 : wc.cell? ⟨w.heap.size + 1, 5, none⟩ = some (.int .i64 0) := by rw [R4w.cell (by omega)]; rfl
  have z5 := R4w.frozen 5
  have g6 : wc.cell? ⟨w.heap.size + 1, 6, none⟩ = some (.string ⟨#[]⟩) := by rw [R4w.cell (by omega)]; rfl
  have z6 := R4w.frozen 6
  have hl4 := R4w.lt
  have H9 : Hid (OB W0 wc rb (p + 12) q5 o9) := h9
  obtain ⟨e0, e1, e2, e3, e4, e5, e6⟩ := h9.at_
  simp only [Nat.zero_add] at e1 e2 e3 e4 e5 e6
  have HA0 : Hid (But rb w W0) := But.of_below hrw hA0
  clear R4 R4w h9 HB6 hA0
  go_wp2_with fail
  refine bodyPost_ret (v := .agg o9.val) (by simp [results, Tryz.results62, go_sem, LOp.val, g0, g1, g2, g3, g4, g5, g6]) rfl ?_
  have hs : But (w.heap.size + 1) wc _ := ((((((((But.refl (w.heap.size + 1) wc).set 0 (.int .i64 o9.kind)).set 1 (.int .i64 o9.dir)).set 2 (.string o9.name)).set 3 (.int .i64 o9.dir2)).set 4 (.string o9.name2)).set 5 (.int .i64 o9.id)).set 6 (.string o9.text))
  exact ⟨⟨o9, rfl, H9.out.b⟩, (H9.out.rd.on_ (by omega)).both_ hs (by omega), (HA0.out.trans H9.out.but).both_ hs (by omega) (by omega)⟩
end Go.Proofs.YtnolbfijcnldjaaGreatDoor

/- What stands in the boxes of l3Run, and one entry of a list of one's own written over. -/
namespace Go.Proofs.YtnolbfijcnldjaaGreatDoor
open Go.RowKit

theorem opCells_set : ∀ (l : List LOp) (j : Nat) (o : LOp), j < l.length → ((((((((opCells l).set (j * 7) (.int .i64 o.kind)).set (j * 7 + 1) (.int .i64 o.dir)).set (j * 7 + 2) (.string o.name)).set (j * 7 + 3) (.int .i64 o.dir2)).set (j * 7 + 4) (.string o.name2)).set (j * 7 + 5) (.int .i64 o.id)).set (j * 7 + 6) (.string o.text)) = opCells (l.set j o)
  | [], j, o, h => by simp at h
  | a :: l, 0, o, _ => by simp [opCells, LOp.val]
  | a :: l, j + 1, o, h => by
    have ih := opCells_set l j o (by simpa using h)
    have e : ∀ (r : List LOp), opCells (a :: r) = a.val.toList ++ opCells r := fun r => by simp [opCells]
    have hl : a.val.toList.length = 7 := by simp [LOp.val]
    rw [List.set_cons_succ, e, e, ← ih]
    have k : ∀ (f : Nat) (v : Value) (m : List Value), (a.val.toList ++ m).set ((j + 1) * 7 + f) v = a.val.toList ++ m.set (j * 7 + f) v := fun f v m => by
      rw [List.set_append_right _ _ (by rw [hl]; omega), hl]
      congr 2
      omega
    have k0 := fun v m => k 0 v m
    simp only [Nat.add_zero] at k0
    rw [k0, k, k, k, k, k, k]
theorem OwnOps.open_ {w : World} {B g n cap : Nat} {l : List LOp} (h : OwnOps w B (.slice (some ⟨g, 0, none⟩) n cap) l) : ∃ cur, B ≤ g ∧ w.heap[g]? = some (.cells cur 27 (0, 0)) ∧ n = l.length ∧ l.length ≤ cap ∧ cap ≤ maxLen ∧ cur.size = cap * 7 ∧ cur.toList.take (l.length * 7) = opCells l := by
  rcases h.2 with ⟨h', _⟩ | ⟨g', cap', cur, h', hb, hg, hnc, hcm, hcs, ht⟩
  · simp at h'
  · simp only [Value.slice.injEq, Option.some.injEq, Addr.mk.injEq, and_true] at h'
    obtain ⟨rfl, rfl, rfl⟩ := h'
    exact ⟨cur, hb, hg, rfl, hnc, hcm, hcs, ht⟩
/-- One entry of a list of one's own is written over. -/
theorem OwnOps.setOp {w : World} {B g n cap j : Nat} {l : List LOp} (h : OwnOps w B (.slice (some ⟨g, 0, none⟩) n cap) l) (hj : j < l.length) (o : LOp) :
    OwnOps (((((((w.setCell ⟨g, j * 7, none⟩ (.int .i64 o.kind)).setCell ⟨g, j * 7 + 1, none⟩ (.int .i64 o.dir)).setCell ⟨g, j * 7 + 2, none⟩ (.string o.name)).setCell ⟨g, j * 7 + 3, none⟩ (.int .i64 o.dir2)).setCell ⟨g, j * 7 + 4, none⟩ (.string o.name2)).setCell ⟨g, j * 7 + 5, none⟩ (.int .i64 o.id)).setCell ⟨g, j * 7 + 6, none⟩ (.string o.text)) B (.slice (some ⟨g, 0, none⟩) n cap) (l.set j o) := by
  obtain ⟨cur, hB, hg, hn, hnc, hcm, hcs, ht⟩ := h.open_
  have s1 := heap_setCell_same w g (j * 7) cur 27 (.int .i64 o.kind) hg
  have s2 := heap_setCell_same _ g (j * 7 + 1) _ 27 (.int .i64 o.dir) s1
  have s3 := heap_setCell_same _ g (j * 7 + 2) _ 27 (.string o.name) s2
  have s4 := heap_setCell_same _ g (j * 7 + 3) _ 27 (.int .i64 o.dir2) s3
  have s5 := heap_setCell_same _ g (j * 7 + 4) _ 27 (.string o.name2) s4
  have s6 := heap_setCell_same _ g (j * 7 + 5) _ 27 (.int .i64 o.id) s5
  have s7 := heap_setCell_same _ g (j * 7 + 6) _ 27 (.string o.text) s6
  unfold OwnOps
  subst hn
  refine ⟨by rw [opCells_len], .inr ⟨g, cap, _, by simp, hB, s7, by simpa using hnc, hcm, by simpa using hcs, ?_⟩⟩
  rw [← opCells_set l j o hj, ← ht]
  simp [List.take_set]
section
variable {ops : Array Oper} {ac : Act} {K : Act → World → Prop} {Q : Exit → Act → World → Prop} {E : Prop} {ty : TypeId} {ps : String} {af : Array Edge}
theorem st_build4 (W : World) (d : Nat) (x y z u : Int)
    (h : ∀ q W', q = W.heap.size → Below W.heap.size W W' → (∀ i, i < 4 → ∃ k : Int, W'.cell? ⟨q, i, none⟩ = some (.int .i64 k) ∧ (k = x ∨ k = y ∨ k = z ∨ k = u)) → K (ac.put (some d) (.slice (some ⟨q, 0, none⟩) 4 4)) W') :
    if Region.wanted { dst := some d, op := .buildSlice 34 4 #[(0, .const (.int .i64 x)), (1, .const (.int .i64 y)), (2, .const (.int .i64 z)), (3, .const (.int .i64 u))], type := ty, pos := ps, after := af, guard := none } (yielded ops ac.tmps) = true then Oper.wp Tryz.prog { dst := some d, op := .buildSlice 34 4 #[(0, .const (.int .i64 x)), (1, .const (.int .i64 y)), (2, .const (.int .i64 z)), (3, .const (.int .i64 u))], type := ty, pos := ps, after := af, guard := none } ac W K Q else E := by
  rw [if_pos (by simp [Region.wanted])]
  have := h W.heap.size (W.alloc (.cells #[.int .i64 x, .int .i64 y, .int .i64 z, .int .i64 u] 3)) rfl ((Below.refl _ _).alloc (Nat.le_refl _) _) (fun i hi => by
    match i, hi with
    | 0, _ => exact ⟨x, by simp [go_sem], .inl rfl⟩
    | 1, _ => exact ⟨y, by simp [go_sem], .inr (.inl rfl)⟩
    | 2, _ => exact ⟨z, by simp [go_sem], .inr (.inr (.inl rfl))⟩
    | 3, _ => exact ⟨u, by simp [go_sem], .inr (.inr (.inr rfl))⟩)
  unfold Oper.wp
  go_simp
  exact this
theorem st_storeOp (W : World) (tp tv : Nat) (B g cap j : Nat) (o : LOp) (l : List LOp) (hp : ac.tmps[tp]?.getD undef = .pointer (some ⟨g, j * 7, none⟩)) (hv : ac.tmps[tv]?.getD undef = .agg o.val) (H : OwnOps W B (.slice (some ⟨g, 0, none⟩) l.length cap) l) (hj : j < l.length)
    (h : ∀ W', But g W W' → OwnOps W' B (.slice (some ⟨g, 0, none⟩) l.length cap) (l.set j o) → K ac W') :
    if Region.wanted { dst := none, op := .store 27 (.tmp tp) (.tmp tv), type := ty, pos := ps, after := af, guard := none } (yielded ops ac.tmps) = true then Oper.wp Tryz.prog { dst := none, op := .store 27 (.tmp tp) (.tmp tv), type := ty, pos := ps, after := af, guard := none } ac W K Q else E := by
  rw [if_pos (by simp [Region.wanted])]
  obtain ⟨cur, hB, hg, hn, hnc, hcm, hcs, ht⟩ := H.open_
  have hcl : ∀ f, f < 7 → ∃ v, W.cell? ⟨g, j * 7 + f, none⟩ = some v := fun f hf => ⟨cur[j * 7 + f]'(by rw [hcs]; omega), by
    simp [World.cell?, hg, show j * 7 + f < cur.size by rw [hcs]; omega]⟩
  obtain ⟨v0, c0⟩ := hcl 0 (by omega)
  obtain ⟨v1, c1⟩ := hcl 1 (by omega)
  obtain ⟨v2, c2⟩ := hcl 2 (by omega)
  obtain ⟨v3, c3⟩ := hcl 3 (by omega)
  obtain ⟨v4, c4⟩ := hcl 4 (by omega)
  obtain ⟨v5, c5⟩ := hcl 5 (by omega)
  obtain ⟨v6, c6⟩ := hcl 6 (by omega)
  simp only [Nat.add_zero] at c0
  have hz : ∀ f, W.frozen? ⟨g, f, none⟩ = false := fun f => frozen_of_row W g f cur 27 hg
  have z0 := hz (j * 7)
  have z1 := hz (j * 7 + 1)
  have z2 := hz (j * 7 + 2)
  have z3 := hz (j * 7 + 3)
  have z4 := hz (j * 7 + 4)
  have z5 := hz (j * 7 + 5)
  have z6 := hz (j * 7 + 6)
  have := h _ (((((((((But.refl g W).set _ _).set _ _).set _ _).set _ _).set _ _).set _ _).set _ _)) (H.setOp hj o)
  clear h H hg hcl hz ht
  simp only [LOp.val] at hv
  unfold Oper.wp
  go_simp
  exact this
end

/-- In the midst of drawing a run: the reader, the answer's box, the tree in its box. -/
structure RN (w W : World) (rb P q2 q4 b c : Nat) (os : List LObj) (vs : Nat → Value) : Prop where
  lo : rb < w.heap.size
  but : But rb w W
  rd : RdTo W rb P
  r2 : W.rowIs q2 25 1 (fun _ => .slice none 0 0)
  r4 : W.rowIs q4 25 1 (fun _ => .slice (some ⟨b, 0, none⟩) 32 c)
  l2 : w.heap.size ≤ q2
  l4 : w.heap.size ≤ q4
  n24 : q2 ≠ q4
  tree : OwnT W w.heap.size b c os vs
  len : os.length = 32
  sm : Sm os 60
section
variable {w W W' : World} {rb P P' q2 q4 b c : Nat} {os : List LObj} {vs : Nat → Value}
theorem RN.next (h : RN w W rb P q2 q4 b c os vs) (hb : But rb W W') (hr : RdTo W' rb P') : RN w W' rb P' q2 q4 b c os vs := by
  have hlo := h.lo
  have a2 := h.l2
  have a4 := h.l4
  exact ⟨h.lo, h.but.trans hb, hr, h.r2.of_block (hb.block _ (by omega) h.r2.lt), h.r4.of_block (hb.block _ (by omega) h.r4.lt), h.l2, h.l4, h.n24, h.tree.but hb h.lo, h.len, h.sm⟩
theorem RN.size (h : RN w W rb P q2 q4 b c os vs) : w.heap.size < W.heap.size := by have := h.r4.lt; have := h.l4; omega
end
end Go.Proofs.YtnolbfijcnldjaaGreatDoor
