/- What is done: the numbers that it names, by the program's set. -/
import Derived.Test.YtnfegihemhidgaaIds
import Derived.Test.YtnfegihemhidgaaOpsAll
namespace Go.Proofs.Ytnfegihemhidgaa
open Go.RowKit

/-! Numbers that ascend: two such lists with the same members are one. -/
def AscI (l : List Nat) : Prop := l.Pairwise (· < ·)
theorem ascI_ext : ∀ {l m : List Nat}, AscI l → AscI m → (∀ x, x ∈ l ↔ x ∈ m) → l = m
  | [], [], _, _, _ => rfl
  | [], b :: m, _, _, h => by have := (h b).2 (by simp); simp at this
  | a :: l, [], _, _, h => by have := (h a).1 (by simp); simp at this
  | a :: l, b :: m, hl, hm, h => by
    have hl' := List.pairwise_cons.1 hl
    have hm' := List.pairwise_cons.1 hm
    have hab : a = b := by
      have h1 := (h a).1 (by simp)
      have h2 := (h b).2 (by simp)
      simp at h1 h2
      rcases h1 with h1 | h1
      · exact h1
      · rcases h2 with h2 | h2
        · exact h2.symm
        · have := hl'.1 b h2; have := hm'.1 a h1; omega
    subst hab
    rw [ascI_ext hl'.2 hm'.2 fun x => ?_]
    constructor
    · intro hx
      have := hl'.1 x hx
      have := (h x).1 (by simp [hx])
      simp at this
      rcases this with e | e
      · omega
      · exact e
    · intro hx
      have := hm'.1 x hx
      have := (h x).2 (by simp [hx])
      simp at this
      rcases this with e | e
      · omega
      · exact e
theorem placeI_cons_lt {x y : Nat} {l : List Nat} (h : y < x) : placeI x (y :: l) = placeI x l + 1 := by simp [placeI, h]
theorem placeI_cons_ge {x y : Nat} {l : List Nat} (h : ¬ y < x) : placeI x (y :: l) = 0 := by simp [placeI, h]
theorem putI_cons_lt {x y : Nat} {l : List Nat} (h : y < x) : putI x (y :: l) = y :: putI x l := by
  unfold putI
  rw [placeI_cons_lt h]
  simp
  split <;> simp
theorem putI_cons_eq {x : Nat} {l : List Nat} : putI x (x :: l) = x :: l := by
  unfold putI
  rw [placeI_cons_ge (by omega)]
  simp
theorem putI_cons_gt {x y : Nat} {l : List Nat} (h : x < y) : putI x (y :: l) = x :: y :: l := by
  unfold putI
  rw [placeI_cons_ge (by omega)]
  simp; omega
theorem putI_nil (x : Nat) : putI x [] = [x] := by simp [putI, placeI]
theorem mem_putI (x y : Nat) : ∀ l, y ∈ putI x l ↔ y = x ∨ y ∈ l
  | [] => by simp [putI_nil]
  | a :: l => by
    by_cases h : a < x
    · rw [putI_cons_lt h]; simp [mem_putI x y l]; constructor <;> (intro h; rcases h with h | h | h <;> simp [h])
    · by_cases e : a = x
      · subst e; rw [putI_cons_eq]; simp
      · rw [putI_cons_gt (by omega)]; simp
theorem ascI_putI (x : Nat) : ∀ l, AscI l → AscI (putI x l)
  | [], _ => by simp [putI_nil, AscI]
  | a :: l, h => by
    have h' := List.pairwise_cons.1 h
    by_cases hlt : a < x
    · rw [putI_cons_lt hlt]
      refine List.pairwise_cons.2 ⟨fun y hy => ?_, ascI_putI x l h'.2⟩
      rcases (mem_putI x y l).1 hy with rfl | hy
      · exact hlt
      · exact h'.1 y hy
    · by_cases e : a = x
      · subst e; rw [putI_cons_eq]; exact h
      · rw [putI_cons_gt (by omega)]
        refine List.pairwise_cons.2 ⟨fun y hy => ?_, h⟩
        simp at hy
        rcases hy with rfl | hy
        · omega
        · have := h'.1 y hy; omega
theorem ascI_filter_range (p : Nat → Bool) (n : Nat) : AscI ((List.range n).filter p) :=
  List.Pairwise.filter p List.pairwise_lt_range

/-- Which numbers the set holds. -/
def inSet (k : Int) (i j l m : Nat) : Bool := m == i || (k != 5 && m == j) || (k == 4 && m == l)
def setL (s : Nat → Bool) (n : Nat) : List Nat := (List.range n).filter s
theorem opIds_set {o : LOp} (h : opOk o = true) : opIds o = setL (inSet o.kind o.id.toNat o.dir.toNat o.dir2.toNat) 32 := by
  have b1 := opOk_id h
  have b2 := opOk_dir h
  have b3 := opOk_dir2 h
  have a1 : AscI (opIds1 o) := by
    unfold opIds1
    split
    · simp [AscI]
    · exact ascI_putI _ _ (by simp [AscI])
  refine ascI_ext ?_ (ascI_filter_range _ _) fun x => ?_
  · unfold opIds
    rw [if_pos h]
    split
    · exact ascI_putI _ _ a1
    · exact a1
  · unfold opIds opIds1 setL inSet
    rw [if_pos h]
    by_cases k4 : o.kind = 4
    · simp [k4, mem_putI]
      omega
    · by_cases k5 : o.kind = 5
      · simp [k5]
        omega
      · simp [k4, k5, mem_putI]
        omega
theorem setL_yes {s : Nat → Bool} {n : Nat} (h : s n = true) : setL s (n + 1) = setL s n ++ [n] := by simp [setL, List.range_succ, List.filter_append, h]
theorem setL_no {s : Nat → Bool} {n : Nat} (h : s n = false) : setL s (n + 1) = setL s n := by simp [setL, List.range_succ, List.filter_append, h]
theorem setL_le (s : Nat → Bool) (n : Nat) : (setL s n).length ≤ n := by have := List.length_filter_le s (List.range n); simpa [setL] using this

theorem OwnInts.bare (w : World) (B : Nat) : OwnInts w B (.slice none 0 0) [] := ⟨rfl, .inl ⟨rfl, rfl⟩⟩

set_option maxHeartbeats 1000000 in
set_option maxRecDepth 20000 in
theorem list_any (b : Nat) (s : Nat → Bool) (w : World) (hrow : w.rowIs b 133 32 (fun m => .bool (s m))) :
    Calls Try.prog 101 #[.pointer (some ⟨b, 0, none⟩)] w fun e w' => (∃ v, e = .returned v ∧ Hid (OwnInts w' w.heap.size v (setL s 32))) ∧ Below w.heap.size w w' := by
  obtain ⟨i0, hi, hz0, hz1, hz2⟩ := info_parts infoI
  have HR : Hid (w.rowIs b 133 32 (fun m => .bool (s m))) := hrow
  have hbw : b < w.heap.size := hrow.lt
  clear hrow
  go_enter Try.func101, Try.ntmps101
  go_wp2_with fail
  go_loopg [3, 7] 32 (fun g v i wr => ∃ j : Nat, j ≤ 32 ∧ Hid (g = 32 - j) ∧ i = .int .i64 j ∧ Hid (OwnInts wr w.heap.size v (setL s j)) ∧ Below w.heap.size w wr)
  case atStart => exact ⟨0, by omega, rfl, rfl, OwnInts.bare _ _, Below.refl _ _⟩
  case round =>
    obtain ⟨j, hj, hk, rfl, hown, hb⟩ := hrel
    have hsz := hb.size
    by_cases hlt : j < 32
    · have hc : wr.cell? ⟨b, j, none⟩ = some (.bool (s j)) := by rw [hb.cell (by simpa using hbw)]; exact HR.out.cell hlt
      have hbl : b < wr.heap.size := by omega
      have hlt' : (j : Int) < 32 := by omega
      have hle := setL_le s j
      rcases hs : s j with _ | _
      · have HL : Hid (setL s (j + 1) = setL s j) := setL_no hs
        rw [hs] at hc
        clear hs
        go_wp2_with fail
        go_region
        all_goals
          go_wp2_with fail
          go_roundg (32 - (j + 1))
          case measure => have := hk.out; omega
          case rel => exact ⟨j + 1, by omega, rfl, by go_num, by show OwnInts _ _ _ _; rw [HL.out]; exact hown.out, hb.drew⟩
      · have HL : Hid (setL s (j + 1) = setL s j ++ [j]) := setL_yes hs
        rw [hs] at hc
        clear hs
        go_wp2_with fail
        go_region
        all_goals
          go_wp2_with (first
            | (at_builtin; refine wpList_append_own _ rfl _ _ 70 rfl w.heap.size 3 i0 (.int .i64 0) 1 8 Try.underlying70 hi hz0 hz1 hz2 rfl (by decide) _ _ _ rfl (hown.out.alloc _) ⟨wr.heap.size, 0, none⟩ 1 1 [.int .i64 (j : Int)] rfl rfl ?c1 ?c2 ?c3 ?c4 ?c5 ?_)
            | go_in)
          case c1 => intro i u hi; exact one_at hi
          case c2 => intro u hu; simp at hu; subst hu; rfl
          case c3 => unfold maxLen; omega
          case c4 => omega
          case c5 => simp; omega
          intro v' w1 hown' hgrow _
          go_wp2_with fail
          go_roundg (32 - (j + 1))
          case measure => have := hk.out; omega
          case rel => exact ⟨j + 1, by omega, rfl, by go_num, by show OwnInts _ _ _ _; rw [HL.out]; simpa [OwnInts] using hown', below_grown (hb.drew.alloc (by simpa using hsz) _) hgrow (fun k e => (hown.out.lt k e).1) (by simp; omega)⟩
    · obtain rfl : j = 32 := by omega
      go_wp2_with fail
      go_ret
      exact ⟨⟨_, rfl, hown⟩, hb⟩

def AddEnd (b i j l : Nat) (k : Int) (w : World) (e : Ending) (w' : World) : Prop :=
  e = .returned (.tuple #[]) ∧ w'.rowIs b 133 32 (fun m => .bool (inSet k i j l m)) ∧ But b w w'

theorem row_add {w : World} {b i : Nat} {s s' : Nat → Bool} (h : w.rowIs b 133 32 (fun m => .bool (s m))) (e : ∀ m, s' m = (s m || m == i)) : (w.setCell ⟨b, i, none⟩ (.bool true)).rowIs b 133 32 (fun m => .bool (s' m)) :=
  (h.set i (.bool true)).congr fun m _ => by
    rw [e m]
    by_cases hm : m = i
    · simp [hm]
    · simp [hm]
set_option maxHeartbeats 1000000 in
set_option maxRecDepth 20000 in
theorem addOf_any (b i j l : Nat) (k : Int) (nm nm2 tx : ByteArray) (w : World) (hi : i < 32) (hj : j < 32) (hl : l < 32) (hrow : w.rowIs b 133 32 (fun _ => .bool false)) :
    Calls Try.prog 100 #[.pointer (some ⟨b, 0, none⟩), .agg #[.int .i64 k, .int .i64 j, .string nm, .int .i64 l, .string nm2, .int .i64 i, .string tx]] w fun e w' => AddEnd b i j l k w e w' := by
  have hbw : b < w.heap.size := hrow.lt
  have hi' : (i : Int) < 32 := by omega
  have hj' : (j : Int) < 32 := by omega
  have hl' : (l : Int) < 32 := by omega
  have g1 : w.cell? ⟨b, i, none⟩ = some (.bool false) := hrow.cell hi
  have f1 : w.frozen? ⟨b, i, none⟩ = false := hrow.frozen i
  have HR : Hid (w.rowIs b 133 32 (fun _ => .bool false)) := hrow
  clear hrow
  go_enter Try.func100, Try.ntmps100
  go_upto_region 2 with fail
  go_cut [4] (fun s wx => s = .int .i64 k ∧ Hid (wx.rowIs b 133 32 (fun m => .bool (m == i))) ∧ Hid (But b w wx) ∧ w.heap.size < wx.heap.size ∧ wx.cell? ⟨w.heap.size, 1, none⟩ = some (.int .i64 j) ∧ wx.cell? ⟨w.heap.size, 3, none⟩ = some (.int .i64 l))
  case first =>
    go_region
    all_goals
      go_wp2_with fail
      go_meet
      refine ⟨rfl, ?_, ?_, by simp, by simp [go_sem], by simp [go_sem]⟩
      · show World.rowIs _ b 133 32 _
        exact ((row_add HR.out (s' := fun m => m == i) (fun m => by simp)).alloc _).drew
      · exact ((But.refl b w).set i (.bool true)).next (by simp; omega) ((Below.refl _ _).alloc (Nat.le_refl _) _).drew
  obtain ⟨rfl, hr1, hb1, hz1, c1, c3⟩ := hcut
  have hbx : b < wc.heap.size := by omega
  by_cases k5 : k = 5
  · subst k5
    go_wp2_with (first | (go_at_call 106; refine (inDir_any _ _).mono ?_; rintro e w' ⟨rfl, rfl⟩) | (go_at_call 107; refine (moves_any _ _).mono ?_; rintro e w' ⟨rfl, rfl⟩))
    go_end0
    exact ⟨rfl, hr1.out.congr fun m _ => by simp [inSet], hb1.out⟩
  have t5 : (k != 5) = true := by simpa using k5
  have g2 : wc.cell? ⟨b, j, none⟩ = some (.bool (j == i)) := hr1.out.cell hj
  have f2 : wc.frozen? ⟨b, j, none⟩ = false := hr1.out.frozen j
  have hc3 : ∀ v, (wc.setCell ⟨b, j, none⟩ v).cell? ⟨w.heap.size, 3, none⟩ = some (.int .i64 l) := fun v => by rw [World.cell?_setCell_other _ _ _ _ (by simp <;> omega)]; exact c3
  have hr2 := row_add hr1.out (i := j) (s' := fun m => m == i || m == j) (fun m => rfl)
  have g3 : (wc.setCell ⟨b, j, none⟩ (.bool true)).cell? ⟨b, l, none⟩ = some (.bool (l == i || l == j)) := hr2.cell hl
  have f3 : (wc.setCell ⟨b, j, none⟩ (.bool true)).frozen? ⟨b, l, none⟩ = false := hr2.frozen l
  have g4 := hc3 (.bool true)
  have HR2 : Hid ((wc.setCell ⟨b, j, none⟩ (.bool true)).rowIs b 133 32 (fun m => .bool (m == i || m == j))) := hr2
  clear hr2 hc3
  by_cases k4 : k = 4
  · subst k4
    go_wp2_with (go_at_call 106; refine (inDir_any _ _).mono ?_; rintro e w' ⟨rfl, rfl⟩)
    go_region
    all_goals
      go_wp2_with (go_at_call 107; refine (moves_any _ _).mono ?_; rintro e w9 ⟨rfl, rfl⟩)
      go_region
      all_goals
        go_wp2_with fail
        go_end0
        exact ⟨rfl, (row_add HR2.out (i := l) (s' := inSet 4 i j l) (fun m => by simp [inSet])).drew.drew, ((hb1.out.set j (.bool true)).set l (.bool true)).next (by simp; omega) (Below.refl _ _).drew.drew⟩
  · have t4 : (k == 4) = false := by simpa using k4
    go_wp2_with (go_at_call 106; refine (inDir_any _ _).mono ?_; rintro e w' ⟨rfl, rfl⟩)
    go_region
    all_goals
      go_wp2_with (go_at_call 107; refine (moves_any _ _).mono ?_; rintro e w9 ⟨rfl, rfl⟩)
      go_end0
      exact ⟨rfl, HR2.out.drew.congr fun m _ => by simp [inSet, t5, t4], (hb1.out.set j (.bool true)).next (by simp; omega) (Below.refl _ _).drew⟩

theorem zero110 : (#[.bool false, .bool false, .bool false, .bool false, .bool false, .bool false, .bool false, .bool false, .bool false, .bool false, .bool false, .bool false, .bool false, .bool false, .bool false, .bool false, .bool false, .bool false, .bool false, .bool false, .bool false, .bool false, .bool false, .bool false, .bool false, .bool false, .bool false, .bool false, .bool false, .bool false, .bool false, .bool false] : Array Value) = madeCells #[.bool false] 32 := by kernel_rfl
theorem row_zero (w : World) : (w.alloc (.cells #[.bool false, .bool false, .bool false, .bool false, .bool false, .bool false, .bool false, .bool false, .bool false, .bool false, .bool false, .bool false, .bool false, .bool false, .bool false, .bool false, .bool false, .bool false, .bool false, .bool false, .bool false, .bool false, .bool false, .bool false, .bool false, .bool false, .bool false, .bool false, .bool false, .bool false, .bool false, .bool false] 133)).rowIs w.heap.size 133 32 (fun _ => .bool false) := by
  rw [zero110]; exact World.rowIs_made w (.bool false) 32 133

end Go.Proofs.Ytnfegihemhidgaa
