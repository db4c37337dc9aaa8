/- Lemmas that the proofs of this seat share: Ids, OpSet, Worn, LogIJ, IntS, LogD, HomeAll. -/
import Derived.Test.YtloopeipheklpaaGreatDoorU06
import Derived.Test.YtloopeipheklpaaGreatDoorU03
import Derived.Test.YtloopeipheklpaaGreatDoorU04
import Derived.Test.YtloopeipheklpaaGreatDoorU02
import Derived.BigRegion
/- The numbers that what is done names. -/
namespace Go.Proofs.YtloopeipheklpaaGreatDoor
open Go.RowKit

def opIds1 (o : LOp) : List Nat := if o.kind = 5 then [o.id.toNat] else putI o.dir.toNat [o.id.toNat]
def opIds (o : LOp) : List Nat := if opOk o then (if o.kind = 4 then putI o.dir2.toNat (opIds1 o) else opIds1 o) else []
theorem opOk_id {o : LOp} (h : opOk o = true) : 1 ≤ o.id ∧ o.id < 32 := by
  unfold opOk at h
  split at h
  · simp [opId, idB] at h; omega
  · split at h
    · simp [opId, idB] at h; omega
    · split at h
      · simp [opId, idB] at h; omega
      · simp at h
theorem opOk_dir {o : LOp} (h : opOk o = true) : 0 ≤ o.dir ∧ o.dir < 32 := by
  unfold opOk at h
  split at h
  · simp [opSlot, idB] at h; omega
  · split at h
    · simp [opSlot, idB] at h; omega
    · split at h
      · simp at h; omega
      · simp at h
theorem opOk_dir2 {o : LOp} (h : opOk o = true) : 0 ≤ o.dir2 ∧ o.dir2 < 32 := by
  unfold opOk at h
  split at h
  · simp [opNone2] at h; omega
  · split at h
    · simp [opSlot2, idB] at h; omega
    · split at h
      · simp [opNone2] at h; omega
      · simp at h
theorem putI_bd {x : Nat} {l : List Nat} {M : Nat} (hx : x < M) (h : ∀ i ∈ l, i < M) : ∀ i ∈ putI x l, i < M := by
  intro i hi
  unfold putI at hi
  split at hi
  · exact h i hi
  · simp at hi
    rcases hi with hi | rfl | hi
    · exact h i (List.mem_of_mem_take hi)
    · exact hx
    · exact h i (List.mem_of_mem_drop hi)
theorem putI_le (x : Nat) (l : List Nat) : (putI x l).length ≤ l.length + 1 := by
  unfold putI
  split
  · omega
  · simp; omega
theorem opIds_bd (o : LOp) : ∀ i ∈ opIds o, i < 32 := by
  unfold opIds
  split
  · rename_i h
    have h1 := opOk_id h
    have h2 := opOk_dir h
    have h3 := opOk_dir2 h
    have hb : ∀ i ∈ opIds1 o, i < 32 := by
      unfold opIds1
      split
      · intro i hi; simp at hi; omega
      · exact putI_bd (by omega) (by intro i hi; simp at hi; omega)
    split
    · exact putI_bd (by omega) hb
    · exact hb
  · intro i hi; simp at hi

theorem putI_at (B g cap n : Nat) (x : Int) (k : Nat) (e : x = k) (l : List Nat) (w : World) (hn : n = l.length) (hn2 : n ≤ 1000000) (hB : B ≤ w.heap.size) (H : OwnInts w B (.slice (some ⟨g, 0, none⟩) n cap) l) :
    Calls Tryz.prog 172 #[.slice (some ⟨g, 0, none⟩) n cap, .int .i64 x] w fun e w' => PutIEnd w B g k l e w' := by
  subst e; exact putI_any B g cap n k l w hn hn2 hB H
theorem ints_one (w : World) (B g : Nat) (x : Int) (k : Nat) (e : x = k) (hg : w.heap.size = g) (hB : B ≤ w.heap.size) : OwnInts (w.alloc (Obj.cells #[.int .i64 x] 3)) B (.slice (some ⟨g, 0, none⟩) 1 1) [k] := by
  subst e hg
  simpa [OwnInts] using World.ownsRow_lit (base := B) (e := 3) (size := 1) w #[.int .i64 (k : Int)] 1 hB (by simp [maxLen]) rfl
theorem below_put {B g : Nat} {w w1 w2 : World} {x : Nat} {l : List Nat} {e : Ending} (h : Below B w w1) (hp : PutIEnd w1 B g x l e w2) (hg : B ≤ g) (hs : B ≤ w1.heap.size) : Below B w w2 := by
  obtain ⟨_, _, _, _, _, _, hgr⟩ := hp
  exact below_grown h hgr (fun k hk => by simp at hk; omega) hs

set_option maxHeartbeats 1000000 in
set_option maxRecDepth 20000 in
theorem opIds_any (o : LOp) (w : World) (h1 : o.name.size ≤ maxLen) (h2 : o.name2.size ≤ maxLen) (h3 : o.text.size ≤ maxLen) :
    Calls Tryz.prog 171 #[.agg o.val] w fun e w' => (∃ v, e = .returned v ∧ Hid (OwnInts w' w.heap.size v (opIds o))) ∧ Below w.heap.size w w' := by
  have HOK := opOk_any o
  rcases hok : opOk o with _ | _
  · have hids : Hid (opIds o = []) := by show _ = _; simp [opIds, hok]
    simp only [LOp.val] at *
    go_enter Tryz.func171, Tryz.ntmps171
    go_wp2_with fail
    refine (HOK _ h1 h2 h3).mono ?_
    rintro x w1 ⟨rfl, rfl⟩
    rw [hok]
    go_wp2_with fail
    go_ret
    exact ⟨⟨_, rfl, by show OwnInts _ _ _ _; rw [hids.out]; exact OwnInts.empty _ _ _ (by simp) (by simp; omega)⟩, by repeat (first | exact Below.refl _ _ | refine Below.alloc ?_ (by simp <;> omega) _)⟩
  · have b1 := opOk_id hok
    have b2 := opOk_dir hok
    have b3 := opOk_dir2 hok
    have E1 : Hid (o.id = (o.id.toNat : Nat)) := by show _ = _; omega
    have E2 : Hid (o.dir = (o.dir.toNat : Nat)) := by show _ = _; omega
    have E3 : Hid (o.dir2 = (o.dir2.toNat : Nat)) := by show _ = _; omega
    clear b1 b2 b3
    by_cases k5 : o.kind = 5
    · have hids : Hid (opIds o = [o.id.toNat]) := by show _ = _; simp [opIds, opIds1, hok, k5]
      have t5 : (o.kind != 5) = false := by simp [k5]
      have t4 : (o.kind == 4) = false := by simp [k5]
      clear k5
      simp only [LOp.val] at *
      go_enter Tryz.func171, Tryz.ntmps171
      go_wp2_with fail
      refine (HOK _ h1 h2 h3).mono ?_
      rintro x w1 ⟨rfl, rfl⟩
      rw [hok]
      go_wp2_with fail
      go_ret
      exact ⟨⟨_, rfl, by show OwnInts _ _ _ _; rw [hids.out]; exact ints_one _ _ _ _ _ E1.out (by simp) (by simp; omega)⟩, by repeat (first | exact Below.refl _ _ | refine Below.alloc ?_ (by simp <;> omega) _)⟩
    · have t5 : (o.kind != 5) = true := by simp [k5]
      have hi1 : Hid (opIds1 o = putI o.dir.toNat [o.id.toNat]) := by show _ = _; simp [opIds1, k5]
      by_cases k4 : o.kind = 4
      · have hids : Hid (opIds o = putI o.dir2.toNat (putI o.dir.toNat [o.id.toNat])) := by show _ = _; rw [← hi1.out]; simp [opIds, hok, k4]
        have t4 : (o.kind == 4) = true := by simp [k4]
        clear k5 k4
        simp only [LOp.val] at *
        go_enter Tryz.func171, Tryz.ntmps171
        go_wp2_with fail
        refine (HOK _ h1 h2 h3).mono ?_
        rintro x w1 ⟨rfl, rfl⟩
        rw [hok]
        go_wp2_with fail
        have hA : Below w.heap.size w (((w.alloc (Obj.cells #[.int .i64 o.kind, .int .i64 o.dir, .string o.name, .int .i64 o.dir2, .string o.name2, .int .i64 o.id, .string o.text] 130)).alloc (Obj.cells #[.int .i64 o.kind, .int .i64 o.dir, .string o.name, .int .i64 o.dir2, .string o.name2, .int .i64 o.id, .string o.text] 130)).alloc (Obj.cells #[.int .i64 o.id] 3)) := by repeat (first | exact Below.refl _ _ | refine Below.alloc ?_ (by simp <;> omega) _)
        refine (putI_at w.heap.size _ _ _ _ _ E2.out [o.id.toNat] _ rfl (by simp) (by simp; omega) (ints_one _ _ _ _ _ E1.out (by simp) (by simp; omega))).mono ?_
        rintro x w2 hp
        have hbl := below_put hA hp (by omega) (by simp; omega)
        obtain ⟨g', n', cap', rfl, hn', hown', hgr⟩ := hp
        have HN : Hid (n' = (putI o.dir.toNat [o.id.toNat]).length) := hn'
        have hc0 : w2.cell? ⟨w.heap.size, 0, none⟩ = some (.int .i64 o.kind) := by rw [hgr.cell_far _ (by simp; omega) (by simp; omega)]; simp [go_sem]
        have hc3 : w2.cell? ⟨w.heap.size, 3, none⟩ = some (.int .i64 o.dir2) := by rw [hgr.cell_far _ (by simp; omega) (by simp; omega)]; simp [go_sem]
        have hz2 : w.heap.size ≤ w2.heap.size := hbl.size
        have hle : n' ≤ 1000 := by rw [hn']; have := putI_le o.dir.toNat [o.id.toNat]; simp at this; omega
        have hg' : w.heap.size ≤ g' := (World.ownsRow.lt hown' g' rfl).1
        have HOWN : Hid (OwnInts w2 w.heap.size (.slice (some ⟨g', 0, none⟩) n' cap') (putI o.dir.toNat [o.id.toNat])) := hown'
        clear hn' hgr hown'
        go_wp2_with fail
        refine (putI_at w.heap.size _ _ _ _ _ E3.out _ _ HN.out (by omega) hz2 HOWN.out).mono ?_
        rintro x w3 hp3
        have hbl3 := below_put hbl hp3 hg' hz2
        obtain ⟨g3, n3, cap3, rfl, hn3, hown3, hgr3⟩ := hp3
        have HOWN3 : Hid (OwnInts w3 w.heap.size (.slice (some ⟨g3, 0, none⟩) n3 cap3) (putI o.dir2.toNat (putI o.dir.toNat [o.id.toNat]))) := hown3
        clear hn3 hown3 hgr3
        go_wp2_with fail
        go_ret
        exact ⟨⟨_, rfl, by show OwnInts _ _ _ _; rw [hids.out]; exact HOWN3.out⟩, hbl3⟩
      · have hids : Hid (opIds o = putI o.dir.toNat [o.id.toNat]) := by show _ = _; rw [← hi1.out]; simp [opIds, hok, k4]
        have t4 : (o.kind == 4) = false := by simp [k4]
        clear k5 k4
        simp only [LOp.val] at *
        go_enter Tryz.func171, Tryz.ntmps171
        go_wp2_with fail
        refine (HOK _ h1 h2 h3).mono ?_
        rintro x w1 ⟨rfl, rfl⟩
        rw [hok]
        go_wp2_with fail
        have hA : Below w.heap.size w (((w.alloc (Obj.cells #[.int .i64 o.kind, .int .i64 o.dir, .string o.name, .int .i64 o.dir2, .string o.name2, .int .i64 o.id, .string o.text] 130)).alloc (Obj.cells #[.int .i64 o.kind, .int .i64 o.dir, .string o.name, .int .i64 o.dir2, .string o.name2, .int .i64 o.id, .string o.text] 130)).alloc (Obj.cells #[.int .i64 o.id] 3)) := by repeat (first | exact Below.refl _ _ | refine Below.alloc ?_ (by simp <;> omega) _)
        refine (putI_at w.heap.size _ _ _ _ _ E2.out [o.id.toNat] _ rfl (by simp) (by simp; omega) (ints_one _ _ _ _ _ E1.out (by simp) (by simp; omega))).mono ?_
        rintro x w2 hp
        have hbl := below_put hA hp (by omega) (by simp; omega)
        obtain ⟨g', n', cap', rfl, hn', hown', hgr⟩ := hp
        have HN : Hid (n' = (putI o.dir.toNat [o.id.toNat]).length) := hn'
        have hc0 : w2.cell? ⟨w.heap.size, 0, none⟩ = some (.int .i64 o.kind) := by rw [hgr.cell_far _ (by simp; omega) (by simp; omega)]; simp [go_sem]
        clear hn' hgr
        go_wp2_with fail
        go_ret
        exact ⟨⟨_, rfl, by show OwnInts _ _ _ _; rw [hids.out]; exact hown'⟩, hbl⟩
end Go.Proofs.YtloopeipheklpaaGreatDoor

/- What is done: the numbers that it names, by the program's set. -/
namespace Go.Proofs.YtloopeipheklpaaGreatDoor
open Go.RowKit

/-! Numbers that ascend: two such lists with the same members are one. -/
def AscI (l : List Nat) : Prop := l.Pairwise (· < ·)
theorem ascI_ext : ∀ {l m : List Nat}, AscI l → AscI m → (∀ x, x ∈ l ↔ x ∈ m) → l = m
  | [], [], _, _, _ => rfl
  | [], b :: m, _, _, h => by have := (h b).2 (by simp); simp at this
  | a :: l, [], _, _, h => by have := (h a).1 (by simp); simp at this
  | a :: l, b :: m, hl, hm, h => by
    have hl' := List.pairwise_cons.1 hl
    have hm' := List.pairwise_cons.1 hm
    have hab : a = b := by
      have h1 := (h a).1 (by simp)
      have h2 := (h b).2 (by simp)
      simp at h1 h2
      rcases h1 with h1 | h1
      · exact h1
      · rcases h2 with h2 | h2
        · exact h2.symm
        · have := hl'.1 b h2; have := hm'.1 a h1; omega
    subst hab
    rw [ascI_ext hl'.2 hm'.2 fun x => ?_]
    constructor
    · intro hx
      have := hl'.1 x hx
      have := (h x).1 (by simp [hx])
      simp at this
      rcases this with e | e
      · omega
      · exact e
    · intro hx
      have := hm'.1 x hx
      have := (h x).2 (by simp [hx])
      simp at this
      rcases this with e | e
      · omega
      · exact e
theorem placeI_cons_lt {x y : Nat} {l : List Nat} (h : y < x) : placeI x (y :: l) = placeI x l + 1 := by simp [placeI, h]
theorem placeI_cons_ge {x y : Nat} {l : List Nat} (h : ¬ y < x) : placeI x (y :: l) = 0 := by simp [placeI, h]
theorem putI_cons_lt {x y : Nat} {l : List Nat} (h : y < x) : putI x (y :: l) = y :: putI x l := by
  unfold putI
  rw [placeI_cons_lt h]
  simp
  split <;> simp
theorem putI_cons_eq {x : Nat} {l : List Nat} : putI x (x :: l) = x :: l := by
  unfold putI
  rw [placeI_cons_ge (by omega)]
  simp
theorem putI_cons_gt {x y : Nat} {l : List Nat} (h : x < y) : putI x (y :: l) = x :: y :: l := by
  unfold putI
  rw [placeI_cons_ge (by omega)]
  simp; omega
theorem putI_nil (x : Nat) : putI x [] = [x] := by simp [putI, placeI]
theorem mem_putI (x y : Nat) : ∀ l, y ∈ putI x l ↔ y = x ∨ y ∈ l
  | [] => by simp [putI_nil]
  | a :: l => by
    by_cases h : a < x
    · rw [putI_cons_lt h]; simp [mem_putI x y l]; constructor <;> (intro h; rcases h with h | h | h <;> simp [h])
    · by_cases e : a = x
      · subst e; rw [putI_cons_eq]; simp
      · rw [putI_cons_gt (by omega)]; simp
theorem ascI_putI (x : Nat) : ∀ l, AscI l → AscI (putI x l)
  | [], _ => by simp [putI_nil, AscI]
  | a :: l, h => by
    have h' := List.pairwise_cons.1 h
    by_cases hlt : a < x
    · rw [putI_cons_lt hlt]
      refine List.pairwise_cons.2 ⟨fun y hy => ?_, ascI_putI x l h'.2⟩
      rcases (mem_putI x y l).1 hy with rfl | hy
      · exact hlt
      · exact h'.1 y hy
    · by_cases e : a = x
      · subst e; rw [putI_cons_eq]; exact h
      · rw [putI_cons_gt (by omega)]
        refine List.pairwise_cons.2 ⟨fun y hy => ?_, h⟩
        simp at hy
        rcases hy with rfl | hy
        · omega
        · have := h'.1 y hy; omega
theorem ascI_filter_range (p : Nat → Bool) (n : Nat) : AscI ((List.range n).filter p) :=
  List.Pairwise.filter p List.pairwise_lt_range

/-- Which numbers the set holds. -/
def inSet (k : Int) (i j l m : Nat) : Bool := m == i || (k != 5 && m == j) || (k == 4 && m == l)
def setL (s : Nat → Bool) (n : Nat) : List Nat := (List.range n).filter s
theorem opIds_set {o : LOp} (h : opOk o = true) : opIds o = setL (inSet o.kind o.id.toNat o.dir.toNat o.dir2.toNat) 32 := by
  have b1 := opOk_id h
  have b2 := opOk_dir h
  have b3 := opOk_dir2 h
  have a1 : AscI (opIds1 o) := by
    unfold opIds1
    split
    · simp [AscI]
    · exact ascI_putI _ _ (by simp [AscI])
  refine ascI_ext ?_ (ascI_filter_range _ _) fun x => ?_
  · unfold opIds
    rw [if_pos h]
    split
    · exact ascI_putI _ _ a1
    · exact a1
  · unfold opIds opIds1 setL inSet
    rw [if_pos h]
    by_cases k4 : o.kind = 4
    · simp [k4, mem_putI]
      omega
    · by_cases k5 : o.kind = 5
      · simp [k5]
        omega
      · simp [k4, k5, mem_putI]
        omega
theorem setL_yes {s : Nat → Bool} {n : Nat} (h : s n = true) : setL s (n + 1) = setL s n ++ [n] := by simp [setL, List.range_succ, List.filter_append, h]
theorem setL_no {s : Nat → Bool} {n : Nat} (h : s n = false) : setL s (n + 1) = setL s n := by simp [setL, List.range_succ, List.filter_append, h]
theorem setL_le (s : Nat → Bool) (n : Nat) : (setL s n).length ≤ n := by have := List.length_filter_le s (List.range n); simpa [setL] using this

theorem OwnInts.bare (w : World) (B : Nat) : OwnInts w B (.slice none 0 0) [] := ⟨rfl, .inl ⟨rfl, rfl⟩⟩

set_option maxHeartbeats 1000000 in
set_option maxRecDepth 20000 in
theorem list_any (b : Nat) (s : Nat → Bool) (w : World) (hrow : w.rowIs b 275 32 (fun m => .bool (s m))) :
    Calls Tryz.prog 216 #[.pointer (some ⟨b, 0, none⟩)] w fun e w' => (∃ v, e = .returned v ∧ Hid (OwnInts w' w.heap.size v (setL s 32))) ∧ Below w.heap.size w w' := by
  obtain ⟨i0, hi, hz0, hz1, hz2⟩ := info_parts infoI
  have HR : Hid (w.rowIs b 275 32 (fun m => .bool (s m))) := hrow
  have hbw : b < w.heap.size := hrow.lt
  clear hrow
  go_enter Tryz.func216, Tryz.ntmps216
  go_wp2_with fail
  go_loopg [3, 7] 32 (fun g v i wr => ∃ j : Nat, j ≤ 32 ∧ Hid (g = 32 - j) ∧ i = .int .i64 j ∧ Hid (OwnInts wr w.heap.size v (setL s j)) ∧ Below w.heap.size w wr)
  case atStart => exact ⟨0, by omega, rfl, rfl, OwnInts.bare _ _, Below.refl _ _⟩
  case round =>
    obtain ⟨j, hj, hk, rfl, hown, hb⟩ := hrel
    have hsz := hb.size
    by_cases hlt : j < 32
    · have hc : wr.cell? ⟨b, j, none⟩ = some (.bool (s j)) := by rw [hb.cell (by simpa using hbw)]; exact HR.out.cell hlt
      have hbl : b < wr.heap.size := by omega
      have hlt' : (j : Int) < 32 := by omega
      have hle := setL_le s j
      rcases hs : s j with _ | _
      · have HL : Hid (setL s (j + 1) = setL s j) := setL_no hs
        rw [hs] at hc
        clear hs
        go_wp2_with fail
        go_region
        all_goals
          go_wp2_with fail
          go_roundg (32 - (j + 1))
          case measure => have := hk.out; omega
          case rel => exact ⟨j + 1, by omega, rfl, by go_num, by show OwnInts _ _ _ _; rw [HL.out]; exact hown.out, hb.drew⟩
      · have HL : Hid (setL s (j + 1) = setL s j ++ [j]) := setL_yes hs
        rw [hs] at hc
        clear hs
        go_wp2_with fail
        go_region
        all_goals
          go_wp2_with (first
            | (at_builtin; refine wpList_append_own _ rfl _ _ 166 rfl w.heap.size 3 i0 (.int .i64 0) 1 8 Tryz.underlying166 hi hz0 hz1 hz2 rfl (by decide) _ _ _ rfl (hown.out.alloc _) ⟨wr.heap.size, 0, none⟩ 1 1 [.int .i64 (j : Int)] rfl rfl ?c1 ?c2 ?c3 ?c4 ?c5 ?_)
            | go_in)
          case c1 => intro i u hi; exact one_at hi
          case c2 => intro u hu; simp at hu; subst hu; rfl
          case c3 => unfold maxLen; omega
          case c4 => omega
          case c5 => simp; omega
          intro v' w1 hown' hgrow _
          go_wp2_with fail
          go_roundg (32 - (j + 1))
          case measure => have := hk.out; omega
          case rel => exact ⟨j + 1, by omega, rfl, by go_num, by show OwnInts _ _ _ _; rw [HL.out]; simpa [OwnInts] using hown', below_grown (hb.drew.alloc (by simpa using hsz) _) hgrow (fun k e => (hown.out.lt k e).1) (by simp; omega)⟩
    · obtain rfl : j = 32 := by omega
      go_wp2_with fail
      go_ret
      exact ⟨⟨_, rfl, hown⟩, hb⟩

def AddEnd (b i j l : Nat) (k : Int) (w : World) (e : Ending) (w' : World) : Prop :=
  e = .returned (.tuple #[]) ∧ w'.rowIs b 275 32 (fun m => .bool (inSet k i j l m)) ∧ But b w w'

theorem row_add {w : World} {b i : Nat} {s s' : Nat → Bool} (h : w.rowIs b 275 32 (fun m => .bool (s m))) (e : ∀ m, s' m = (s m || m == i)) : (w.setCell ⟨b, i, none⟩ (.bool true)).rowIs b 275 32 (fun m => .bool (s' m)) :=
  (h.set i (.bool true)).congr fun m _ => by
    rw [e m]
    by_cases hm : m = i
    · simp [hm]
    · simp [hm]
set_option maxHeartbeats 1000000 in
set_option maxRecDepth 20000 in
theorem addOf_any (b i j l : Nat) (k : Int) (nm nm2 tx : ByteArray) (w : World) (hi : i < 32) (hj : j < 32) (hl : l < 32) (hrow : w.rowIs b 275 32 (fun _ => .bool false)) :
    Calls Tryz.prog 215 #[.pointer (some ⟨b, 0, none⟩), .agg #[.int .i64 k, .int .i64 j, .string nm, .int .i64 l, .string nm2, .int .i64 i, .string tx]] w fun e w' => AddEnd b i j l k w e w' := by
  have hbw : b < w.heap.size := hrow.lt
  have hi' : (i : Int) < 32 := by omega
  have hj' : (j : Int) < 32 := by omega
  have hl' : (l : Int) < 32 := by omega
  have g1 : w.cell? ⟨b, i, none⟩ = some (.bool false) := hrow.cell hi
  have f1 : w.frozen? ⟨b, i, none⟩ = false := hrow.frozen i
  have HR : Hid (w.rowIs b 275 32 (fun _ => .bool false)) := hrow
  clear hrow
  go_enter Tryz.func215, Tryz.ntmps215
  go_upto_region 2 with fail
  go_cut [4] (fun s wx => s = .int .i64 k ∧ Hid (wx.rowIs b 275 32 (fun m => .bool (m == i))) ∧ Hid (But b w wx) ∧ w.heap.size < wx.heap.size ∧ wx.cell? ⟨w.heap.size, 1, none⟩ = some (.int .i64 j) ∧ wx.cell? ⟨w.heap.size, 3, none⟩ = some (.int .i64 l))
  case first =>
    go_region
    all_goals
      go_wp2_with fail
      go_meet
      refine ⟨rfl, ?_, ?_, by simp, by simp [go_sem], by simp [go_sem]⟩
      · show World.rowIs _ b 275 32 _
        exact ((row_add HR.out (s' := fun m => m == i) (fun m => by simp)).alloc _).drew
      · exact ((But.refl b w).set i (.bool true)).next (by simp; omega) ((Below.refl _ _).alloc (Nat.le_refl _) _).drew
  obtain ⟨rfl, hr1, hb1, hz1, c1, c3⟩ := hcut
  have hbx : b < wc.heap.size := by omega
  by_cases k5 : k = 5
  · subst k5
    go_wp2_with (first | (go_at_call 232; refine (inDir_any _ _).mono ?_; rintro e w' ⟨rfl, rfl⟩) | (go_at_call 233; refine (moves_any _ _).mono ?_; rintro e w' ⟨rfl, rfl⟩))
    go_end0
    exact ⟨rfl, hr1.out.congr fun m _ => by simp [inSet], hb1.out⟩
  have t5 : (k != 5) = true := by simpa using k5
  have g2 : wc.cell? ⟨b, j, none⟩ = some (.bool (j == i)) := hr1.out.cell hj
  have f2 : wc.frozen? ⟨b, j, none⟩ = false := hr1.out.frozen j
  have hc3 : ∀ v, (wc.setCell ⟨b, j, none⟩ v).cell? ⟨w.heap.size, 3, none⟩ = some (.int .i64 l) := fun v => by rw [World.cell?_setCell_other _ _ _ _ (by simp <;> omega)]; exact c3
  have hr2 := row_add hr1.out (i := j) (s' := fun m => m == i || m == j) (fun m => rfl)
  have g3 : (wc.setCell ⟨b, j, none⟩ (.bool true)).cell? ⟨b, l, none⟩ = some (.bool (l == i || l == j)) := hr2.cell hl
  have f3 : (wc.setCell ⟨b, j, none⟩ (.bool true)).frozen? ⟨b, l, none⟩ = false := hr2.frozen l
  have g4 := hc3 (.bool true)
  have HR2 : Hid ((wc.setCell ⟨b, j, none⟩ (.bool true)).rowIs b 275 32 (fun m => .bool (m == i || m == j))) := hr2
  clear hr2 hc3
  by_cases k4 : k = 4
  · subst k4
    go_wp2_with (go_at_call 232; refine (inDir_any _ _).mono ?_; rintro e w' ⟨rfl, rfl⟩)
    go_region
    all_goals
      go_wp2_with (go_at_call 233; refine (moves_any _ _).mono ?_; rintro e w9 ⟨rfl, rfl⟩)
      go_region
      all_goals
        go_wp2_with fail
        go_end0
        exact ⟨rfl, (row_add HR2.out (i := l) (s' := inSet 4 i j l) (fun m => by simp [inSet])).drew.drew, ((hb1.out.set j (.bool true)).set l (.bool true)).next (by simp; omega) (Below.refl _ _).drew.drew⟩
  · have t4 : (k == 4) = false := by simpa using k4
    go_wp2_with (go_at_call 232; refine (inDir_any _ _).mono ?_; rintro e w' ⟨rfl, rfl⟩)
    go_region
    all_goals
      go_wp2_with (go_at_call 233; refine (moves_any _ _).mono ?_; rintro e w9 ⟨rfl, rfl⟩)
      go_end0
      exact ⟨rfl, HR2.out.drew.congr fun m _ => by simp [inSet, t5, t4], (hb1.out.set j (.bool true)).next (by simp; omega) (Below.refl _ _).drew⟩

theorem zero110 : (#[.bool false, .bool false, .bool false, .bool false, .bool false, .bool false, .bool false, .bool false, .bool false, .bool false, .bool false, .bool false, .bool false, .bool false, .bool false, .bool false, .bool false, .bool false, .bool false, .bool false, .bool false, .bool false, .bool false, .bool false, .bool false, .bool false, .bool false, .bool false, .bool false, .bool false, .bool false, .bool false] : Array Value) = madeCells #[.bool false] 32 := by kernel_rfl
theorem row_zero (w : World) : (w.alloc (.cells #[.bool false, .bool false, .bool false, .bool false, .bool false, .bool false, .bool false, .bool false, .bool false, .bool false, .bool false, .bool false, .bool false, .bool false, .bool false, .bool false, .bool false, .bool false, .bool false, .bool false, .bool false, .bool false, .bool false, .bool false, .bool false, .bool false, .bool false, .bool false, .bool false, .bool false, .bool false, .bool false] 275)).rowIs w.heap.size 275 32 (fun _ => .bool false) := by
  rw [zero110]; exact World.rowIs_made w (.bool false) 32 275

set_option maxHeartbeats 400000 in
theorem implOpIds (o : LOp) (w : World) (hs : OpSz o) :
    Calls Tryz.prog 236 #[.agg o.val] w fun e w' => (∃ v, e = .returned v ∧ Hid (OwnInts w' w.heap.size v (opIds o))) ∧ Below w.heap.size w w' := by
  have HIM := fun w => implOpOk o w hs
  rcases hok : opOk o with _ | _
  · have hids : Hid (opIds o = []) := by show _ = _; simp [opIds, hok]
    simp only [LOp.val] at *
    go_enter Tryz.func236, Tryz.ntmps236
    go_wp2_with fail
    refine (HIM _).mono ?_
    rintro x w1 ⟨rfl, hb1⟩
    rw [hok]
    go_wp2_with fail
    go_ret
    exact ⟨⟨_, rfl, by show OwnInts _ _ _ _; rw [hids.out]; exact OwnInts.bare _ _⟩, ((Below.refl _ _).alloc (Nat.le_refl _) _).trans (hb1.mono (by simp))⟩
  · have hset : Hid (opIds o = setL (inSet o.kind o.id.toNat o.dir.toNat o.dir2.toNat) 32) := opIds_set hok
    have b1 := opOk_id hok
    have b2 := opOk_dir hok
    have b3 := opOk_dir2 hok
    obtain ⟨k, d, nm, d2, nm2, id, tx⟩ := o
    simp only [LOp.val] at *
    obtain ⟨i, rfl⟩ : ∃ i : Nat, id = i := ⟨id.toNat, by omega⟩
    obtain ⟨j, rfl⟩ : ∃ i : Nat, d = i := ⟨d.toNat, by omega⟩
    obtain ⟨l, rfl⟩ : ∃ i : Nat, d2 = i := ⟨d2.toNat, by omega⟩
    simp only [Int.toNat_natCast] at hset
    have hi : i < 32 := by omega
    have hj : j < 32 := by omega
    have hl : l < 32 := by omega
    clear b1 b2 b3
    go_enter Tryz.func236, Tryz.ntmps236
    go_wp2_with fail
    refine (HIM _).mono ?_
    rintro x w1 ⟨rfl, hb1⟩
    rw [hok]
    have hA : Below w.heap.size w w1 := ((Below.refl _ _).alloc (Nat.le_refl _) _).trans (hb1.mono (by simp))
    have hz : w.heap.size < w1.heap.size := by have := hb1.size; simp at this; omega
    have c0 : w1.cell? ⟨w.heap.size, 0, none⟩ = some (.int .i64 k) := by rw [hb1.cell (by simp)]; simp [go_sem]
    have c1 : w1.cell? ⟨w.heap.size, 1, none⟩ = some (.int .i64 j) := by rw [hb1.cell (by simp)]; simp [go_sem]
    have c2 : w1.cell? ⟨w.heap.size, 2, none⟩ = some (.string nm) := by rw [hb1.cell (by simp)]; simp [go_sem]
    have c3 : w1.cell? ⟨w.heap.size, 3, none⟩ = some (.int .i64 l) := by rw [hb1.cell (by simp)]; simp [go_sem]
    have c4 : w1.cell? ⟨w.heap.size, 4, none⟩ = some (.string nm2) := by rw [hb1.cell (by simp)]; simp [go_sem]
    have c5 : w1.cell? ⟨w.heap.size, 5, none⟩ = some (.int .i64 i) := by rw [hb1.cell (by simp)]; simp [go_sem]
    have c6 : w1.cell? ⟨w.heap.size, 6, none⟩ = some (.string tx) := by rw [hb1.cell (by simp)]; simp [go_sem]
    clear hb1
    go_wp2_with fail
    refine (addOf_any _ i j l _ _ _ _ _ hi hj hl (row_zero w1)).mono ?_
    rintro x w2 ⟨rfl, hr2, hb2⟩
    have hb3 : Below w.heap.size w w2 := (hA.alloc hA.size _).trans (hb2.below.mono hA.size)
    have hz2 : w1.heap.size < w2.heap.size := by have := hb2.below.size; simp at this; omega
    clear c0 c1 c2 c3 c4 c5 c6
    go_wp2_with fail
    refine (list_any _ _ _ hr2).mono ?_
    rintro x w3 ⟨⟨v, rfl, hv⟩, hb4⟩
    go_wp2_with fail
    go_ret
    exact ⟨⟨_, rfl, by show OwnInts _ _ _ _; rw [hset.out]; exact hv.out.mono (by omega)⟩, hb3.trans (hb4.mono (by omega))⟩
end Go.Proofs.YtloopeipheklpaaGreatDoor

/- Whether something that is named was turned as often as can be. -/
namespace Go.Proofs.YtloopeipheklpaaGreatDoor
open Go.RowKit

def oldB (os : List LObj) (i : Nat) : Bool := match os[i]? with | some o => decide (1000000 ≤ o.ver) | none => false
def wornB (os : List LObj) (l : List Nat) : Bool := l.any (oldB os)
theorem opIds_le (o : LOp) : (opIds o).length ≤ 3 := by
  have h1 : (opIds1 o).length ≤ 2 := by
    unfold opIds1
    split
    · simp
    · have := putI_le o.dir.toNat [o.id.toNat]; simp at this; omega
  unfold opIds
  split
  · split
    · have := putI_le o.dir2.toNat (opIds1 o); omega
    · omega
  · simp
theorem OwnInts.form {w : World} {B : Nat} {v : Value} {l : List Nat} (h : OwnInts w B v l) : ∃ a c, v = .slice a l.length c ∧ ∀ i, i < l.length → ∃ g k, a = some ⟨g, 0, none⟩ ∧ B ≤ g ∧ g < w.heap.size ∧ l[i]? = some k ∧ w.cell? ⟨g, i, none⟩ = some (.int .i64 (k : Nat)) := by
  by_cases hl : l = []
  · subst hl
    obtain ⟨a, c, rfl⟩ := h.nil
    exact ⟨a, c, rfl, fun i hi => by simp at hi⟩
  · obtain ⟨g, c, rfl, h1, h2, h3⟩ := h.get hl
    refine ⟨_, c, rfl, fun i hi => ?_⟩
    obtain ⟨k, hk, hc⟩ := h3 i hi
    exact ⟨g, k, rfl, h1, h2, hk, hc⟩

set_option maxHeartbeats 1000000 in
set_option maxRecDepth 20000 in
theorem worn_any (a : Option Addr) (n c : Nat) (os : List LObj) (L U : Nat) (o : LOp) (w : World) (hn : 32 ≤ n) (hU : U ≤ w.heap.size) (H : ObjsAt w L U a n os) (h1 : o.name.size ≤ maxLen) (h2 : o.name2.size ≤ maxLen) (h3 : o.text.size ≤ maxLen) :
    Calls Tryz.prog 173 #[.agg #[.slice a n c], .agg o.val] w fun e w' => e = .returned (.bool (wornB os (opIds o))) ∧ Below w.heap.size w w' := by
  have HIDS := opIds_any o
  have HBD := opIds_bd o
  have hnos := H.len
  have HNOS : Hid (n = os.length) := hnos
  obtain ⟨b, off, ha, hL, hbU, hc⟩ := H.at_ (by omega)
  subst ha
  clear hnos H
  have HCC : Hid (∀ i, i < n → ∃ p, os[i]? = some p ∧ w.cell? ⟨b, off + i * 4 + 1, none⟩ = some (.int .i64 p.ver)) := fun i hi => by
    obtain ⟨p, _, _, _, hp, _, _, hv, _⟩ := hc i hi
    exact ⟨p, hp, hv⟩
  clear hc
  simp only [LOp.val] at *
  go_enter Tryz.func173, Tryz.ntmps173
  go_wp2_with fail
  refine (HIDS _ h1 h2 h3).mono ?_
  rintro x w1 ⟨⟨v, rfl, hv⟩, hb1⟩
  have hA : Below w.heap.size w w1 := ((((Below.refl w.heap.size w).alloc (Nat.le_refl _) _).alloc (by simp) _)).trans (hb1.mono (by simp; omega))
  have hbx : w1.cell? ⟨w.heap.size, 0, none⟩ = some (.slice (some ⟨b, off, none⟩) n c) := by rw [hb1.cell (by simp; omega)]; simp [go_sem]
  have hz1 : w.heap.size + 2 ≤ w1.heap.size := by simpa using hb1.size
  obtain ⟨ia, ic, rfl, hcells⟩ := hv.out.form
  have HL : Hid (∀ i ∈ opIds o, i < 32) := HBD
  have HI : Hid (∀ i, i < (opIds o).length → ∃ g k, ia = some ⟨g, 0, none⟩ ∧ w1.cell? ⟨g, i, none⟩ = some (.int .i64 (k : Nat)) ∧ (opIds o)[i]? = some k) := fun i hi => by
    obtain ⟨g, k, h1, _, _, h4, h5⟩ := hcells i hi
    exact ⟨g, k, h1, h5, h4⟩
  clear hv hcells hb1 HBD HIDS
  obtain ⟨m, hm⟩ : ∃ m, Hid (m = (opIds o).length) := ⟨_, rfl⟩
  rw [← hm.out]
  have hm4 : m ≤ 100000 := by rw [hm.out]; have := opIds_le o; omega
  go_wp2_with fail
  go_loopg [6] m (fun k i wr => ∃ j : Nat, j ≤ m ∧ Hid (k = m - j) ∧ i = .int .i64 j ∧ Hid (∀ i, i < j → ∃ k, (opIds o)[i]? = some k ∧ oldB os k = false) ∧ Hid (∃ q, wr = w1.drewN q))
  case atStart => exact ⟨0, Nat.zero_le _, rfl, rfl, fun i hi => by omega, 0, rfl⟩
  case round =>
    obtain ⟨j, hj, hk, rfl, hno, hwr⟩ := hrel
    have hbx' : wr.cell? ⟨w.heap.size, 0, none⟩ = some (.slice (some ⟨b, off, none⟩) n c) := by obtain ⟨q, rfl⟩ := hwr.out; exact hbx
    by_cases hlt : j < m
    · obtain ⟨g, k, rfl, hck, hik⟩ := HI.out j (by rw [← hm.out]; exact hlt)
      have hk32 : k < 32 := HL.out k (List.mem_of_getElem? hik)
      have hkn : (k : Int) < (n : Int) := by omega
      obtain ⟨p, hp, hpv⟩ := HCC.out k (by omega)
      have hck' : wr.cell? ⟨g, j, none⟩ = some (.int .i64 (k : Int)) := by obtain ⟨q, rfl⟩ := hwr.out; exact hck
      have hpv' : wr.cell? ⟨b, off + k * 4 + 1, none⟩ = some (.int .i64 p.ver) := by obtain ⟨q, rfl⟩ := hwr.out; show w1.cell? _ = _; rw [hA.cell (by simp; omega)]; exact hpv
      have HIK : Hid ((opIds o)[j]? = some k) := hik
      have HP : Hid (os[k]? = some p) := hp
      clear hik hp hpv hck
      by_cases hq : 1000000 ≤ p.ver
      · have HO : Hid (wornB os (opIds o) = true) := by show _ = _; unfold wornB; rw [List.any_eq_true]; exact ⟨k, List.mem_of_getElem? HIK.out, by simp [oldB, HP.out, hq]⟩
        go_wp2_with fail
        go_quiet (fail)
        go_wp2_with fail
        go_ret
        exact ⟨ret_bool HO.out.symm, by obtain ⟨q, hq⟩ := hwr.out; rw [hq]; exact hA.trans ⟨rfl, rfl, rfl, Nat.le_refl _, fun _ _ => rfl⟩⟩
      · have HO : Hid (oldB os k = false) := by show _ = _; simp [oldB, HP.out]; omega
        have t1 : decide (1000000 ≤ p.ver) = false := by simpa using hq
        go_wp2_with fail
        go_quiet (fail)
        go_wp2_with fail
        go_roundg (m - (j + 1))
        case measure => have := hk.out; omega
        case rel =>
          refine ⟨j + 1, by omega, rfl, by go_num, fun i hi => ?_, by obtain ⟨q, hq⟩ := hwr.out; exact ⟨q + nq, by rw [hq, World.drewN_drewN]⟩⟩
          rcases Nat.lt_or_ge i j with h | h
          · exact hno.out i h
          · obtain rfl : i = j := by omega
            exact ⟨k, HIK.out, HO.out⟩
    · have HO : Hid (wornB os (opIds o) = false) := by
        show _ = _
        unfold wornB
        rw [List.any_eq_false]
        intro k hk
        obtain ⟨i, hi, hik⟩ := List.getElem_of_mem hk
        obtain ⟨k', h1, h2⟩ := hno.out i (by have := hm.out; omega)
        rw [List.getElem?_eq_getElem hi, hik] at h1
        simp at h1
        subst h1
        simp [h2]
      go_wp2_with fail
      go_ret
      exact ⟨ret_bool HO.out.symm, by obtain ⟨q, hq⟩ := hwr.out; rw [hq]; exact hA.trans ⟨rfl, rfl, rfl, Nat.le_refl _, fun _ _ => rfl⟩⟩
end Go.Proofs.YtloopeipheklpaaGreatDoor

/- Logs: the numbers that a list names, of the program and of the specification. -/
namespace Go.Proofs.YtloopeipheklpaaGreatDoor
open Go.RowKit

/-! The plain function. -/
/-! The program's set grows. -/
end Go.Proofs.YtloopeipheklpaaGreatDoor

/- Logs: the numbers that a list names, of the specification. -/
namespace Go.Proofs.YtloopeipheklpaaGreatDoor
open Go.RowKit

theorem OwnInts.keep {w w' : World} {B g n cap : Nat} {l : List Nat} (h : OwnInts w B (.slice (some ⟨g, 0, none⟩) n cap) l) (hb : w'.heap[g]? = w.heap[g]?) : OwnInts w' B (.slice (some ⟨g, 0, none⟩) n cap) l := by
  rcases h with ⟨h0, h1⟩
  refine ⟨h0, ?_⟩
  rcases h1 with ⟨e, _⟩ | ⟨g', cap', cur, e, h2, h3, h4⟩
  · cases e
  · cases e
    exact .inr ⟨g, cap, cur, rfl, h2, by rw [hb]; exact h3, h4⟩
end Go.Proofs.YtloopeipheklpaaGreatDoor

/- Lists of numbers as answers: compared, marked, held. -/
namespace Go.Proofs.YtloopeipheklpaaGreatDoor
open Go.RowKit

/-- A list of numbers in a row of its own. -/
def IntRow (w : World) (B : Nat) (a : Option Addr) (n g cap : Nat) (f : Nat → Value) : Prop := n ≠ 0 → a = some ⟨g, 0, none⟩ ∧ B ≤ g ∧ n ≤ cap ∧ w.rowIs g 3 cap f
theorem OwnInts.row {w : World} {B : Nat} {v : Value} {l : List Nat} (h : OwnInts w B v l) : ∃ a c g cap f, v = .slice a l.length c ∧ B ≤ g ∧ IntRow w B a l.length g cap f ∧ ∀ i k, l[i]? = some k → f i = .int .i64 (k : Nat) := by
  rcases h.2 with ⟨rfl, h0⟩ | ⟨g, cap, cur, rfl, hb, hg, hnc, hcm, hcs, htake⟩
  · exact ⟨none, 0, B, 0, fun _ => default, by rw [h0], Nat.le_refl _, fun hn => absurd h0 hn, fun i k hk => by have := (List.getElem?_eq_some_iff.1 hk).1; omega⟩
  · refine ⟨_, cap, g, cap, fun i => cur[i]?.getD default, rfl, hb, fun _ => ⟨rfl, hb, hnc, ⟨cur, hg, by omega, fun i hi => by simp [Array.getElem?_eq_getElem (show i < cur.size by omega)]⟩⟩, fun i k hk => ?_⟩
    have hlt := (List.getElem?_eq_some_iff.1 hk).1
    have h1 : (cur.toList.take (l.length * 1))[i]? = some (.int .i64 (k : Nat)) := by rw [htake, List.getElem?_map, hk]; rfl
    rw [List.getElem?_take_of_lt (by omega)] at h1
    simp at h1
    simp [h1]
theorem IntRow.kept {w w' : World} {B : Nat} {a : Option Addr} {n g cap : Nat} {f : Nat → Value} (h : IntRow w B a n g cap f) (hb : ∀ k, k = g → k < w.heap.size → w'.heap[k]? = w.heap[k]?) : IntRow w' B a n g cap f := fun hn => by
  obtain ⟨h1, h2, h3, h4⟩ := h hn
  exact ⟨h1, h2, h3, h4.of_block (hb g rfl h4.lt)⟩

end Go.Proofs.YtloopeipheklpaaGreatDoor

/- Logs: what is ok, of the program. -/
namespace Go.Proofs.YtloopeipheklpaaGreatDoor
open Go.RowKit

theorem isClient_any (q : Int) (w : World) : Calls Tryz.prog 85 #[.int .i64 q] w fun e w' => e = .returned (.bool (decide (0 ≤ q) && decide (q < 3))) ∧ w' = w := by
  by_cases h : 0 ≤ q
  · go_enter Tryz.func85, Tryz.ntmps85
    go_wp2
    go_ret
    exact ⟨ret_bool (by simp [h]), rfl⟩
  · go_enter Tryz.func85, Tryz.ntmps85
    go_wp2
    go_ret
    exact ⟨ret_bool (by simp; omega), rfl⟩
theorem isLogNumber_any (q : Int) (w : World) : Calls Tryz.prog 149 #[.int .i64 q] w fun e w' => e = .returned (.bool (decide (1 ≤ q) && decide (q ≤ 1000))) ∧ w' = w := by
  by_cases h : 1 ≤ q
  · go_enter Tryz.func149, Tryz.ntmps149
    go_wp2
    go_ret
    exact ⟨ret_bool (by simp [h]), rfl⟩
  · go_enter Tryz.func149, Tryz.ntmps149
    go_wp2
    go_ret
    exact ⟨ret_bool (by simp; omega), rfl⟩
/-- Numbers that are looked at only. -/
def IntsAt (w : World) (L U : Nat) (a : Option Addr) (n : Nat) (l : List Nat) : Prop := n = l.length ∧ ∀ i, i < n → ∃ g k, a = some ⟨g, 0, none⟩ ∧ L ≤ g ∧ g < U ∧ l[i]? = some k ∧ w.cell? ⟨g, i, none⟩ = some (.int .i64 (k : Nat))
theorem OwnInts.at_ {w : World} {B : Nat} {v : Value} {l : List Nat} (h : OwnInts w B v l) : ∃ a c, v = .slice a l.length c ∧ IntsAt w B w.heap.size a l.length l := by
  obtain ⟨a, c, rfl, hc⟩ := h.form
  exact ⟨a, c, rfl, rfl, fun i hi => by
    obtain ⟨g, k, h1, h2, h3, h4, h5⟩ := hc i hi
    exact ⟨g, k, h1, h2, h3, h4, h5⟩⟩
theorem IntsAt.below {w w' : World} {L U B : Nat} {a : Option Addr} {n : Nat} {l : List Nat} (h : IntsAt w L U a n l) (hb : Below B w w') (hU : U ≤ B) : IntsAt w' L U a n l := ⟨h.1, fun i hi => by
  obtain ⟨g, k, h1, h2, h3, h4, h5⟩ := h.2 i hi
  exact ⟨g, k, h1, h2, h3, h4, by rw [hb.cell (by simp; omega)]; exact h5⟩⟩

end Go.Proofs.YtloopeipheklpaaGreatDoor

/- All names of all directories as one list; where something is at home, and the way up: contracts of the specification. -/
namespace Go.Proofs.YtloopeipheklpaaGreatDoor
open Go.RowKit

def tagged (d : Nat) (es : List LEnt) : List (Nat × LEnt) := es.map (fun e => (d, e))
def flatFrom : Nat → List LObj → List (Nat × LEnt)
  | _, [] => []
  | d, o :: l => tagged d o.kids ++ flatFrom (d + 1) l
/-- All names of all directories, in order. -/
def flat (t : List LObj) : List (Nat × LEnt) := flatFrom 0 t
theorem flatFrom_append (d : Nat) (l m : List LObj) : flatFrom d (l ++ m) = flatFrom d l ++ flatFrom (d + l.length) m := by
  induction l generalizing d with
  | nil => simp [flatFrom]
  | cons x l ih => simp [flatFrom, ih, Nat.add_assoc, Nat.add_comm 1]
theorem flat_take {t : List LObj} {i : Nat} {o : LObj} (h : t[i]? = some o) : flat (t.take (i + 1)) = flat (t.take i) ++ tagged i o.kids := by
  have hi : i < t.length := (List.getElem?_eq_some_iff.1 h).1
  have ho : t[i] = o := (List.getElem?_eq_some_iff.1 h).2
  rw [List.take_succ_eq_append_getElem hi, ho]
  unfold flat
  rw [flatFrom_append]
  simp [flatFrom, Nat.min_eq_left (Nat.le_of_lt hi)]
theorem flat_split {t : List LObj} {i : Nat} {o : LObj} (h : t[i]? = some o) : ∃ r, flat t = flat (t.take i) ++ tagged i o.kids ++ r := by
  have e : t = t.take (i + 1) ++ t.drop (i + 1) := (List.take_append_drop _ _).symm
  refine ⟨flatFrom (0 + (t.take (i + 1)).length) (t.drop (i + 1)), ?_⟩
  rw [← flat_take h]
  conv => lhs; rw [e]
  exact flatFrom_append 0 _ _
theorem tagged_split {es : List LEnt} {d k : Nat} {e : LEnt} (h : es[k]? = some e) : ∃ r, tagged d es = tagged d (es.take k) ++ (d, e) :: r := by
  have hk : k < es.length := (List.getElem?_eq_some_iff.1 h).1
  have he : es[k] = e := (List.getElem?_eq_some_iff.1 h).2
  refine ⟨tagged d (es.drop (k + 1)), ?_⟩
  unfold tagged
  rw [← he, ← List.map_cons (f := fun e => (d, e)), ← List.map_append, ← List.drop_eq_getElem_cons hk, List.take_append_drop]
theorem tagged_take {es : List LEnt} {d k : Nat} {e : LEnt} (h : es[k]? = some e) : tagged d (es.take (k + 1)) = tagged d (es.take k) ++ [(d, e)] := by
  have hk : k < es.length := (List.getElem?_eq_some_iff.1 h).1
  have he : es[k] = e := (List.getElem?_eq_some_iff.1 h).2
  unfold tagged
  rw [List.take_succ_eq_append_getElem hk, he]; simp

def homeIn (p : List (Nat × LEnt)) (id : Int) : Int := match p.find? (fun x => x.2.id == id) with | some x => x.1 | none => -1
def nameIn (p : List (Nat × LEnt)) (id : Int) : ByteArray := match p.find? (fun x => x.2.id == id) with | some x => x.2.name | none => ⟨#[]⟩
/-- No name of the list is of this number. -/
def Off (p : List (Nat × LEnt)) (id : Int) : Prop := ∀ x ∈ p, x.2.id ≠ id
theorem off_nil (id : Int) : Off [] id := fun x hx => by simp at hx
theorem off_append {p q : List (Nat × LEnt)} {id : Int} : Off (p ++ q) id ↔ Off p id ∧ Off q id := by
  unfold Off
  constructor
  · exact fun h => ⟨fun x hx => h x (List.mem_append_left _ hx), fun x hx => h x (List.mem_append_right _ hx)⟩
  · rintro ⟨h, k⟩ x hx
    rcases List.mem_append.1 hx with hx | hx
    · exact h x hx
    · exact k x hx
theorem off_one {x : Nat × LEnt} {id : Int} : Off [x] id ↔ x.2.id ≠ id := by simp [Off]
theorem find_off {p : List (Nat × LEnt)} {id : Int} (h : Off p id) : p.find? (fun x => x.2.id == id) = none := by
  rw [List.find?_eq_none]
  intro x hx
  simpa using h x hx
theorem homeIn_off {p : List (Nat × LEnt)} {id : Int} (h : Off p id) : homeIn p id = -1 := by unfold homeIn; rw [find_off h]
theorem homeIn_at {p : List (Nat × LEnt)} {x : Nat × LEnt} {r : List (Nat × LEnt)} {id : Int} (h : Off p id) (hx : x.2.id = id) : homeIn (p ++ x :: r) id = x.1 := by
  unfold homeIn
  rw [List.find?_append, find_off h]
  simp [hx]
theorem homeIn_flat {t : List LObj} {i k : Nat} {o : LObj} {e : LEnt} {id : Int} (ho : t[i]? = some o) (he : o.kids[k]? = some e) (h1 : Off (flat (t.take i)) id) (h2 : Off (tagged i (o.kids.take k)) id) (h : e.id = id) : homeIn (flat t) id = i := by
  obtain ⟨r, hr⟩ := flat_split ho
  obtain ⟨r', hr'⟩ := tagged_split (d := i) he
  rw [hr, hr', List.append_assoc, List.append_assoc, ← List.append_assoc (flat (t.take i)), List.cons_append]
  exact homeIn_at (off_append.2 ⟨h1, h2⟩) h
theorem off_next {es : List LEnt} {d k : Nat} {e : LEnt} {id : Int} (he : es[k]? = some e) (h : Off (tagged d (es.take k)) id) (hn : e.id ≠ id) : Off (tagged d (es.take (k + 1))) id := by
  rw [tagged_take he]
  exact off_append.2 ⟨h, off_one.2 hn⟩
theorem off_dir {t : List LObj} {i : Nat} {o : LObj} {id : Int} (ho : t[i]? = some o) (h1 : Off (flat (t.take i)) id) (h2 : Off (tagged i o.kids) id) : Off (flat (t.take (i + 1))) id := by
  rw [flat_take ho]
  exact off_append.2 ⟨h1, h2⟩

theorem ret_int {k : IntKind} {a b : Int} (h : a = b) : Ending.returned (.int k a) = .returned (.int k b) := by rw [h]

set_option maxHeartbeats 1000000 in
theorem l1Home_any (a : Option Addr) (n c : Nat) (os : List LObj) (L U : Nat) (id : Int) (w : World) (hU : U ≤ w.heap.size) (H : ObjsAt w L U a n os) :
    Calls Tryz.prog 195 #[.agg #[.slice a n c], .int .i64 id] w fun e w' => e = .returned (.int .i64 (homeIn (flat os) id)) ∧ w' = w.alloc (.cells #[.slice a n c] 26) := by
  have hbd := H.bd
  unfold maxLen at hbd
  have hB : Below w.heap.size w (w.alloc (.cells #[.slice a n c] 26)) := (Below.refl _ _).alloc (Nat.le_refl _) _
  go_enter Tryz.func195, Tryz.ntmps195
  go_wp2
  go_loopg [5] n (fun g i wr => ∃ j : Nat, j ≤ n ∧ Hid (g = n - j) ∧ i = .int .i64 j ∧ Hid (Off (flat (os.take j)) id) ∧ wr = w.alloc (.cells #[.slice a n c] 26))
  case atStart => exact ⟨0, Nat.zero_le _, by show _ = _; omega, rfl, off_nil id, rfl⟩
  case round =>
    obtain ⟨j, hj, hk, rfl, hq, rfl⟩ := hrel
    by_cases hlt : j < n
    · obtain ⟨b, off, ha, hL, hbU, hc⟩ := H.at_ (by omega)
      subst ha
      obtain ⟨o, ka, kn, kc, ho, hsz, hc0, hc1, hc2, hc3, hks⟩ := hc j hlt
      have HO : Hid (os[j]? = some o) := ho
      clear ho hc hc0 hc1 hc2
      have hbl : b < w.heap.size := by omega
      have hkb := hks.bd
      unfold maxLen at hkb
      have HKL : Hid (kn = o.kids.length) := hks.len
      go_wp2_with fail
      go_loopg [6] kn (fun g i wr => ∃ m : Nat, m ≤ kn ∧ Hid (g = kn - m) ∧ i = .int .i64 m ∧ Hid (Off (tagged j (o.kids.take m)) id) ∧ wr = w.alloc (.cells #[.slice (some ⟨b, off, none⟩) n c] 26))
      case atStart => exact ⟨0, Nat.zero_le _, by show _ = _; omega, rfl, off_nil id, rfl⟩
      case round =>
        obtain ⟨m, hm, hk2, rfl, hq2, rfl⟩ := hrel
        by_cases hlt2 : m < kn
        · obtain ⟨b2, off2, ha2, hL2, hbU2, hd⟩ := hks.at_ (by omega)
          subst ha2
          obtain ⟨e, he, hez, hd0, hd1⟩ := hd m hlt2
          have HE : Hid (o.kids[m]? = some e) := he
          clear he hd hd0
          have hbl2 : b2 < w.heap.size := by omega
          by_cases hid : e.id = id
          · have t1 : (e.id == id) = true := by simpa using hid
            have HI : Hid (e.id = id) := hid
            clear hid
            go_wp2_with fail
            go_ret
            exact ⟨ret_int (homeIn_flat HO.out HE.out hq.out hq2.out HI.out).symm, rfl⟩
          · have t1 : (e.id == id) = false := by simpa using hid
            have HI : Hid (e.id ≠ id) := hid
            clear hid
            go_wp2_with fail
            go_roundg (kn - (m + 1))
            case measure => have := hk2.out; omega
            case rel => exact ⟨m + 1, by omega, rfl, by go_num, off_next HE.out hq2.out HI.out, rfl⟩
        · go_wp2_with fail
          go_roundg (n - (j + 1))
          case measure => have := hk.out; omega
          case rel =>
            have h2 := hq2.out
            rw [List.take_of_length_le (by have := HKL.out; omega)] at h2
            exact ⟨j + 1, by omega, rfl, by go_num, off_dir HO.out hq.out h2, rfl⟩
    · go_wp2_with fail
      go_ret
      have h2 := hq.out
      rw [List.take_of_length_le (by have := H.len; omega)] at h2
      exact ⟨ret_int (homeIn_off h2).symm, rfl⟩

/-- So many steps up from an object, as long as it is above 0. -/
def climb (t : List LObj) : Nat → Int → Int
  | 0, id => id
  | k + 1, id => if 0 < id then climb t k (homeIn (flat t) id) else id
theorem climb_stop (t : List LObj) (k : Nat) {id : Int} (h : ¬ 0 < id) : climb t k id = id := by
  cases k with
  | zero => rfl
  | succ k => unfold climb; rw [if_neg h]
theorem climb_step (t : List LObj) (k : Nat) {id : Int} (h : 0 < id) : climb t (k + 1) id = climb t k (homeIn (flat t) id) := by
  rw [climb, if_pos h]
def topB (t : List LObj) (id : Int) : Bool := climb t 32 id == 0

set_option maxHeartbeats 1000000 in
theorem l1Top_any (a : Option Addr) (n c : Nat) (os : List LObj) (L U : Nat) (id : Int) (w : World) (hU : U ≤ w.heap.size) (H : ObjsAt w L U a n os) :
    Calls Tryz.prog 142 #[.agg #[.slice a n c], .int .i64 id] w fun e w' => e = .returned (.bool (topB os id)) ∧ Below w.heap.size w w' := by
  have hB : ∀ o1, Below w.heap.size w (w.alloc o1) := fun o1 => (Below.refl _ _).alloc (Nat.le_refl _) _
  go_enter Tryz.func142, Tryz.ntmps142
  go_wp2
  go_loopg [1, 5] 32 (fun g d i wr => ∃ j : Nat, j ≤ 32 ∧ Hid (g = 32 - j) ∧ i = .int .i64 j ∧ (∃ x : Int, d = .int .i64 x ∧ Hid (climb os 32 id = climb os (32 - j) x)) ∧ wr.cell? ⟨w.heap.size, 0, none⟩ = some (.slice a n c) ∧ w.heap.size < wr.heap.size ∧ Below w.heap.size w wr)
  case atStart => exact ⟨0, Nat.zero_le _, by show _ = _; omega, rfl, ⟨id, rfl, rfl⟩, by simp [go_sem], by simp, hB _⟩
  case round =>
    obtain ⟨j, hj, hk, rfl, ⟨x, rfl, hq⟩, hx, hz, hb⟩ := hrel
    by_cases hlt : j < 32
    · have hlt' : (j : Int) < 32 := by omega
      by_cases hx0 : 0 < x
      · go_wp2_with fail
        refine (l1Home_any _ _ _ _ L U _ _ (by have := hb.size; omega) (H.below hb hU)).mono ?_
        rintro y w1 ⟨rfl, rfl⟩
        go_wp2_with fail
        go_roundg (32 - (j + 1))
        case measure => have := hk.out; omega
        case rel =>
          have h1 := hq.out
          rw [show 32 - j = (32 - (j + 1)) + 1 by omega, climb_step _ _ hx0] at h1
          exact ⟨j + 1, by omega, rfl, by go_num, ⟨_, rfl, h1⟩, by rw [((Below.refl wr.heap.size wr).alloc (Nat.le_refl _) _).cell (by simpa using hz)]; exact hx, by simp; omega, hb.alloc hb.size _⟩
      · go_wp2_with fail
        go_ret
        have h1 := hq.out
        rw [climb_stop os (32 - j) (id := x) (by omega)] at h1
        exact ⟨ret_bool (by unfold topB; rw [h1]), hb⟩
    · have hlt' : ¬ (j : Int) < 32 := by omega
      go_wp2_with fail
      go_ret
      have h1 := hq.out
      rw [show 32 - j = 0 by omega] at h1
      have h2 : climb os 32 id = x := h1
      exact ⟨ret_bool (by unfold topB; rw [h2]), hb⟩

def cnt (p : List (Nat × LEnt)) (id : Int) : Nat := p.countP (fun x => x.2.id == id)
theorem cnt_append (p q : List (Nat × LEnt)) (id : Int) : cnt (p ++ q) id = cnt p id + cnt q id := by unfold cnt; rw [List.countP_append]
theorem cnt_one (x : Nat × LEnt) (id : Int) : cnt [x] id = if x.2.id = id then 1 else 0 := by
  unfold cnt; rw [List.countP_singleton]; simp
theorem cnt_le (p : List (Nat × LEnt)) (id : Int) : cnt p id ≤ p.length := List.countP_le_length
theorem flatFrom_len {M : Nat} : ∀ (d : Nat) (l : List LObj), (∀ o ∈ l, o.kids.length ≤ M) → (flatFrom d l).length ≤ l.length * M
  | _, [], _ => by simp [flatFrom]
  | d, o :: l, h => by
    have h1 := flatFrom_len (M := M) (d + 1) l (fun o' ho => h o' (List.mem_cons_of_mem _ ho))
    have h2 := h o (List.mem_cons_self ..)
    simp only [flatFrom, List.length_append, List.length_cons, tagged, List.length_map, Nat.succ_mul]
    omega
/-- All numbers that the names name are objects'. -/
def IdsIn (t : List LObj) : Prop := ∀ o ∈ t, ∀ e ∈ o.kids, 0 < e.id ∧ e.id < 32

theorem info3 : (Tryz.prog.info? 3).map (fun i => (i.zero.map (·.cells), i.size, i.bytes)) = some (some #[.int .i64 0], 1, 8) := by kernel_rfl

end Go.Proofs.YtloopeipheklpaaGreatDoor

/- How often each object is named: the contract of the specification. -/
namespace Go.Proofs.YtloopeipheklpaaGreatDoor
open Go.RowKit

def zs32 : Array Value := madeCells #[.int .i64 0] 32
theorem make32 (w : World) : (Instr.makeSlice 166 (.int .i64 32) (.int .i64 32)).run Tryz.prog w = .ok (.slice (some ⟨w.heap.size, 0, none⟩) 32 32) (w.alloc (.cells zs32 3)) := by
  have h := run_make_many 166 3 _ 1 8 Tryz.underlying166 info3 32 (by omega) (by omega) w
  have e : ((32 : Nat) : Int) = 32 := by omega
  rw [e] at h
  exact h

theorem cnt_snoc {es : List LEnt} {m : Nat} {e : LEnt} (h : es[m]? = some e) (p : List (Nat × LEnt)) (j : Nat) (i : Int) :
    cnt (p ++ tagged j (es.take (m + 1))) i = cnt (p ++ tagged j (es.take m)) i + if e.id = i then 1 else 0 := by
  rw [tagged_take h, ← List.append_assoc, cnt_append _ [(j, e)], cnt_one]

set_option maxHeartbeats 1000000 in
theorem l1Homes_any (a : Option Addr) (n c : Nat) (os : List LObj) (L U : Nat) (w : World) (hn : n ≤ 32) (hS : Sizes os 1048576) (hI : IdsIn os) (hU : U ≤ w.heap.size) (H : ObjsAt w L U a n os) :
    Calls Tryz.prog 141 #[.agg #[.slice a n c]] w fun e w' => (∃ b, e = .returned (.slice (some ⟨b, 0, none⟩) 32 32) ∧ w.heap.size ≤ b ∧ w'.rowIs b 3 32 (fun i => .int .i64 (cnt (flat os) i))) ∧ Below w.heap.size w w' := by
  have hmk := make32
  have hB : ∀ o1 o2, Below w.heap.size w ((w.alloc o1).alloc o2) := fun o1 o2 => ((Below.refl _ _).alloc (Nat.le_refl _) _).alloc (by simp) _
  have hrow : ((w.alloc (.cells #[.slice a n c] 26)).alloc (.cells zs32 3)).rowIs (w.heap.size + 1) 3 32 (fun i => .int .i64 (cnt (flat (os.take 0)) i)) := by
    have := World.rowIs_made (w.alloc (.cells #[.slice a n c] 26)) (.int .i64 0) 32 3
    simpa [flat, flatFrom, cnt, zs32] using this
  have HROW : Hid (((w.alloc (.cells #[.slice a n c] 26)).alloc (.cells zs32 3)).rowIs (w.heap.size + 1) 3 32 (fun i => .int .i64 (cnt (flat (os.take 0)) i))) := hrow
  clear hrow
  go_enter Tryz.func141, Tryz.ntmps141
  go_wp2
  go_loopg [4] n (fun g i wr => ∃ j : Nat, j ≤ n ∧ Hid (g = n - j) ∧ i = .int .i64 j ∧ Hid (wr.rowIs (w.heap.size + 1) 3 32 (fun i => .int .i64 (cnt (flat (os.take j)) i))) ∧ wr.cell? ⟨w.heap.size, 0, none⟩ = some (.slice a n c) ∧ Below w.heap.size w wr)
  case atStart => exact ⟨0, Nat.zero_le _, by show _ = _; omega, rfl, HROW.out, by simp [go_sem], hB _ _⟩
  case round =>
    obtain ⟨j, hj, hk, rfl, hq, hx, hb⟩ := hrel
    by_cases hlt : j < n
    · obtain ⟨b, off, ha, hL, hbU, hc⟩ := H.at_ (by omega)
      subst ha
      obtain ⟨o, ka, kn, kc, ho, hsz, hc0, hc1, hc2, hc3, hks⟩ := hc j hlt
      have hkn : kn ≤ 1048576 := by rw [hks.len]; exact hS o (List.mem_of_getElem? ho)
      have HO : Hid (os[j]? = some o) := ho
      clear ho hc hc0 hc1 hc2
      have HKL : Hid (kn = o.kids.length) := hks.len
      go_wp2_with fail
      go_loopg [5] kn (fun g i wi => ∃ m : Nat, m ≤ kn ∧ Hid (g = kn - m) ∧ i = .int .i64 m ∧ Hid (wi.rowIs (w.heap.size + 1) 3 32 (fun i => .int .i64 (cnt (flat (os.take j) ++ tagged j (o.kids.take m)) i))) ∧ wi.cell? ⟨w.heap.size, 0, none⟩ = some (.slice (some ⟨b, off, none⟩) n c) ∧ Below w.heap.size w wi)
      case atStart => exact ⟨0, Nat.zero_le _, by show _ = _; omega, rfl, by show World.rowIs _ _ _ _ _; simpa [tagged] using hq.out, hx, hb⟩
      case round =>
        clear hx hb hq
        obtain ⟨m, hm, hk2, rfl, hq2, hx, hb2⟩ := hrel
        rw [← hb2.cell (by simp; omega)] at hc3
        by_cases hlt2 : m < kn
        · obtain ⟨b2, off2, ha2, hL2, hbU2, hd⟩ := hks.at_ (by omega)
          subst ha2
          obtain ⟨e, he, hez, hd0, hd1⟩ := hd m hlt2
          obtain ⟨id, hid, hid0⟩ : ∃ id : Nat, e.id = id ∧ id < 32 := by
            have := hI o (List.mem_of_getElem? HO.out) e (List.mem_of_getElem? he)
            exact ⟨e.id.toNat, by omega, by omega⟩
          rw [hid] at hd1
          have HE : Hid (o.kids[m]? = some e ∧ e.id = id) := ⟨he, hid⟩
          clear he hd hd0 hid
          rw [← hb2.cell (by simp; omega)] at hd1
          have g0 := hq2.out.cell (i := id) hid0
          have z0 := hq2.out.frozen id
          have hcn : cnt (flat (os.take j) ++ tagged j (o.kids.take m)) id ≤ 40000000 := by
            have h1 := cnt_le (flat (os.take j) ++ tagged j (o.kids.take m)) id
            have h2 := flatFrom_len (M := 1048576) 0 (os.take j) (fun o' ho' => hS o' (List.mem_of_mem_take ho'))
            have h3 : (os.take j).length * 1048576 ≤ 32 * 1048576 := Nat.mul_le_mul_right _ (by simp; omega)
            have h4 : (tagged j (o.kids.take m)).length ≤ 1048576 := by simp [tagged]; have := HKL.out; omega
            rw [List.length_append] at h1
            unfold flat at h1 ⊢
            omega
          have hid1 : (0 : Int) ≤ (id : Int) := by omega
          have hid2 : (id : Int) < 32 := by omega
          have hlt' : (j : Int) < (n : Int) := by omega
          have hlt2' : (m : Int) < (kn : Int) := by omega
          generalize hC : cnt (flat (os.take j) ++ tagged j (o.kids.take m)) id = C at g0 hcn
          have HC : Hid (cnt (flat (os.take j) ++ tagged j (o.kids.take m)) id = C) := hC
          clear hC
          go_wp2_with fail
          go_region
          go_wp2_with fail
          go_roundg (kn - (m + 1))
          case measure => have := hk2.out; omega
          case rel =>
            refine ⟨m + 1, by omega, rfl, by go_num, ?_, ?_, ?_⟩
            · have h1 := (hq2.out.set id (.int .i64 (C + 1))).drew
              refine h1.congr fun i hi => ?_
              rw [cnt_snoc HE.out.1]
              by_cases hii : i = id
              · subst hii
                rw [if_pos rfl, if_pos HE.out.2, HC.out]
                simp
              · rw [if_neg hii, if_neg (by have := HE.out.2; show ¬ e.id = _; omega), Nat.add_zero]
            · show World.cell? _ _ = _
              rw [World.cell?_of_block (w := wr) (Below.heap_setCell wr _ _ w.heap.size (by simp))]
              exact hx
            · exact (hb2.setCell (by simp) _).drew
        · go_wp2_with fail
          go_roundg (n - (j + 1))
          case measure => have := hk.out; omega
          case rel =>
            refine ⟨j + 1, by omega, rfl, by go_num, ?_, hx, hb2⟩
            have h1 := hq2.out
            rw [List.take_of_length_le (l := o.kids) (i := m) (by have := HKL.out; omega)] at h1
            rw [flat_take HO.out]
            exact h1
    · go_wp2_with fail
      go_ret
      have h1 := hq.out
      rw [List.take_of_length_le (by have := H.len; omega)] at h1
      exact ⟨⟨w.heap.size + 1, rfl, by omega, h1⟩, hb⟩
end Go.Proofs.YtloopeipheklpaaGreatDoor
