import Derived.Test.YtnfegihemhidgaaOpSet
import Derived.Test.YtnfegihemhidgaaSlimS
import Derived.Test.YtnfegihemhidgaaWorn
/- Logs: the numbers that a list names, of the program and of the specification. -/
namespace Go.Proofs.Ytnfegihemhidgaa
open Go.RowKit

/-! The plain function. -/
def putAll (acc : List Nat) (l : List Nat) : List Nat := l.foldl (fun a x => putI x a) acc
def logIdsL (ops : List LOp) : List Nat := ops.foldl (fun a o => putAll a (opIds o)) []
def logIds (ops : List LOp) : List Nat := logIdsL (ops.take 60)
theorem putAll_snoc (acc l : List Nat) (x : Nat) : putAll acc (l ++ [x]) = putI x (putAll acc l) := by simp [putAll]
theorem mem_putAll (y : Nat) : ∀ l acc, y ∈ putAll acc l ↔ y ∈ acc ∨ y ∈ l
  | [], acc => by simp [putAll]
  | x :: l, acc => by
    show y ∈ putAll (putI x acc) l ↔ _
    rw [mem_putAll y l, mem_putI]
    constructor
    · rintro ((h | h) | h) <;> simp [h]
    · rintro (h | h)
      · exact .inl (.inr h)
      · simp at h; rcases h with h | h <;> simp [h]
theorem asc_putAll : ∀ l acc, AscI acc → AscI (putAll acc l)
  | [], _, h => h
  | x :: l, acc, h => asc_putAll l _ (ascI_putI x acc h)
theorem mem_logIdsL (y : Nat) : ∀ (ops : List LOp) acc, y ∈ ops.foldl (fun a o => putAll a (opIds o)) acc ↔ y ∈ acc ∨ ∃ o ∈ ops, y ∈ opIds o
  | [], acc => by simp
  | o :: ops, acc => by
    rw [List.foldl_cons, mem_logIdsL y ops, mem_putAll]
    constructor
    · rintro ((h | h) | ⟨o', h1, h2⟩)
      · exact .inl h
      · exact .inr ⟨o, by simp, h⟩
      · exact .inr ⟨o', by simp [h1], h2⟩
    · rintro (h | ⟨o', h1, h2⟩)
      · exact .inl (.inl h)
      · simp at h1
        rcases h1 with rfl | h1
        · exact .inl (.inr h2)
        · exact .inr ⟨o', h1, h2⟩
theorem asc_logIdsL : ∀ (ops : List LOp) acc, AscI acc → AscI (ops.foldl (fun a o => putAll a (opIds o)) acc)
  | [], _, h => h
  | _ :: ops, _, h => asc_logIdsL ops _ (asc_putAll _ _ h)
/-- Which numbers the set holds behind a list. -/
def inAll (ops : List LOp) (m : Nat) : Bool := ops.any fun o => opOk o && inSet o.kind o.id.toNat o.dir.toNat o.dir2.toNat m
theorem mem_opIds {o : LOp} {m : Nat} (hm : m < 32) : m ∈ opIds o ↔ (opOk o && inSet o.kind o.id.toNat o.dir.toNat o.dir2.toNat m) = true := by
  rcases h : opOk o with _ | _
  · simp [opIds, h]
  · rw [opIds_set h]; simp [setL, hm]
theorem logIdsL_set (ops : List LOp) : logIdsL ops = setL (inAll ops) 32 := by
  refine ascI_ext (asc_logIdsL ops [] (by simp [AscI])) (ascI_filter_range _ _) fun x => ?_
  unfold logIdsL
  rw [mem_logIdsL]
  by_cases hx : x < 32
  · simp [setL, hx, inAll]
    constructor
    · rintro ⟨o, h1, h2⟩
      exact ⟨o, h1, by simpa using (mem_opIds hx).1 h2⟩
    · rintro ⟨o, h1, h2⟩
      exact ⟨o, h1, (mem_opIds hx).2 (by simpa using h2)⟩
  · simp [setL, hx]
    intro o _ h
    exact hx (opIds_bd o x h)
theorem logIdsL_snoc (ops : List LOp) (o : LOp) : logIdsL (ops ++ [o]) = putAll (logIdsL ops) (opIds o) := by simp [logIdsL]
theorem logIdsL_le (ops : List LOp) : (logIdsL ops).length ≤ 32 := by rw [logIdsL_set]; exact setL_le _ _
theorem logIds_le (ops : List LOp) : (logIds ops).length ≤ 32 := logIdsL_le _
theorem logIds_bd (ops : List LOp) : ∀ i ∈ logIds ops, i < 32 := by
  intro i hi; unfold logIds at hi; rw [logIdsL_set] at hi; simp [setL] at hi; exact hi.1
theorem inAll_snoc (ops : List LOp) (o : LOp) (m : Nat) : inAll (ops ++ [o]) m = (inAll ops m || (opOk o && inSet o.kind o.id.toNat o.dir.toNat o.dir2.toNat m)) := by simp [inAll]
theorem putAll_le : ∀ l acc, (putAll acc l).length ≤ acc.length + l.length
  | [], acc => by simp [putAll]
  | x :: l, acc => by
    have h1 := putAll_le l (putI x acc)
    have h2 := putI_le x acc
    show (putAll (putI x acc) l).length ≤ _
    simp; omega
theorem take_snocX {α : Type} {l : List α} {j : Nat} {x : α} (h : l[j]? = some x) : l.take (j + 1) = l.take j ++ [x] := by
  have hj : j < l.length := (List.getElem?_eq_some_iff.1 h).1
  rw [List.take_succ_eq_append_getElem hj, (List.getElem?_eq_some_iff.1 h).2]

/-! The program's set grows. -/
def AddEndS (b i j l : Nat) (k : Int) (s : Nat → Bool) (w : World) (e : Ending) (w' : World) : Prop :=
  e = .returned (.tuple #[]) ∧ w'.rowIs b 133 32 (fun m => .bool (s m || inSet k i j l m)) ∧ But b w w'
set_option maxHeartbeats 1000000 in
set_option maxRecDepth 20000 in
theorem addOf_set (b i j l : Nat) (k : Int) (s : Nat → Bool) (nm nm2 tx : ByteArray) (w : World) (hi : i < 32) (hj : j < 32) (hl : l < 32) (hrow : w.rowIs b 133 32 (fun m => .bool (s m))) :
    Calls Try.prog 100 #[.pointer (some ⟨b, 0, none⟩), .agg #[.int .i64 k, .int .i64 j, .string nm, .int .i64 l, .string nm2, .int .i64 i, .string tx]] w fun e w' => AddEndS b i j l k s w e w' := by
  have hbw : b < w.heap.size := hrow.lt
  have hi' : (i : Int) < 32 := by omega
  have hj' : (j : Int) < 32 := by omega
  have hl' : (l : Int) < 32 := by omega
  have g1 : w.cell? ⟨b, i, none⟩ = some (.bool (s i)) := hrow.cell hi
  have f1 : w.frozen? ⟨b, i, none⟩ = false := hrow.frozen i
  have HR : Hid (w.rowIs b 133 32 (fun m => .bool (s m))) := hrow
  clear hrow
  go_enter Try.func100, Try.ntmps100
  go_upto_region 2 with fail
  go_cut [4] (fun x wx => x = .int .i64 k ∧ Hid (wx.rowIs b 133 32 (fun m => .bool (s m || m == i))) ∧ Hid (But b w wx) ∧ w.heap.size < wx.heap.size ∧ wx.cell? ⟨w.heap.size, 1, none⟩ = some (.int .i64 j) ∧ wx.cell? ⟨w.heap.size, 3, none⟩ = some (.int .i64 l))
  case first =>
    go_region
    all_goals
      go_wp2_with fail
      go_meet
      refine ⟨rfl, ?_, ?_, by simp, by simp [go_sem], by simp [go_sem]⟩
      · show World.rowIs _ b 133 32 _
        exact ((row_add HR.out (s' := fun m => s m || m == i) (fun m => rfl)).alloc _).drew
      · exact ((But.refl b w).set i (.bool true)).next (by simp; omega) ((Below.refl _ _).alloc (Nat.le_refl _) _).drew
  obtain ⟨rfl, hr1, hb1, hz1, c1, c3⟩ := hcut
  have hbx : b < wc.heap.size := by omega
  by_cases k5 : k = 5
  · subst k5
    go_wp2_with (first | (go_at_call 106; refine (inDir_any _ _).mono ?_; rintro e w' ⟨rfl, rfl⟩) | (go_at_call 107; refine (moves_any _ _).mono ?_; rintro e w' ⟨rfl, rfl⟩))
    go_end0
    exact ⟨rfl, hr1.out.congr fun m _ => by simp [inSet], hb1.out⟩
  have t5 : (k != 5) = true := by simpa using k5
  have g2 : wc.cell? ⟨b, j, none⟩ = some (.bool (s j || j == i)) := hr1.out.cell hj
  have f2 : wc.frozen? ⟨b, j, none⟩ = false := hr1.out.frozen j
  have hc3 : ∀ v, (wc.setCell ⟨b, j, none⟩ v).cell? ⟨w.heap.size, 3, none⟩ = some (.int .i64 l) := fun v => by rw [World.cell?_setCell_other _ _ _ _ (by simp <;> omega)]; exact c3
  have hr2 := row_add hr1.out (i := j) (s' := fun m => (s m || m == i) || m == j) (fun m => rfl)
  have g3 : (wc.setCell ⟨b, j, none⟩ (.bool true)).cell? ⟨b, l, none⟩ = some (.bool ((s l || l == i) || l == j)) := hr2.cell hl
  have f3 : (wc.setCell ⟨b, j, none⟩ (.bool true)).frozen? ⟨b, l, none⟩ = false := hr2.frozen l
  have g4 := hc3 (.bool true)
  have HR2 : Hid ((wc.setCell ⟨b, j, none⟩ (.bool true)).rowIs b 133 32 (fun m => .bool ((s m || m == i) || m == j))) := hr2
  clear hr2 hc3
  by_cases k4 : k = 4
  · subst k4
    go_wp2_with (go_at_call 106; refine (inDir_any _ _).mono ?_; rintro e w' ⟨rfl, rfl⟩)
    go_region
    all_goals
      go_wp2_with (go_at_call 107; refine (moves_any _ _).mono ?_; rintro e w9 ⟨rfl, rfl⟩)
      go_region
      all_goals
        go_wp2_with fail
        go_end0
        exact ⟨rfl, (row_add HR2.out (i := l) (s' := fun m => s m || inSet 4 i j l m) (fun m => by simp [inSet, Bool.or_assoc])).drew.drew, ((hb1.out.set j (.bool true)).set l (.bool true)).next (by simp; omega) (Below.refl _ _).drew.drew⟩
  · have t4 : (k == 4) = false := by simpa using k4
    go_wp2_with (go_at_call 106; refine (inDir_any _ _).mono ?_; rintro e w' ⟨rfl, rfl⟩)
    go_region
    all_goals
      go_wp2_with (go_at_call 107; refine (moves_any _ _).mono ?_; rintro e w9 ⟨rfl, rfl⟩)
      go_end0
      exact ⟨rfl, HR2.out.drew.congr fun m _ => by simp [inSet, t5, t4, Bool.or_assoc], (hb1.out.set j (.bool true)).next (by simp; omega) (Below.refl _ _).drew⟩

theorem min60 (n : Nat) : min (n : Int) 60 = ((min n 60 : Nat) : Int) := by omega

set_option maxHeartbeats 1000000 in
set_option maxRecDepth 20000 in
theorem implLogIds (a : Option Addr) (n c : Nat) (ops : List LOp) (L U : Nat) (w : World) (hU : U ≤ w.heap.size) (hnc : n ≤ c) (hc : c ≤ maxLen) (H : OpsAt w L U a n ops) :
    Calls Try.prog 89 #[.slice a n c] w fun e w' => (∃ v, e = .returned v ∧ Hid (OwnInts w' w.heap.size v (logIds ops))) ∧ Below w.heap.size w w' := by
  have hbd := H.bd
  unfold maxLen at hbd hc
  by_cases h60 : (n : Int) ≤ 60
  · have HLI : Hid (logIds ops = setL (inAll (ops.take n)) 32) := by
      show _ = _
      unfold logIds
      rw [logIdsL_set, List.take_of_length_le (l := ops) (i := 60) (by have := H.len; omega), List.take_of_length_le (l := ops) (i := n) (by have := H.len; omega)]
    go_enter Try.func89, Try.ntmps89
    go_wp2_with fail
    go_loopg [12] n (fun g k wr => ∃ j : Nat, j ≤ n ∧ Hid (g = n - j) ∧ k = .int .i64 j ∧ Hid (wr.rowIs w.heap.size 133 32 (fun m => .bool (inAll (ops.take j) m))) ∧ Below w.heap.size w wr)
    case atStart => exact ⟨0, Nat.zero_le _, rfl, rfl, by show World.rowIs _ _ _ _ _; simpa [inAll] using row_zero w, (Below.refl _ _).alloc (Nat.le_refl _) _⟩
    case round =>
      obtain ⟨j, hj, hk, rfl, hrow, hb⟩ := hrel
      have hzz := hb.size
      have hrl := hrow.out.lt
      by_cases hlt : j < n
      · obtain ⟨b, off, ha, hL, hbU, hce⟩ := H.at_ (by omega)
        subst ha
        obtain ⟨x, he, hsz, hat⟩ := hce j (by omega)
        obtain ⟨u0, u1, u2, u3, u4, u5, u6⟩ := hat.of_block (hb.block b (by omega))
        have hlt' : (j : Int) < (n : Int) := by omega
        have HS : Hid (ops.take (j + 1) = ops.take j ++ [x]) := take_snocX he
        have HOK := fun w => implOpOk x w hsz
        have HSZ : Hid (OpSz x) := hsz
        clear he hce hat hsz
        rcases hx : opOk x with _ | _
        · simp only [LOp.val] at HOK
          go_wp2_with fail
          refine (HOK _).mono ?_
          rintro e w1 ⟨rfl, hb1⟩
          rw [hx]
          have hbb : Below w.heap.size w w1 := (hb.alloc hb.size _).trans (hb1.mono (by simp; omega))
          go_wp2_with fail
          go_roundg (n - (j + 1))
          case measure => have := hk.out; omega
          case rel =>
            refine ⟨j + 1, by omega, rfl, by go_num, ?_, hbb⟩
            show World.rowIs _ _ _ _ _
            refine ((hrow.out.alloc _).of_block (hb1.block _ (by simp; omega))).congr fun m _ => ?_
            rw [HS.out, inAll_snoc, hx]; simp
        · have b1 := opOk_id hx
          have b2 := opOk_dir hx
          have b3 := opOk_dir2 hx
          have HX : Hid (opOk x = true) := hx
          clear hx
          obtain ⟨kd, d, nm, d2, nm2, id, tx⟩ := x
          simp only [LOp.val] at HOK
          simp only at b1 b2 b3 u0 u1 u2 u3 u4 u5 u6
          obtain ⟨xi, rfl⟩ : ∃ i : Nat, id = i := ⟨id.toNat, by omega⟩
          obtain ⟨xj, rfl⟩ : ∃ i : Nat, d = i := ⟨d.toNat, by omega⟩
          obtain ⟨xl, rfl⟩ : ∃ i : Nat, d2 = i := ⟨d2.toNat, by omega⟩
          have hi : xi < 32 := by omega
          have hj' : xj < 32 := by omega
          have hl : xl < 32 := by omega
          go_wp2_with fail
          refine (HOK _).mono ?_
          rintro e w1 ⟨rfl, hb1⟩
          rw [HX.out]
          have hbb : Below w.heap.size w w1 := (hb.alloc hb.size _).trans (hb1.mono (by simp; omega))
          have e0 : w1.cell? ⟨wr.heap.size, 0, none⟩ = some (.int .i64 kd) := by rw [hb1.cell (by simp)]; simp [go_sem]
          have e1 : w1.cell? ⟨wr.heap.size, 1, none⟩ = some (.int .i64 xj) := by rw [hb1.cell (by simp)]; simp [go_sem]
          have e2 : w1.cell? ⟨wr.heap.size, 2, none⟩ = some (.string nm) := by rw [hb1.cell (by simp)]; simp [go_sem]
          have e3 : w1.cell? ⟨wr.heap.size, 3, none⟩ = some (.int .i64 xl) := by rw [hb1.cell (by simp)]; simp [go_sem]
          have e4 : w1.cell? ⟨wr.heap.size, 4, none⟩ = some (.string nm2) := by rw [hb1.cell (by simp)]; simp [go_sem]
          have e5 : w1.cell? ⟨wr.heap.size, 5, none⟩ = some (.int .i64 xi) := by rw [hb1.cell (by simp)]; simp [go_sem]
          have e6 : w1.cell? ⟨wr.heap.size, 6, none⟩ = some (.string tx) := by rw [hb1.cell (by simp)]; simp [go_sem]
          have hr1 : Hid (w1.rowIs w.heap.size 133 32 (fun m => .bool (inAll (ops.take j) m))) := (hrow.out.alloc _).of_block (hb1.block _ (by simp; omega))
          clear u0 u1 u2 u3 u4 u5 u6
          go_wp2_with fail
          refine (addOf_set _ xi xj xl _ _ _ _ _ _ hi hj' hl hr1.out).mono ?_
          rintro e w2 ⟨rfl, hr2, hb2⟩
          have HR2 := hr2
          have hbc : Below w.heap.size w w2 := hbb.trans hb2.below
          clear hr2
          go_wp2_with fail
          go_roundg (n - (j + 1))
          case measure => have := hk.out; omega
          case rel =>
            refine ⟨j + 1, by omega, rfl, by go_num, ?_, hbc⟩
            show World.rowIs _ _ _ _ _
            refine HR2.congr fun m _ => ?_
            rw [HS.out, inAll_snoc, HX.out]; simp
      · obtain rfl : j = n := by omega
        go_wp2_with fail
        refine (list_any _ _ _ hrow.out).mono ?_
        rintro e w3 ⟨⟨v, rfl, hv⟩, hb4⟩
        go_wp2_with fail
        go_ret
        exact ⟨⟨_, rfl, by show OwnInts _ _ _ _; rw [HLI.out]; exact hv.out.mono (by omega)⟩, hb.trans (hb4.mono (by omega))⟩
  · have HLI : Hid (logIds ops = setL (inAll (ops.take 60)) 32) := by
      show _ = _
      unfold logIds
      rw [logIdsL_set]
    have h60' : ¬ n ≤ 60 := by omega
    go_enter Try.func89, Try.ntmps89
    go_wp2_with fail
    go_loopg [12] 60 (fun g k wr => ∃ j : Nat, j ≤ 60 ∧ Hid (g = 60 - j) ∧ k = .int .i64 j ∧ Hid (wr.rowIs w.heap.size 133 32 (fun m => .bool (inAll (ops.take j) m))) ∧ Below w.heap.size w wr)
    case atStart => exact ⟨0, Nat.zero_le _, rfl, rfl, by show World.rowIs _ _ _ _ _; simpa [inAll] using row_zero w, (Below.refl _ _).alloc (Nat.le_refl _) _⟩
    case round =>
      obtain ⟨j, hj, hk, rfl, hrow, hb⟩ := hrel
      have hzz := hb.size
      have hrl := hrow.out.lt
      by_cases hlt : j < 60
      · obtain ⟨b, off, ha, hL, hbU, hce⟩ := H.at_ (by omega)
        subst ha
        obtain ⟨x, he, hsz, hat⟩ := hce j (by omega)
        obtain ⟨u0, u1, u2, u3, u4, u5, u6⟩ := hat.of_block (hb.block b (by omega))
        have hlt' : (j : Int) < 60 := by omega
        have HS : Hid (ops.take (j + 1) = ops.take j ++ [x]) := take_snocX he
        have HOK := fun w => implOpOk x w hsz
        have HSZ : Hid (OpSz x) := hsz
        clear he hce hat hsz
        rcases hx : opOk x with _ | _
        · simp only [LOp.val] at HOK
          go_wp2_with fail
          refine (HOK _).mono ?_
          rintro e w1 ⟨rfl, hb1⟩
          rw [hx]
          have hbb : Below w.heap.size w w1 := (hb.alloc hb.size _).trans (hb1.mono (by simp; omega))
          go_wp2_with fail
          go_roundg (60 - (j + 1))
          case measure => have := hk.out; omega
          case rel =>
            refine ⟨j + 1, by omega, rfl, by go_num, ?_, hbb⟩
            show World.rowIs _ _ _ _ _
            refine ((hrow.out.alloc _).of_block (hb1.block _ (by simp; omega))).congr fun m _ => ?_
            rw [HS.out, inAll_snoc, hx]; simp
        · have b1 := opOk_id hx
          have b2 := opOk_dir hx
          have b3 := opOk_dir2 hx
          have HX : Hid (opOk x = true) := hx
          clear hx
          obtain ⟨kd, d, nm, d2, nm2, id, tx⟩ := x
          simp only [LOp.val] at HOK
          simp only at b1 b2 b3 u0 u1 u2 u3 u4 u5 u6
          obtain ⟨xi, rfl⟩ : ∃ i : Nat, id = i := ⟨id.toNat, by omega⟩
          obtain ⟨xj, rfl⟩ : ∃ i : Nat, d = i := ⟨d.toNat, by omega⟩
          obtain ⟨xl, rfl⟩ : ∃ i : Nat, d2 = i := ⟨d2.toNat, by omega⟩
          have hi : xi < 32 := by omega
          have hj' : xj < 32 := by omega
          have hl : xl < 32 := by omega
          go_wp2_with fail
          refine (HOK _).mono ?_
          rintro e w1 ⟨rfl, hb1⟩
          rw [HX.out]
          have hbb : Below w.heap.size w w1 := (hb.alloc hb.size _).trans (hb1.mono (by simp; omega))
          have e0 : w1.cell? ⟨wr.heap.size, 0, none⟩ = some (.int .i64 kd) := by rw [hb1.cell (by simp)]; simp [go_sem]
          have e1 : w1.cell? ⟨wr.heap.size, 1, none⟩ = some (.int .i64 xj) := by rw [hb1.cell (by simp)]; simp [go_sem]
          have e2 : w1.cell? ⟨wr.heap.size, 2, none⟩ = some (.string nm) := by rw [hb1.cell (by simp)]; simp [go_sem]
          have e3 : w1.cell? ⟨wr.heap.size, 3, none⟩ = some (.int .i64 xl) := by rw [hb1.cell (by simp)]; simp [go_sem]
          have e4 : w1.cell? ⟨wr.heap.size, 4, none⟩ = some (.string nm2) := by rw [hb1.cell (by simp)]; simp [go_sem]
          have e5 : w1.cell? ⟨wr.heap.size, 5, none⟩ = some (.int .i64 xi) := by rw [hb1.cell (by simp)]; simp [go_sem]
          have e6 : w1.cell? ⟨wr.heap.size, 6, none⟩ = some (.string tx) := by rw [hb1.cell (by simp)]; simp [go_sem]
          have hr1 : Hid (w1.rowIs w.heap.size 133 32 (fun m => .bool (inAll (ops.take j) m))) := (hrow.out.alloc _).of_block (hb1.block _ (by simp; omega))
          clear u0 u1 u2 u3 u4 u5 u6
          go_wp2_with fail
          refine (addOf_set _ xi xj xl _ _ _ _ _ _ hi hj' hl hr1.out).mono ?_
          rintro e w2 ⟨rfl, hr2, hb2⟩
          have HR2 := hr2
          have hbc : Below w.heap.size w w2 := hbb.trans hb2.below
          clear hr2
          go_wp2_with fail
          go_roundg (60 - (j + 1))
          case measure => have := hk.out; omega
          case rel =>
            refine ⟨j + 1, by omega, rfl, by go_num, ?_, hbc⟩
            show World.rowIs _ _ _ _ _
            refine HR2.congr fun m _ => ?_
            rw [HS.out, inAll_snoc, HX.out]; simp
      · obtain rfl : j = 60 := by omega
        go_wp2_with fail
        refine (list_any _ _ _ hrow.out).mono ?_
        rintro e w3 ⟨⟨v, rfl, hv⟩, hb4⟩
        go_wp2_with fail
        go_ret
        exact ⟨⟨_, rfl, by show OwnInts _ _ _ _; rw [HLI.out]; exact hv.out.mono (by omega)⟩, hb.trans (hb4.mono (by omega))⟩
end Go.Proofs.Ytnfegihemhidgaa

/- Logs: the numbers that a list names, of the specification. -/
namespace Go.Proofs.Ytnfegihemhidgaa
open Go.RowKit

theorem OwnInts.keep {w w' : World} {B g n cap : Nat} {l : List Nat} (h : OwnInts w B (.slice (some ⟨g, 0, none⟩) n cap) l) (hb : w'.heap[g]? = w.heap[g]?) : OwnInts w' B (.slice (some ⟨g, 0, none⟩) n cap) l := by
  rcases h with ⟨h0, h1⟩
  refine ⟨h0, ?_⟩
  rcases h1 with ⟨e, _⟩ | ⟨g', cap', cur, e, h2, h3, h4⟩
  · cases e
  · cases e
    exact .inr ⟨g, cap, cur, rfl, h2, by rw [hb]; exact h3, h4⟩
/-- What the inner round holds of the numbers of one. -/
def LogIdsIn (w : World) (C g : Nat) (a : Option Addr) (ids : List Nat) : Prop := ∀ i, i < ids.length → ∃ q k, a = some ⟨q, 0, none⟩ ∧ C ≤ q ∧ q < w.heap.size ∧ q ≠ g ∧ ids[i]? = some k ∧ w.cell? ⟨q, i, none⟩ = some (.int .i64 (k : Nat))

set_option maxHeartbeats 1000000 in
set_option maxRecDepth 20000 in
theorem specLogIds (a : Option Addr) (n c : Nat) (ops : List LOp) (L U : Nat) (w : World) (hU : U ≤ w.heap.size) (H : OpsAt w L U a n ops) :
    Calls Try.prog 37 #[.slice a n c] w fun e w' => (∃ v, e = .returned v ∧ Hid (OwnInts w' w.heap.size v (logIds ops))) ∧ Below w.heap.size w w' := by
  have hbd := H.bd
  have hlen : Hid (n = ops.length) := H.len
  unfold maxLen at hbd
  go_enter Try.func37, Try.ntmps37
  go_wp2_with fail
  go_loopg [3, 4] n (fun gg v i wr => ∃ j : Nat, j ≤ n ∧ j ≤ 60 ∧ Hid (gg = n - j) ∧ i = .int .i64 j ∧ (∃ g m cap, v = .slice (some ⟨g, 0, none⟩) m cap ∧ w.heap.size ≤ g ∧ g < wr.heap.size ∧ Hid (m = (logIdsL (ops.take j)).length) ∧ Hid (OwnInts wr w.heap.size (.slice (some ⟨g, 0, none⟩) m cap) (logIdsL (ops.take j)))) ∧ Below w.heap.size w wr)
  case atStart => exact ⟨0, Nat.zero_le _, by omega, rfl, rfl, ⟨_, _, _, rfl, Nat.le_refl _, by simp, rfl, OwnInts.empty _ _ _ rfl (Nat.le_refl _)⟩, (Below.refl _ _).alloc (Nat.le_refl _) _⟩
  case round =>
    obtain ⟨j, hj, hj6, hk, rfl, ⟨g, m, cap, rfl, hg1, hg2, hm, hown⟩, hb⟩ := hrel
    have hzz := hb.size
    by_cases hlt : j < n
    · by_cases hlt6 : j < 60
      · obtain ⟨b, off, ha, hL, hbU, hce⟩ := H.at_ (by omega)
        subst ha
        obtain ⟨x, he, hsz, hat⟩ := hce j (by omega)
        obtain ⟨u0, u1, u2, u3, u4, u5, u6⟩ := hat.of_block (hb.block b (by omega))
        have hlt' : (j : Int) < (n : Int) := by omega
        have hlt6' : (j : Int) < 60 := by omega
        have HS : Hid (logIdsL (ops.take (j + 1)) = putAll (logIdsL (ops.take j)) (opIds x)) := by show _ = _; rw [take_snocX he, logIdsL_snoc]
        have HID := fun w => opIds_any x w hsz.name hsz.name2 hsz.text
        simp only [LOp.val] at HID
        clear he hce hat hsz
        go_wp2_with fail
        refine (HID _).mono ?_
        rintro e w1 ⟨⟨v5, rfl, hv5⟩, hb1⟩
        have hz1 := hb1.size
        obtain ⟨a5, c5, rfl, h5⟩ := hv5.out.form
        have hle5 := opIds_le x
        obtain ⟨C, hC⟩ : ∃ C, C = wr.heap.size := ⟨_, rfl⟩
        have HI : Hid (LogIdsIn w1 C g a5 (opIds x)) := fun i hi => by
          obtain ⟨q, k, e1, e2, e3, e4, e5⟩ := h5 i hi
          exact ⟨q, k, e1, by omega, e3, by omega, e4, e5⟩
        have hownA : Hid (OwnInts w1 w.heap.size (.slice (some ⟨g, 0, none⟩) m cap) (logIdsL (ops.take j))) := hown.out.keep (hb1.block g hg2)
        have hbA : Below w.heap.size w w1 := hb.trans (hb1.mono hb.size)
        generalize hn5 : (opIds x).length = n5 at *
        clear h5 hv5 HID u0 u1 u2 u3 u4 u5 u6
        go_wp2_with fail
        go_loopg [3, 6] n5 (fun gg v i wi => ∃ k : Nat, k ≤ n5 ∧ Hid (gg = n5 - k) ∧ i = .int .i64 k ∧ (∃ g m cap, v = .slice (some ⟨g, 0, none⟩) m cap ∧ w.heap.size ≤ g ∧ g < wi.heap.size ∧ Hid (m = (putAll (logIdsL (ops.take j)) ((opIds x).take k)).length) ∧ Hid (OwnInts wi w.heap.size (.slice (some ⟨g, 0, none⟩) m cap) (putAll (logIdsL (ops.take j)) ((opIds x).take k))) ∧ Hid (LogIdsIn wi C g a5 (opIds x))) ∧ Below w.heap.size w wi ∧ C ≤ wi.heap.size)
        case atStart => exact ⟨0, Nat.zero_le _, rfl, rfl, ⟨_, _, _, rfl, hg1, by omega, hm.out, hownA.out, HI⟩, hbA, by omega⟩
        case round =>
          clear hownA HI hb1 hm hown
          obtain ⟨k, hk5, hkk, rfl, ⟨g, m, cap, rfl, hg1, hg2, hm, hown, HI⟩, hbi, hzi⟩ := hrel
          by_cases hl5 : k < n5
          · obtain ⟨q, y, rfl, hq1, hq2, hq3, hq4, hq5⟩ := HI.out k (by omega)
            have hl5' : (k : Int) < (n5 : Int) := by omega
            have HT : Hid (putAll (logIdsL (ops.take j)) ((opIds x).take (k + 1)) = putI y (putAll (logIdsL (ops.take j)) ((opIds x).take k))) := by show _ = _; rw [take_snocX hq4, putAll_snoc]
            have hm32 : m ≤ 1000000 := by
              rw [hm.out]
              have h1 := putAll_le ((opIds x).take k) (logIdsL (ops.take j))
              have h2 := logIdsL_le (ops.take j)
              have h3 : ((opIds x).take k).length ≤ k := by simp; omega
              omega
            clear hq4
            go_wp2_with fail
            refine (putI_anyF w.heap.size g cap m y _ _ hm.out hm32 hbi.size hown.out).mono ?_
            rintro e w2 hp
            have hbl : Below w.heap.size w w2 := below_put hbi hp.plain hg1 hbi.size
            obtain ⟨g', m', cap', rfl, hm', hown', hgr, hfr⟩ := hp
            have hg1' : w.heap.size ≤ g' := (World.ownsRow.lt hown' g' rfl).1
            have hg2' : g' < w2.heap.size := (World.ownsRow.lt hown' g' rfl).2
            have HM : Hid (m' = (putAll (logIdsL (ops.take j)) ((opIds x).take (k + 1))).length) := by show _ = _; rw [HT.out]; exact hm'
            have HO : Hid (OwnInts w2 w.heap.size (.slice (some ⟨g', 0, none⟩) m' cap') (putAll (logIdsL (ops.take j)) ((opIds x).take (k + 1)))) := by show OwnInts _ _ _ _; rw [HT.out]; exact hown'
            have hz2 := hgr.size
            have HI2 : Hid (LogIdsIn w2 C g' (some ⟨q, 0, none⟩) (opIds x)) := fun i hi => by
              obtain ⟨q', y', e1, e2, e3, e4, e5, e6⟩ := HI.out i hi
              cases e1
              refine ⟨q, y', rfl, e2, by omega, by rcases hfr with h | h <;> omega, e5, ?_⟩
              rw [hgr.cell_far _ (by simpa using e3) (by simpa using e4)]
              exact e6
            clear hm' hown' hgr hfr
            go_wp2_with fail
            go_roundg (n5 - (k + 1))
            case measure => have := hkk.out; omega
            case rel => exact ⟨k + 1, by omega, rfl, by go_num, ⟨g', m', cap', rfl, hg1', hg2', HM.out, HO.out, HI2.out⟩, hbl, by omega⟩
          · have HE : Hid ((opIds x).take k = opIds x) := by show _ = _; rw [List.take_of_length_le (by omega)]
            have HM : Hid (m = (logIdsL (ops.take (j + 1))).length) := by show _ = _; rw [HS.out, ← HE.out]; exact hm.out
            have HO : Hid (OwnInts wr w.heap.size (.slice (some ⟨g, 0, none⟩) m cap) (logIdsL (ops.take (j + 1)))) := by show OwnInts _ _ _ _; rw [HS.out, ← HE.out]; exact hown.out
            clear hm hown HI
            go_wp2_with fail
            go_roundg (n - (j + 1))
            case measure => have := hk.out; omega
            case rel => exact ⟨j + 1, by omega, by omega, rfl, by go_num, ⟨g, m, cap, rfl, hg1, hg2, HM.out, HO.out⟩, hbi⟩
      · obtain rfl : j = 60 := by omega
        have hlt' : (60 : Int) < (n : Int) := by omega
        go_wp2_with fail
        go_ret
        exact ⟨⟨_, rfl, hown.out⟩, hb⟩
    · have HE : Hid (logIdsL (ops.take j) = logIds ops) := by show _ = _; unfold logIds; rw [List.take_of_length_le (l := ops) (i := j) (by have := hlen.out; omega), List.take_of_length_le (l := ops) (i := 60) (by have := hlen.out; omega)]
      have hlt' : ¬ (j : Int) < (n : Int) := by omega
      go_wp2_with fail
      go_ret
      exact ⟨⟨_, rfl, by show OwnInts _ _ _ _; rw [← HE.out]; exact hown.out⟩, hb⟩
end Go.Proofs.Ytnfegihemhidgaa
