/- Lists of what is done: in memory, their sizes, their copies, compared. -/
import Derived.Test.YtjenldenggaljaaOpImpl
namespace Go.Proofs.Ytjenldenggaljaa
open Go.RowKit Go.ChangeShapes Go.WideShapes

structure OpAt (w : World) (b k : Nat) (o : LOp) : Prop where
  c0 : w.cell? ⟨b, k, none⟩ = some (.int .i64 o.kind)
  c1 : w.cell? ⟨b, k + 1, none⟩ = some (.int .i64 o.dir)
  c2 : w.cell? ⟨b, k + 2, none⟩ = some (.string o.name)
  c3 : w.cell? ⟨b, k + 3, none⟩ = some (.int .i64 o.dir2)
  c4 : w.cell? ⟨b, k + 4, none⟩ = some (.string o.name2)
  c5 : w.cell? ⟨b, k + 5, none⟩ = some (.int .i64 o.id)
  c6 : w.cell? ⟨b, k + 6, none⟩ = some (.string o.text)
theorem OpAt.of_block {w w' : World} {b k : Nat} {o : LOp} (h : OpAt w b k o) (e : w'.heap[b]? = w.heap[b]?) : OpAt w' b k o := by
  have hc : ∀ j, w'.cell? ⟨b, j, none⟩ = w.cell? ⟨b, j, none⟩ := fun j => World.cell?_of_block (w := w) e
  exact ⟨by rw [hc]; exact h.c0, by rw [hc]; exact h.c1, by rw [hc]; exact h.c2, by rw [hc]; exact h.c3, by rw [hc]; exact h.c4, by rw [hc]; exact h.c5, by rw [hc]; exact h.c6⟩
structure OpsAt (w : World) (L U : Nat) (a : Option Addr) (n : Nat) (ops : List LOp) : Prop where
  len : n = ops.length
  bd : n ≤ maxLen
  at_ : n ≠ 0 → ∃ b off, a = some ⟨b, off, none⟩ ∧ L ≤ b ∧ b < U ∧ ∀ i, i < n → ∃ o, ops[i]? = some o ∧ OpSz o ∧ OpAt w b (off + i * 7) o
theorem OpsAt.below {w w' : World} {L U B : Nat} {a : Option Addr} {n : Nat} {ops : List LOp} (h : OpsAt w L U a n ops) (hb : Below B w w') (hU : U ≤ B) : OpsAt w' L U a n ops :=
  ⟨h.len, h.bd, fun hn => by
    obtain ⟨b, off, ha, hL, hbU, hc⟩ := h.at_ hn
    refine ⟨b, off, ha, hL, hbU, fun i hi => ?_⟩
    obtain ⟨o, ho, hs, h0⟩ := hc i hi
    exact ⟨o, ho, hs, h0.of_block (hb.block b (by omega))⟩⟩
theorem OpsAt.wide {w : World} {L U L' U' : Nat} {a : Option Addr} {n : Nat} {ops : List LOp} (h : OpsAt w L U a n ops) (hL' : L' ≤ L) (hU : U ≤ U') : OpsAt w L' U' a n ops :=
  ⟨h.len, h.bd, fun hn => by
    obtain ⟨b, off, ha, hL, hbU, hc⟩ := h.at_ hn
    exact ⟨b, off, ha, by omega, by omega, hc⟩⟩

/-! Read as data. -/
section
variable {H : Type} {enc : TypeId × Value → H} {w : World} {spare : Nat → Bool} {held : Bool}
theorem list7 {α : Type} {l : List α} (h : l.length = 7) : ∃ a b c d e f g, l = [a, b, c, d, e, f, g] := by
  match l, h with
  | [a, b, c, d, e, f, g], _ => exact ⟨a, b, c, d, e, f, g, rfl⟩
theorem open_ops_at {fuel : Nat} {v : Value} {x : DataW H × List MemPlace} (h : DataW.trod enc Try.prog w 0 spare held fuel 72 [v] = some x) :
    ∃ a n c ops, v = .slice a n c ∧ OpsAt w 0 w.heap.size a n ops := by
  have ce : Try.prog.cellsOf 62 = 7 := by kernel_rfl
  rcases Go.Deep.open_slice Try.underlying72 h with ⟨hcs, _⟩ | ⟨a, len, cap, m, n, D, Pl, hcs, _, hl, hm, hmm, _, hx⟩
  · simp at hcs
    exact ⟨none, 0, 0, [], hcs, rfl, by simp, fun h => absurd rfl h⟩
  · simp at hcs
    have hlm : len ≤ m := by rw [hmm]; split <;> omega
    obtain ⟨ops, hos, hp⟩ := list_of (n := len) (p := fun i (o : LOp) => OpSz o ∧ w.cell? (a.add (i * 7)) = some (.int .i64 o.kind) ∧ w.cell? (a.add (i * 7 + 1)) = some (.int .i64 o.dir) ∧ w.cell? (a.add (i * 7 + 2)) = some (.string o.name) ∧ w.cell? (a.add (i * 7 + 3)) = some (.int .i64 o.dir2) ∧ w.cell? (a.add (i * 7 + 4)) = some (.string o.name2) ∧ w.cell? (a.add (i * 7 + 5)) = some (.int .i64 o.id) ∧ w.cell? (a.add (i * 7 + 6)) = some (.string o.text)) (fun i hi => by
      obtain ⟨cs', h1, h2⟩ := hx i (by omega)
      rw [ce] at h1
      obtain ⟨_, hlen, hcell⟩ := World.cells?_some h1
      obtain ⟨v0, v1, v2, v3, v4, v5, v6, rfl⟩ := list7 hlen
      obtain ⟨o, ho, hs⟩ := open_op_cells h2
      simp [LOp.val] at ho
      obtain ⟨rfl, rfl, rfl, rfl, rfl, rfl, rfl⟩ := ho
      have g0 := hcell 0 (by omega)
      have g1 := hcell 1 (by omega)
      have g2 := hcell 2 (by omega)
      have g3 := hcell 3 (by omega)
      have g4 := hcell 4 (by omega)
      have g5 := hcell 5 (by omega)
      have g6 := hcell 6 (by omega)
      rw [Go.Deep.add_add] at g0 g1 g2 g3 g4 g5 g6
      exact ⟨o, hs, by simpa using g0, by simpa using g1, by simpa using g2, by simpa using g3, by simpa using g4, by simpa using g5, by simpa using g6⟩)
    refine ⟨some a, len, cap, ops, hcs, hos.symm, by omega, fun hn => ?_⟩
    obtain ⟨b, off, spot⟩ := a
    obtain ⟨_, _, _, c0, _⟩ := hp 0 (by omega)
    have hspot : spot = none := by simpa [Addr.add] using World.cell?_spot c0
    subst hspot
    refine ⟨b, off, rfl, Nat.zero_le _, by have := cell_lt c0; simpa [Addr.add] using this, fun i hi => ?_⟩
    obtain ⟨o, ho, hs, q0, q1, q2, q3, q4, q5, q6⟩ := hp i hi
    exact ⟨o, ho, hs, by rw [← addr_add]; exact q0, by rw [Nat.add_assoc, ← addr_add]; exact q1, by rw [Nat.add_assoc, ← addr_add]; exact q2, by rw [Nat.add_assoc, ← addr_add]; exact q3, by rw [Nat.add_assoc, ← addr_add]; exact q4, by rw [Nat.add_assoc, ← addr_add]; exact q5, by rw [Nat.add_assoc, ← addr_add]; exact q6⟩
theorem open_ops {v : Value} {d : DataW H} {p : List MemPlace} (h : DataW.Trod enc Try.prog w 0 spare held 72 v d p) (hv : v.cells.toList = [v]) :
    ∃ a n c ops, v = .slice a n c ∧ OpsAt w 0 w.heap.size a n ops := by
  obtain ⟨fuel, hf⟩ := h
  rw [hv] at hf
  exact open_ops_at hf
end

/-! Sizes. -/
def totOp (o : LOp) : Nat := o.name.size + o.name2.size + o.text.size
def totOps (ops : List LOp) : Nat := (ops.map totOp).sum
theorem totOps_take {ops : List LOp} {j : Nat} {o : LOp} (h : ops[j]? = some o) : totOps (ops.take (j + 1)) = totOps (ops.take j) + totOp o := by
  have hj : j < ops.length := (List.getElem?_eq_some_iff.1 h).1
  rw [List.take_succ_eq_append_getElem hj]
  have : ops[j] = o := (List.getElem?_eq_some_iff.1 h).2
  simp [totOps, this]

set_option maxHeartbeats 400000 in
theorem szOpS_any (a : Option Addr) (n c : Nat) (ops : List LOp) (L U : Nat) (left : Int) (w : World) (h0 : 0 ≤ left) (h1 : left ≤ 1048576) (hU : U ≤ w.heap.size) (H : OpsAt w L U a n ops) :
    Calls Try.prog 64 #[.slice a n c, .int .i64 left] w fun e w' => (∃ r : Int, e = .returned (.int .i64 r) ∧ (r = -1 ∨ (0 ≤ r ∧ r = left - n - totOps ops))) ∧ Below w.heap.size w w' := by
  have hbd := H.bd
  unfold maxLen at hbd
  by_cases h : left - n < 0
  · go_enter Try.func64, Try.ntmps64
    go_wp2
    go_ret
    exact ⟨⟨-1, rfl, .inl rfl⟩, Below.refl _ _⟩
  · go_enter Try.func64, Try.ntmps64
    go_wp2
    go_loopg [1, 5] n (fun k l i wr => ∃ j : Nat, j ≤ n ∧ Hid (k = n - j) ∧ i = .int .i64 j ∧ (∃ r : Int, l = .int .i64 r ∧ 0 ≤ r ∧ r ≤ 1048576 ∧ Hid (r = left - n - totOps (ops.take j))) ∧ Below w.heap.size w wr)
    case atStart => exact ⟨0, Nat.zero_le _, by show _ = _; omega, rfl, ⟨_, rfl, by omega, by omega, by show _ = _; simp [totOps]⟩, Below.refl _ _⟩
    case round =>
      obtain ⟨j, hj, hk, rfl, ⟨r, rfl, hr0, hr1, hr⟩, hb⟩ := hrel
      by_cases hlt : j < n
      · obtain ⟨b, off, ha, hL, hbU, hc⟩ := H.at_ (by omega)
        subst ha
        obtain ⟨o, he, hsz, hat⟩ := hc j hlt
        obtain ⟨d0, d1, d2, d3, d4, d5, d6⟩ := hat.of_block (hb.block b (by omega))
        have HE : Hid (ops[j]? = some o) := he
        have HSZ := fun l w h0 h1 => szOp_any o l w h0 h1 hsz
        simp only [LOp.val] at HSZ
        have hlt' : (j : Int) < (n : Int) := by omega
        clear he hc hat
        go_wp2_with fail
        refine (HSZ _ _ hr0 hr1).mono ?_
        rintro x w1 ⟨⟨r1, rfl, hr1'⟩, hb1⟩
        have HR : Hid (r1 = -1 ∨ 0 ≤ r1 ∧ r1 = r - o.name.size - o.name2.size - o.text.size) := hr1'
        clear hr1' HSZ
        by_cases hneg : r1 < 0
        · go_wp2_with fail
          go_ret
          exact ⟨⟨-1, rfl, .inl rfl⟩, hb.trans (hb1.mono hb.size)⟩
        · go_wp2_with fail
          go_roundg (n - (j + 1))
          case measure => have := hk.out; omega
          case rel =>
            have := HR.out
            have h3 := totOps_take HE.out
            have h4 := hr.out
            unfold totOp at h3
            exact ⟨j + 1, by omega, rfl, by go_num, ⟨r1, rfl, by omega, by omega, by show _ = _; omega⟩, hb.trans (hb1.mono hb.size)⟩
      · go_wp2_with fail
        go_ret
        have h4 := hr.out
        rw [List.take_of_length_le (by have := H.len; omega)] at h4
        exact ⟨⟨r, rfl, .inr ⟨hr0, h4⟩⟩, hb⟩

/-! Copies. -/
theorem info65 : (Try.prog.info? 65).map (fun i => (i.zero.map (·.cells), i.size, i.bytes)) = some (some #[.int .i64 0, .int .i64 0, .string ByteArray.empty, .int .i64 0, .string ByteArray.empty, .int .i64 0, .string ByteArray.empty], 7, 80) := by kernel_rfl
def opF (f : Nat → Value) (i : Nat) (o : LOp) : Prop := f (i * 7) = .int .i64 o.kind ∧ f (i * 7 + 1) = .int .i64 o.dir ∧ f (i * 7 + 2) = .string o.name ∧ f (i * 7 + 3) = .int .i64 o.dir2 ∧ f (i * 7 + 4) = .string o.name2 ∧ f (i * 7 + 5) = .int .i64 o.id ∧ f (i * 7 + 6) = .string o.text

set_option maxHeartbeats 1000000 in
theorem toOpS_any (a : Option Addr) (n c : Nat) (ops : List LOp) (L U : Nat) (w : World) (hn : n ≤ 1048576) (hU : U ≤ w.heap.size) (H : OpsAt w L U a n ops) :
    Calls Try.prog 66 #[.slice a n c] w fun e w' => (∃ b, e = .returned (.slice (some ⟨b, 0, none⟩) n n) ∧ OpsAt w' w.heap.size w'.heap.size (some ⟨b, 0, none⟩) n ops) ∧ Below w.heap.size w w' := by
  have hmk := run_make_many 75 65 _ 7 80 Try.underlying75 info65 n (by omega) (by omega)
  obtain ⟨f0, hf0⟩ := rowIs_many w #[.int .i64 0, .int .i64 0, .string ByteArray.empty, .int .i64 0, .string ByteArray.empty, .int .i64 0, .string ByteArray.empty] (n * 7) 65
  have HF0 : Hid ((w.alloc (.cells (madeCells #[.int .i64 0, .int .i64 0, .string ByteArray.empty, .int .i64 0, .string ByteArray.empty, .int .i64 0, .string ByteArray.empty] (n * 7)) 65)).rowIs w.heap.size 65 (n * 7) f0) := hf0
  clear hf0
  go_enter Try.func66, Try.ntmps66
  go_wp2
  go_loopg [4] n (fun k i wr => ∃ j : Nat, j ≤ n ∧ Hid (k = n - j) ∧ i = .int .i64 j ∧ (∃ f, Hid (wr.rowIs w.heap.size 65 (n * 7) f ∧ ∀ i, i < j → ∃ o, ops[i]? = some o ∧ opF f i o)) ∧ Below w.heap.size w wr)
  case atStart => exact ⟨0, Nat.zero_le _, by show _ = _; omega, rfl, ⟨f0, HF0.out, fun i hi => by omega⟩, (Below.refl _ _).alloc (Nat.le_refl _) _⟩
  case round =>
    obtain ⟨j, hj, hk, rfl, ⟨f, hf⟩, hb⟩ := hrel
    by_cases hlt : j < n
    · obtain ⟨b, off, ha, hL, hbU, hc⟩ := H.at_ (by omega)
      subst ha
      obtain ⟨o, he, hsz, hat⟩ := hc j hlt
      obtain ⟨d0, d1, d2, d3, d4, d5, d6⟩ := hat.of_block (hb.block b (by omega))
      have HE : Hid (ops[j]? = some o) := he
      have HTO := toOp_any o
      simp only [LOp.val] at HTO
      have hlt' : (j : Int) < (n : Int) := by omega
      have hrl := hf.out.1.lt
      clear he hc hat
      go_wp2_with fail
      refine (HTO _).mono ?_
      rintro x w1 ⟨rfl, hb1⟩
      have hrow := hf.out.1.of_block (hb1.block w.heap.size hf.out.1.lt)
      have g0 := hrow.cell (i := j * 7) (by omega)
      have g1 := hrow.cell (i := j * 7 + 1) (by omega)
      have g2 := hrow.cell (i := j * 7 + 2) (by omega)
      have g3 := hrow.cell (i := j * 7 + 3) (by omega)
      have g4 := hrow.cell (i := j * 7 + 4) (by omega)
      have g5 := hrow.cell (i := j * 7 + 5) (by omega)
      have g6 := hrow.cell (i := j * 7 + 6) (by omega)
      have z0 := hrow.frozen (j * 7)
      have z1 := hrow.frozen (j * 7 + 1)
      have z2 := hrow.frozen (j * 7 + 2)
      have z3 := hrow.frozen (j * 7 + 3)
      have z4 := hrow.frozen (j * 7 + 4)
      have z5 := hrow.frozen (j * 7 + 5)
      have z6 := hrow.frozen (j * 7 + 6)
      have HR : Hid (w1.rowIs w.heap.size 65 (n * 7) f) := hrow
      clear hrow HTO d0 d1 d2 d3 d4 d5 d6
      go_wp2_with fail
      go_roundg (n - (j + 1))
      case measure => have := hk.out; omega
      case rel =>
        have hbs := hb1.size
        refine ⟨j + 1, by omega, rfl, by go_num, ⟨_, (((((((HR.out.set (j * 7) (.int .i64 o.kind)).set (j * 7 + 1) (.int .i64 o.dir)).set (j * 7 + 2) (.string o.name)).set (j * 7 + 3) (.int .i64 o.dir2)).set (j * 7 + 4) (.string o.name2)).set (j * 7 + 5) (.int .i64 o.id)).set (j * 7 + 6) (.string o.text)), fun i hi => ?_⟩, ((((((((hb.trans (hb1.mono hb.size)).setCell (by simp) _).setCell (by simp) _).setCell (by simp) _).setCell (by simp) _).setCell (by simp) _).setCell (by simp) _).setCell (by simp) _)⟩
        by_cases hij : i = j
        · subst hij
          exact ⟨o, HE.out, by simp, by simp, by simp, by simp, by simp, by simp, by simp⟩
        · obtain ⟨o', he', q0, q1, q2, q3, q4, q5, q6⟩ := hf.out.2 i (by omega)
          refine ⟨o', he', ?_, ?_, ?_, ?_, ?_, ?_, ?_⟩ <;> dsimp only <;> rw [if_neg (by omega), if_neg (by omega), if_neg (by omega), if_neg (by omega), if_neg (by omega), if_neg (by omega), if_neg (by omega)] <;> assumption
    · go_wp2_with fail
      go_ret
      refine ⟨⟨w.heap.size, rfl, H.len, H.bd, fun hn0 => ⟨w.heap.size, 0, rfl, Nat.le_refl _, hf.out.1.lt, fun i hi => ?_⟩⟩, hb⟩
      obtain ⟨o', he', q0, q1, q2, q3, q4, q5, q6⟩ := hf.out.2 i (by omega)
      obtain ⟨b, off, ha, hL, hbU, hc⟩ := H.at_ hn0
      obtain ⟨o2, he2, hsz, _⟩ := hc i hi
      rw [he'] at he2
      cases he2
      refine ⟨o', he', hsz, by rw [← q0, Nat.zero_add]; exact hf.out.1.cell (by omega), by rw [← q1, Nat.zero_add]; exact hf.out.1.cell (by omega), by rw [← q2, Nat.zero_add]; exact hf.out.1.cell (by omega), by rw [← q3, Nat.zero_add]; exact hf.out.1.cell (by omega), by rw [← q4, Nat.zero_add]; exact hf.out.1.cell (by omega), by rw [← q5, Nat.zero_add]; exact hf.out.1.cell (by omega), by rw [← q6, Nat.zero_add]; exact hf.out.1.cell (by omega)⟩

end Go.Proofs.Ytjenldenggaljaa
