/- Logs: on what they lean, in memory; contracts of the law's szLog, toLog, eqLog. -/
import Derived.Test.YtnfegihemhidgaaOpSame
namespace Go.Proofs.Ytnfegihemhidgaa
open Go.RowKit Go.ChangeShapes Go.WideShapes

structure LBase where
  id : Int
  ver : Int
/-- What a slice of bases is. -/
structure BasesAt (w : World) (L U : Nat) (a : Option Addr) (n : Nat) (bs : List LBase) : Prop where
  len : n = bs.length
  bd : n ≤ maxLen
  at_ : n ≠ 0 → ∃ b off, a = some ⟨b, off, none⟩ ∧ L ≤ b ∧ b < U ∧ ∀ i, i < n → ∃ e, bs[i]? = some e ∧ w.cell? ⟨b, off + i * 2, none⟩ = some (.int .i64 e.id) ∧ w.cell? ⟨b, off + i * 2 + 1, none⟩ = some (.int .i64 e.ver)
theorem BasesAt.below {w w' : World} {L U B : Nat} {a : Option Addr} {n : Nat} {es : List LBase} (h : BasesAt w L U a n es) (hb : Below B w w') (hU : U ≤ B) : BasesAt w' L U a n es :=
  ⟨h.len, h.bd, fun hn => by
    obtain ⟨b, off, ha, hL, hbU, hc⟩ := h.at_ hn
    refine ⟨b, off, ha, hL, hbU, fun i hi => ?_⟩
    obtain ⟨e, he, h0, h1⟩ := hc i hi
    exact ⟨e, he, by rw [hb.cell (by simp; omega)]; exact h0, by rw [hb.cell (by simp; omega)]; exact h1⟩⟩
theorem BasesAt.wide {w : World} {L U L' U' : Nat} {a : Option Addr} {n : Nat} {es : List LBase} (h : BasesAt w L U a n es) (hL' : L' ≤ L) (hU : U ≤ U') : BasesAt w L' U' a n es :=
  ⟨h.len, h.bd, fun hn => by
    obtain ⟨b, off, ha, hL, hbU, hc⟩ := h.at_ hn
    exact ⟨b, off, ha, by omega, by omega, hc⟩⟩
theorem BasesAt.blocks {w w' : World} {L U : Nat} {a : Option Addr} {n : Nat} {es : List LBase} (h : BasesAt w L U a n es) (hb : ∀ b, L ≤ b → b < U → w'.heap[b]? = w.heap[b]?) : BasesAt w' L U a n es :=
  ⟨h.len, h.bd, fun hn => by
    obtain ⟨b, off, ha, hL, hbU, hc⟩ := h.at_ hn
    refine ⟨b, off, ha, hL, hbU, fun i hi => ?_⟩
    obtain ⟨e, he, h0, h1⟩ := hc i hi
    have hk := hb b hL hbU
    exact ⟨e, he, by rw [World.cell?_of_block (w := w) hk]; exact h0, by rw [World.cell?_of_block (w := w) hk]; exact h1⟩⟩
theorem OpsAt.blocks {w w' : World} {L U : Nat} {a : Option Addr} {n : Nat} {ops : List LOp} (h : OpsAt w L U a n ops) (hb : ∀ b, L ≤ b → b < U → w'.heap[b]? = w.heap[b]?) : OpsAt w' L U a n ops :=
  ⟨h.len, h.bd, fun hn => by
    obtain ⟨b, off, ha, hL, hbU, hc⟩ := h.at_ hn
    refine ⟨b, off, ha, hL, hbU, fun i hi => ?_⟩
    obtain ⟨o, ho, hs, h0⟩ := hc i hi
    exact ⟨o, ho, hs, h0.of_block (hb b hL hbU)⟩⟩

structure LLog where
  who : Int
  seq : Int
  bases : List LBase
  list : List LOp
/-- The value of a log. -/
def lgV (q s : Int) (a : Option Addr) (n c : Nat) (a' : Option Addr) (n' c' : Nat) : Value := .agg #[.int .i64 q, .int .i64 s, .slice a n c, .slice a' n' c']
/-- What a log is. -/
structure LogAt (w : World) (L U : Nat) (q s : Int) (a : Option Addr) (n : Nat) (a' : Option Addr) (n' : Nat) (l : LLog) : Prop where
  q : q = l.who
  s : s = l.seq
  b : BasesAt w L U a n l.bases
  o : OpsAt w L U a' n' l.list
theorem LogAt.below {w w' : World} {L U B : Nat} {q s : Int} {a a' : Option Addr} {n n' : Nat} {l : LLog} (h : LogAt w L U q s a n a' n' l) (hb : Below B w w') (hU : U ≤ B) : LogAt w' L U q s a n a' n' l := ⟨h.q, h.s, h.b.below hb hU, h.o.below hb hU⟩
theorem LogAt.wide {w : World} {L U L' U' : Nat} {q s : Int} {a a' : Option Addr} {n n' : Nat} {l : LLog} (h : LogAt w L U q s a n a' n' l) (hL : L' ≤ L) (hU : U ≤ U') : LogAt w L' U' q s a n a' n' l := ⟨h.q, h.s, h.b.wide hL hU, h.o.wide hL hU⟩

section
variable {H : Type} {enc : TypeId × Value → H} {w : World} {spare : Nat → Bool} {held : Bool}
theorem open_bases {fuel : Nat} {v : Value} {x : DataW H × List MemPlace} (h : DataW.trod enc Try.prog w 0 spare held fuel 22 [v] = some x) :
    ∃ a n c es, v = .slice a n c ∧ BasesAt w 0 w.heap.size a n es := by
  rcases Go.Deep.open_slice_pairs Try.underlying22 Try.underlying106 (by kernel_rfl) rfl rfl (by kernel_rfl) (by kernel_rfl) h with ⟨hcs, _⟩ | ⟨a, len, cap, m, n, V0, V1, D0, D1, P0, P1, hcs, _, hl, hm, hmm, _, hx⟩
  · simp at hcs
    exact ⟨none, 0, 0, [], hcs, rfl, by simp, fun h => absurd rfl h⟩
  · simp at hcs
    have hlm : len ≤ m := by rw [hmm]; split <;> omega
    obtain ⟨es, hes, hp⟩ := list_of (n := len) (p := fun i (e : LBase) => V0 i = .int .i64 e.id ∧ V1 i = .int .i64 e.ver) (fun i hi => by
      obtain ⟨_, _, h0, h1⟩ := hx i (by omega)
      obtain ⟨s, e0, _, _⟩ := DataW.trod_int Try.underlying3 h0
      obtain ⟨k, e1, _, _⟩ := DataW.trod_int Try.underlying3 h1
      simp at e0 e1
      exact ⟨⟨s, k⟩, e0, e1⟩)
    refine ⟨some a, len, cap, es, hcs, hes.symm, by omega, fun hn => ?_⟩
    obtain ⟨b, off, spot⟩ := a
    have c0 := (hx 0 (by omega)).1
    have hspot : spot = none := by simpa [Addr.add] using World.cell?_spot c0
    subst hspot
    refine ⟨b, off, rfl, Nat.zero_le _, by have := cell_lt c0; simpa [Addr.add] using this, fun i hi => ?_⟩
    obtain ⟨e, he, q0, q1⟩ := hp i hi
    obtain ⟨h0, h1, _, _⟩ := hx i (by omega)
    exact ⟨e, he, by rw [← q0, ← addr_add]; exact h0, by rw [← q1, Nat.add_assoc, ← addr_add]; exact h1⟩
theorem array4 {α : Type} {l : Array α} (h : l.size = 4) : ∃ a b c d, l = #[a, b, c, d] := by
  obtain ⟨l⟩ := l
  match l, h with
  | [a, b, c, d], _ => exact ⟨a, b, c, d, rfl⟩
set_option maxRecDepth 100000 in
theorem open_log {r : Reach} {b0 : Nat} {v : Value} {d : DataW H} {p : List MemPlace} (hv : Value.okWide Try.prog w r b0 25 v) (h : DataW.Trod enc Try.prog w 0 spare held 25 v d p) :
    ∃ q s a n c a' n' c' l, v = .agg #[.int .i64 q, .int .i64 s, .slice a n c, .slice a' n' c'] ∧ LogAt w 0 w.heap.size q s a n a' n' l := by
  have c3 : Try.prog.cellsOf 3 = 1 := by kernel_rfl
  have c70 : Try.prog.cellsOf 22 = 1 := by kernel_rfl
  have c59 : Try.prog.cellsOf 23 = 1 := by kernel_rfl
  obtain ⟨cs, rfl, hsz⟩ := okWide_struct Try.underlying25 hv
  obtain ⟨v0, v1, v2, v3, rfl⟩ := array4 (hsz.trans (by kernel_rfl))
  obtain ⟨fuel, hf⟩ := h
  obtain ⟨y0, y1, y2, y3, n', _, _, t0, t1, t2, t3⟩ := Go.Joins.trod_struct4 Try.underlying25 hf
  simp [c3, c70, c59, Value.cells] at t0 t1 t2 t3
  obtain ⟨k, e0, _, _⟩ := DataW.trod_int Try.underlying3 t0
  obtain ⟨vr, e1, _, _⟩ := DataW.trod_int Try.underlying3 t1
  obtain ⟨ba, bn, bc, bs, e2, hB⟩ := open_bases t2
  obtain ⟨oa, on, oc, ops, e3, hO⟩ := open_ops_at t3
  simp at e0 e1
  subst e0 e1 e2 e3
  exact ⟨k, vr, ba, bn, bc, oa, on, oc, ⟨k, vr, bs, ops⟩, rfl, rfl, rfl, hB, hO⟩
end

theorem szBaseS_any (a : Option Addr) (n c : Nat) (es : List LBase) (L U : Nat) (left : Int) (w : World) (h0 : 0 ≤ left) (h1 : left ≤ 1048576) (H : BasesAt w L U a n es) :
    Calls Try.prog 30 #[.slice a n c, .int .i64 left] w fun e w' => (∃ r : Int, e = .returned (.int .i64 r) ∧ (r = -1 ∨ (0 ≤ r ∧ r = left - n))) ∧ Below w.heap.size w w' := by
  have hbd := H.bd
  unfold maxLen at hbd
  by_cases h : left - n < 0
  · go_enter Try.func30, Try.ntmps30
    go_wp2
    go_ret
    exact ⟨⟨-1, rfl, .inl rfl⟩, Below.refl _ _⟩
  · go_enter Try.func30, Try.ntmps30
    go_wp2
    go_ret
    exact ⟨⟨_, rfl, .inr ⟨by omega, rfl⟩⟩, Below.refl _ _⟩

set_option maxHeartbeats 400000 in
theorem szLog_any (q s : Int) (a : Option Addr) (n c : Nat) (a' : Option Addr) (n' c' : Nat) (l : LLog) (L U : Nat) (left : Int) (w : World) (h0 : 0 ≤ left) (h1 : left ≤ 1048576) (hU : U ≤ w.heap.size) (H : LogAt w L U q s a n a' n' l) :
    Calls Try.prog 12 #[.agg #[.int .i64 q, .int .i64 s, .slice a n c, .slice a' n' c'], .int .i64 left] w fun e w' => (∃ r : Int, e = .returned (.int .i64 r) ∧ (r = -1 ∨ (0 ≤ r ∧ r = left - n - n' - totOps l.list))) ∧ Below w.heap.size w w' := by
  have HB := H.b
  have HO := H.o
  clear H
  go_enter Try.func12, Try.ntmps12
  go_wp2_with fail
  have hA : Below w.heap.size w (w.alloc (Obj.cells #[.int .i64 q, .int .i64 s, .slice a n c, .slice a' n' c'] 25)) := (Below.refl _ _).alloc (Nat.le_refl _) _
  refine (szBaseS_any _ _ _ _ L U _ _ h0 h1 (HB.below hA hU)).mono ?_
  rintro x w1 ⟨⟨r, rfl, hr⟩, hb⟩
  have HR : Hid (r = -1 ∨ 0 ≤ r ∧ r = left - n) := hr
  clear hr
  have hb' : Below w.heap.size w w1 := hA.trans (hb.mono (by simp))
  have c3 : w1.cell? ⟨w.heap.size, 3, none⟩ = some (.slice a' n' c') := by rw [hb.cell (by simp)]; simp [go_sem]
  have hs1 := hb'.size
  by_cases hneg : r < 0
  · go_wp2_with fail
    go_ret
    exact ⟨⟨-1, rfl, .inl rfl⟩, hb'⟩
  · go_wp2_with fail
    refine (szOpS_any _ _ _ _ L U _ _ (by omega) (by have := HR.out; omega) (by omega) (HO.below hb' hU)).mono ?_
    rintro x w2 ⟨⟨r2, rfl, hr2⟩, hb2⟩
    have HR2 : Hid (r2 = -1 ∨ 0 ≤ r2 ∧ r2 = r - n' - totOps l.list) := hr2
    clear hr2
    have hb2' : Below w.heap.size w w2 := hb'.trans (hb2.mono hs1)
    by_cases hneg2 : r2 < 0
    · go_wp2_with fail
      go_ret
      exact ⟨⟨-1, rfl, .inl rfl⟩, hb2'⟩
    · go_wp2_with fail
      go_ret
      exact ⟨⟨r2, rfl, by have := HR.out; have := HR2.out; omega⟩, hb2'⟩

theorem toBase_any (i j : Int) (w : World) :
    Calls Try.prog 65 #[.agg #[.int .i64 i, .int .i64 j]] w fun e w' => e = .returned (.agg #[.int .i64 i, .int .i64 j]) ∧ Below w.heap.size w w' := by
  go_enter Try.func65, Try.ntmps65
  go_wp2
  exact bodyPost_ret (v := .agg #[.int .i64 i, .int .i64 j]) (by simp [results, Try.results65, go_sem]) rfl ⟨rfl, by
    repeat (first | exact Below.refl _ _ | refine Below.setCell ?_ (by simp <;> omega) _ | refine Below.alloc ?_ (by simp <;> omega) _)⟩

theorem infoB : (Try.prog.info? 76).map (fun i => (i.zero.map (·.cells), i.size, i.bytes)) = some (some #[.int .i64 0, .int .i64 0], 2, 16) := by kernel_rfl

/-- Bases in a row of one's own, from its first cell on. -/
def BaseRow (w : World) (B : Nat) (a : Option Addr) (n g cap : Nat) (f : Nat → Value) : Prop := n ≠ 0 → a = some ⟨g, 0, none⟩ ∧ B ≤ g ∧ n * 2 ≤ cap ∧ w.rowIs g 76 cap f
def baseF (f : Nat → Value) (es : List LBase) : Prop := ∀ i e, es[i]? = some e → f (i * 2) = .int .i64 e.id ∧ f (i * 2 + 1) = .int .i64 e.ver
theorem BaseRow.at_ {w : World} {B : Nat} {a : Option Addr} {n g cap : Nat} {f : Nat → Value} {es : List LBase} (h : BaseRow w B a n g cap f) (hf : baseF f es) (hn : n = es.length) (hbd : n ≤ maxLen) : BasesAt w B w.heap.size a n es :=
  ⟨hn, hbd, fun h0 => by
    obtain ⟨h1, h2, h3, h4⟩ := h h0
    refine ⟨g, 0, h1, h2, h4.lt, fun i hi => ?_⟩
    have hl : es[i]? = some (es[i]'(by omega)) := by simp [show i < es.length by omega]
    obtain ⟨q0, q1⟩ := hf i _ hl
    exact ⟨_, hl, by rw [Nat.zero_add, h4.cell (by omega), q0], by rw [Nat.zero_add, h4.cell (by omega), q1]⟩⟩
theorem BaseRow.kept {w w' : World} {B : Nat} {a : Option Addr} {n g cap : Nat} {f : Nat → Value} (h : BaseRow w B a n g cap f) (hb : ∀ k, k = g → k < w.heap.size → w'.heap[k]? = w.heap[k]?) : BaseRow w' B a n g cap f := fun hn => by
  obtain ⟨h1, h2, h3, h4⟩ := h hn
  exact ⟨h1, h2, h3, h4.of_block (hb g rfl h4.lt)⟩

set_option maxHeartbeats 400000 in
theorem toBaseS_any (a : Option Addr) (n c : Nat) (es : List LBase) (L U : Nat) (w : World) (hn : n ≤ 1048576) (hU : U ≤ w.heap.size) (H : BasesAt w L U a n es) :
    Calls Try.prog 38 #[.slice a n c] w fun e w' => (∃ b, e = .returned (.slice (some ⟨b, 0, none⟩) n n) ∧ BasesAt w' w.heap.size w'.heap.size (some ⟨b, 0, none⟩) n es) ∧ Below w.heap.size w w' := by
  have hmk := run_make_many 33 76 _ 2 16 Try.underlying33 infoB n (by omega) (by omega)
  obtain ⟨f0, hf0⟩ := rowIs_many w #[.int .i64 0, .int .i64 0] (n * 2) 76
  have HF0 : Hid ((w.alloc (.cells (madeCells #[.int .i64 0, .int .i64 0] (n * 2)) 76)).rowIs w.heap.size 76 (n * 2) f0) := hf0
  clear hf0
  go_enter Try.func38, Try.ntmps38
  go_wp2
  go_loopg [4] n (fun k i wr => ∃ j : Nat, j ≤ n ∧ Hid (k = n - j) ∧ i = .int .i64 j ∧ (∃ f, Hid (wr.rowIs w.heap.size 76 (n * 2) f ∧ ∀ i, i < j → ∃ e, es[i]? = some e ∧ f (i * 2) = .int .i64 e.id ∧ f (i * 2 + 1) = .int .i64 e.ver)) ∧ Below w.heap.size w wr)
  case atStart => exact ⟨0, Nat.zero_le _, by show _ = _; omega, rfl, ⟨f0, HF0.out, fun i hi => by omega⟩, (Below.refl _ _).alloc (Nat.le_refl _) _⟩
  case round =>
    obtain ⟨j, hj, hk, rfl, ⟨f, hf⟩, hb⟩ := hrel
    by_cases hlt : j < n
    · obtain ⟨b, off, ha, hL, hbU, hc⟩ := H.at_ (by omega)
      subst ha
      obtain ⟨e, he, hc0, hc1⟩ := hc j hlt
      rw [← hb.cell (by simp; omega)] at hc0 hc1
      have HE : Hid (es[j]? = some e) := he
      clear he hc
      go_wp2_with fail
      refine (toBase_any _ _ _).mono ?_
      rintro x w1 ⟨rfl, hb1⟩
      have hrow := hf.out.1.of_block (hb1.block w.heap.size hf.out.1.lt)
      have g0 := hrow.cell (i := j * 2) (by omega)
      have g1 := hrow.cell (i := j * 2 + 1) (by omega)
      have z0 := hrow.frozen (j * 2)
      have z1 := hrow.frozen (j * 2 + 1)
      have HR : Hid (w1.rowIs w.heap.size 76 (n * 2) f) := hrow
      clear hrow
      go_wp2_with fail
      go_roundg (n - (j + 1))
      case measure => have := hk.out; omega
      case rel =>
        refine ⟨j + 1, by omega, rfl, by go_num, ⟨_, (HR.out.set (j * 2) (.int .i64 e.id)).set (j * 2 + 1) (.int .i64 e.ver), fun i hi => ?_⟩, ((hb.trans (hb1.mono hb.size)).setCell (by simp) _).setCell (by simp) _⟩
        by_cases hij : i = j
        · subst hij
          exact ⟨e, HE.out, by simp, by simp⟩
        · obtain ⟨e', he', q0, q1⟩ := hf.out.2 i (by omega)
          refine ⟨e', he', ?_, ?_⟩
          · show (if i * 2 = j * 2 + 1 then _ else if i * 2 = j * 2 then _ else f (i * 2)) = _
            rw [if_neg (by omega), if_neg (by omega)]; exact q0
          · show (if i * 2 + 1 = j * 2 + 1 then _ else if i * 2 + 1 = j * 2 then _ else f (i * 2 + 1)) = _
            rw [if_neg (by omega), if_neg (by omega)]; exact q1
    · go_wp2_with fail
      go_ret
      refine ⟨⟨w.heap.size, rfl, H.len, H.bd, fun hn0 => ⟨w.heap.size, 0, rfl, Nat.le_refl _, hf.out.1.lt, fun i hi => ?_⟩⟩, hb⟩
      obtain ⟨e', he', q0, q1⟩ := hf.out.2 i (by omega)
      exact ⟨e', he', by rw [← q0, Nat.zero_add]; exact hf.out.1.cell (by omega), by rw [← q1, Nat.zero_add]; exact hf.out.1.cell (by omega)⟩

set_option maxHeartbeats 400000 in
theorem toLog_any (q s : Int) (a : Option Addr) (n c : Nat) (a' : Option Addr) (n' c' : Nat) (l : LLog) (L U : Nat) (w : World) (hn : n ≤ 1048576) (hn' : n' ≤ 1048576) (hU : U ≤ w.heap.size) (H : LogAt w L U q s a n a' n' l) :
    Calls Try.prog 17 #[.agg #[.int .i64 q, .int .i64 s, .slice a n c, .slice a' n' c']] w fun e w' => (∃ b b', e = .returned (.agg #[.int .i64 q, .int .i64 s, .slice (some ⟨b, 0, none⟩) n n, .slice (some ⟨b', 0, none⟩) n' n']) ∧ LogAt w' w.heap.size w'.heap.size q s (some ⟨b, 0, none⟩) n (some ⟨b', 0, none⟩) n' l) ∧ Below w.heap.size w w' := by
  have HH := H
  have HB := H.b
  have HO := H.o
  clear H
  go_enter Try.func17, Try.ntmps17
  go_wp2_with fail
  refine (toBaseS_any _ _ _ _ L U _ hn (by simp <;> omega) (HB.below ((((Below.refl _ _).alloc (Nat.le_refl _) _).alloc (by simp) _).alloc (by simp <;> omega) _) hU)).mono ?_
  rintro x w1 ⟨⟨b, rfl, hk⟩, hb⟩
  have hz : w.heap.size + 3 ≤ w1.heap.size := by have := hb.size; simp at this; omega
  have hb0 : Below w.heap.size w w1 := ((((Below.refl _ _).alloc (Nat.le_refl _) _).alloc (by simp) _).alloc (by simp <;> omega) _).trans (hb.mono (by simp <;> omega))
  have hk1 : BasesAt w1 (w.heap.size + 3) w1.heap.size (some ⟨b, 0, none⟩) n l.bases := hk.wide (by simp) (Nat.le_refl _)
  obtain ⟨hc, hf⟩ := bcell hb
  have p3 : w1.cell? ⟨w.heap.size, 3, none⟩ = some (.slice a' n' c') := by rw [hc _ _ (by simp <;> omega)]; simp [go_sem]
  have r0 : w1.cell? ⟨w.heap.size + 1, 0, none⟩ = some (.int .i64 0) := by rw [hc _ _ (by simp <;> omega)]; simp [go_sem]
  have r1 : w1.cell? ⟨w.heap.size + 1, 1, none⟩ = some (.int .i64 0) := by rw [hc _ _ (by simp <;> omega)]; simp [go_sem]
  have r2 : w1.cell? ⟨w.heap.size + 1, 2, none⟩ = some (.slice none 0 0) := by rw [hc _ _ (by simp <;> omega)]; simp [go_sem]
  have r3 : w1.cell? ⟨w.heap.size + 1, 3, none⟩ = some (.slice none 0 0) := by rw [hc _ _ (by simp <;> omega)]; simp [go_sem]
  have q0 : w1.cell? ⟨w.heap.size + 1 + 1, 0, none⟩ = some (.int .i64 q) := by rw [hc _ _ (by simp)]; simp [go_sem]
  have q1 : w1.cell? ⟨w.heap.size + 1 + 1, 1, none⟩ = some (.int .i64 s) := by rw [hc _ _ (by simp)]; simp [go_sem]
  have q2 : w1.cell? ⟨w.heap.size + 1 + 1, 2, none⟩ = some (.slice none 0 0) := by rw [hc _ _ (by simp)]; simp [go_sem]
  have q3 : w1.cell? ⟨w.heap.size + 1 + 1, 3, none⟩ = some (.slice none 0 0) := by rw [hc _ _ (by simp)]; simp [go_sem]
  have y1 : ∀ o, w1.frozen? ⟨w.heap.size + 1, o, none⟩ = false := fun o => by rw [hf _ _ (by simp <;> omega)]; simp [go_sem]
  have y2 : ∀ o, w1.frozen? ⟨w.heap.size + 1 + 1, o, none⟩ = false := fun o => by rw [hf _ _ (by simp)]; simp [go_sem]
  clear hc hf hb hk
  go_wp2_with fail
  refine (toOpS_any _ _ _ _ L U _ hn' (by simp <;> omega) (HO.below (hb0.setCell (by simp <;> omega) _) hU)).mono ?_
  rintro x w2 ⟨⟨b', rfl, hk2⟩, hb2⟩
  obtain ⟨hc, hf⟩ := bcell hb2
  have hz2 : w1.heap.size ≤ w2.heap.size := by have := hb2.size; simp at this; omega
  have e0 := hc (w.heap.size + 1) 0 (by simp <;> omega)
  have e1 := hc (w.heap.size + 1) 1 (by simp <;> omega)
  have e2 := hc (w.heap.size + 1) 2 (by simp <;> omega)
  have e3 := hc (w.heap.size + 1) 3 (by simp <;> omega)
  have d0 := hc (w.heap.size + 1 + 1) 0 (by simp <;> omega)
  have d1 := hc (w.heap.size + 1 + 1) 1 (by simp <;> omega)
  have d2 := hc (w.heap.size + 1 + 1) 2 (by simp <;> omega)
  have d3 := hc (w.heap.size + 1 + 1) 3 (by simp <;> omega)
  have x1 : ∀ o, w2.frozen? ⟨w.heap.size + 1, o, none⟩ = false := fun o => by rw [hf _ _ (by simp <;> omega)]; simp [go_sem, y1]
  have x2 : ∀ o, w2.frozen? ⟨w.heap.size + 1 + 1, o, none⟩ = false := fun o => by rw [hf _ _ (by simp <;> omega)]; simp [go_sem, y2]
  simp [go_sem, r0, r1, r2, r3, q0, q1, q2, q3] at e0 e1 e2 e3 d0 d1 d2 d3
  have hb3 : Below w.heap.size w w2 := (hb0.setCell (p := ⟨w.heap.size + 1 + 1, 2, none⟩) (by simp <;> omega) (.slice (some ⟨b, 0, none⟩) n n)).trans (hb2.mono (by simp <;> omega))
  have hk3 : BasesAt w2 (w.heap.size + 3) w1.heap.size (some ⟨b, 0, none⟩) n l.bases := hk1.blocks fun k h1 h2 => by
    rw [hb2.block k (by simp <;> omega)]
    exact Below.heap_setCell _ _ _ k (by simp <;> omega)
  have hk4 : OpsAt w2 (w.heap.size + 3) w2.heap.size (some ⟨b', 0, none⟩) n' l.list := hk2.wide (by simp <;> omega) (Nat.le_refl _)
  clear hc hf hb2 hk1 hk2 p3 r0 r1 r2 r3 q0 q1 q2 q3 y1 y2
  go_wp2_with fail
  refine bodyPost_ret (v := .agg #[.int .i64 q, .int .i64 s, .slice (some ⟨b, 0, none⟩) n n, .slice (some ⟨b', 0, none⟩) n' n']) (by simp [results, Try.results17, go_sem, e0, e1, e2, e3]) rfl ⟨⟨b, b', rfl, HH.q, HH.s, ?_, ?_⟩, ?_⟩
  · refine BasesAt.wide (L := w.heap.size + 3) (U := w1.heap.size) ?_ (by omega) (by simp <;> omega)
    refine hk3.blocks fun k h1 h2 => ?_
    iterate 5 refine (Below.heap_setCell _ _ _ k (by simp <;> omega)).trans ?_
    rfl
  · refine OpsAt.wide (L := w.heap.size + 3) (U := w2.heap.size) ?_ (by omega) (by simp)
    refine hk4.blocks fun k h1 h2 => ?_
    iterate 5 refine (Below.heap_setCell _ _ _ k (by simp <;> omega)).trans ?_
    rfl
  · repeat (first | exact hb3 | refine Below.setCell ?_ (by simp <;> omega) _)

theorem eqBase_same (i j : Int) (w : World) :
    Calls Try.prog 71 #[.agg #[.int .i64 i, .int .i64 j], .agg #[.int .i64 i, .int .i64 j]] w fun e w' => e = .returned (.bool true) ∧ Below w.heap.size w w' := by
  go_enter Try.func71, Try.ntmps71
  go_wp2
  go_ret
  exact ⟨by simp, ((Below.refl _ _).alloc (Nat.le_refl _) _).alloc (by simp) _⟩

set_option maxHeartbeats 800000 in
theorem eqBaseS_same (a a' : Option Addr) (n c c' : Nat) (es : List LBase) (L U L' U' : Nat) (w : World) (hU : U ≤ w.heap.size) (hU' : U' ≤ w.heap.size) (H : BasesAt w L U a n es) (H' : BasesAt w L' U' a' n es) :
    Calls Try.prog 46 #[.slice a n c, .slice a' n c'] w fun e w' => e = .returned (.bool true) ∧ Below w.heap.size w w' := by
  have hbd := H.bd
  unfold maxLen at hbd
  go_enter Try.func46, Try.ntmps46
  go_wp2_with fail
  go_loopg [5] n (fun k i wr => ∃ j : Nat, j ≤ n ∧ Hid (k = n - j) ∧ i = .int .i64 j ∧ Below w.heap.size w wr)
  case atStart => exact ⟨0, Nat.zero_le _, rfl, rfl, Below.refl _ _⟩
  case round =>
    obtain ⟨j, hj, hk, rfl, hb⟩ := hrel
    by_cases hlt : j < n
    · obtain ⟨b, off, ha, hL, hbU, hc⟩ := H.at_ (by omega)
      obtain ⟨b', off', ha', hL', hbU', hc'⟩ := H'.at_ (by omega)
      subst ha ha'
      obtain ⟨x, he, c0, c1⟩ := hc j hlt
      obtain ⟨y, he2, d0, d1⟩ := hc' j hlt
      obtain rfl : x = y := by rw [he] at he2; simpa using he2
      rw [← hb.cell (by simp <;> omega)] at c0 c1 d0 d1
      have hlt' : (j : Int) < (n : Int) := by omega
      have HEQ := eqBase_same x.id x.ver
      clear he he2 hc hc'
      go_wp2_with fail
      go_region_with (go_at_call 71; go_must (refine (HEQ _).mono ?_; rintro e w1 ⟨rfl, hb1⟩))
      all_goals
        go_wp2_with fail
        go_roundg (n - (j + 1))
        case measure => have := hk.out; omega
        case rel => exact ⟨j + 1, by omega, rfl, by go_num, hb.trans ((Below.refl _ _).drew.trans (hb1.mono (by simp)) |>.mono hb.size)⟩
    · obtain rfl : j = n := by omega
      go_wp2_with fail
      go_ret
      exact ⟨rfl, hb⟩

set_option maxHeartbeats 800000 in
theorem eqLog_same (q s : Int) (a : Option Addr) (n c : Nat) (a' : Option Addr) (n' c' : Nat) (a2 : Option Addr) (c2 : Nat) (a2' : Option Addr) (c2' : Nat) (l : LLog) (L U L' U' : Nat) (w : World) (hU : U ≤ w.heap.size) (hU' : U' ≤ w.heap.size) (H : LogAt w L U q s a n a' n' l) (H' : LogAt w L' U' q s a2 n a2' n' l) :
    Calls Try.prog 24 #[.agg #[.int .i64 q, .int .i64 s, .slice a n c, .slice a' n' c'], .agg #[.int .i64 q, .int .i64 s, .slice a2 n c2, .slice a2' n' c2']] w fun e w' => e = .returned (.bool true) ∧ Below w.heap.size w w' := by
  have HB := H.b
  have HO := H.o
  have HB' := H'.b
  have HO' := H'.o
  clear H H'
  go_enter Try.func24, Try.ntmps24
  go_wp2_with fail
  refine (eqBaseS_same _ _ _ _ _ _ L U L' U' _ (by simp <;> omega) (by simp <;> omega) (HB.below (((Below.refl _ _).alloc (Nat.le_refl _) _).alloc (by simp) _) hU) (HB'.below (((Below.refl _ _).alloc (Nat.le_refl _) _).alloc (by simp) _) hU')).mono ?_
  rintro x w1 ⟨rfl, hb1⟩
  have hb2 : Below w.heap.size w w1 := (((Below.refl _ _).alloc (Nat.le_refl _) _).alloc (by simp) _).trans (hb1.mono (by simp <;> omega))
  have hz := hb2.size
  have p3 : w1.cell? ⟨w.heap.size, 3, none⟩ = some (.slice a' n' c') := by rw [hb1.cell (by simp <;> omega)]; simp [go_sem]
  have p4 : w1.cell? ⟨w.heap.size + 1, 3, none⟩ = some (.slice a2' n' c2') := by rw [hb1.cell (by simp)]; simp [go_sem]
  clear hb1
  go_wp2_with fail
  refine (eqOpS_same _ _ _ _ _ _ L U L' U' _ (by omega) (by omega) (HO.below hb2 hU) (HO'.below hb2 hU')).mono ?_
  rintro x w2 ⟨rfl, hb3⟩
  go_wp2_with fail
  go_ret
  exact ⟨rfl, hb2.trans (hb3.mono hz)⟩
end Go.Proofs.Ytnfegihemhidgaa
