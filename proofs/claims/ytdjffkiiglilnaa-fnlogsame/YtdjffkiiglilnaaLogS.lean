/- A log as it is drawn (l5Log). -/
import Derived.Test.YtdjffkiiglilnaaLongAll
import Derived.Test.YtdjffkiiglilnaaLogN
import Derived.Test.YtdjffkiiglilnaaLogP
namespace Go.Proofs.Ytdjffkiiglilnaa
open Go.RowKit

section
variable {ops : Array Oper} {ac : Act} {K : Act → World → Prop} {Q : Exit → Act → World → Prop} {E : Prop} {ty : TypeId} {ps : String} {af : Array Edge}
theorem st_build3 (W : World) (d : Nat) (x y z : Int)
    (h : ∀ q W', q = W.heap.size → Below W.heap.size W W' → (∀ i, i < 3 → ∃ k : Int, W'.cell? ⟨q, i, none⟩ = some (.int .i64 k) ∧ (k = x ∨ k = y ∨ k = z)) → K (ac.put (some d) (.slice (some ⟨q, 0, none⟩) 3 3)) W') :
    if Region.wanted { dst := some d, op := .buildSlice 88 3 #[(0, .const (.int .i64 x)), (1, .const (.int .i64 y)), (2, .const (.int .i64 z))], type := ty, pos := ps, after := af, guard := none } (yielded ops ac.tmps) = true then Oper.wp Try.prog { dst := some d, op := .buildSlice 88 3 #[(0, .const (.int .i64 x)), (1, .const (.int .i64 y)), (2, .const (.int .i64 z))], type := ty, pos := ps, after := af, guard := none } ac W K Q else E := by
  rw [if_pos (by simp [Region.wanted])]
  have := h W.heap.size (W.alloc (.cells #[.int .i64 x, .int .i64 y, .int .i64 z] 3)) rfl ((Below.refl _ _).alloc (Nat.le_refl _) _) (fun i hi => by
    match i, hi with
    | 0, _ => exact ⟨x, by simp [go_sem], .inl rfl⟩
    | 1, _ => exact ⟨y, by simp [go_sem], .inr (.inl rfl)⟩
    | 2, _ => exact ⟨z, by simp [go_sem], .inr (.inr rfl)⟩)
  unfold Oper.wp
  go_simp
  exact this
theorem st_alloc29 (W : World) (d : Nat)
    (h : ∀ q W', q = W.heap.size → Below W.heap.size W W' → W'.rowIs q 29 4 (zrow #[.int .i64 0, .int .i64 0, .slice none 0 0, .slice none 0 0]) → K (ac.put (some d) (.pointer (some ⟨q, 0, none⟩))) W') :
    if Region.wanted { dst := some d, op := .alloc 29, type := ty, pos := ps, after := af, guard := none } (yielded ops ac.tmps) = true then Oper.wp Try.prog { dst := some d, op := .alloc 29, type := ty, pos := ps, after := af, guard := none } ac W K Q else E := by
  rw [if_pos (by simp [Region.wanted])]
  have := h W.heap.size (W.alloc (.cells #[.int .i64 0, .int .i64 0, .slice none 0 0, .slice none 0 0] 29)) rfl ((Below.refl _ _).alloc (Nat.le_refl _) _) (zrow_new W _ 29)
  unfold Oper.wp
  go_simp
  exact this
/-- A row of four cells that are of a log's sorts. -/
def LogCells (W : World) (q : Nat) : Prop := ∃ x y a n c a' n' c', LogBox W q x y a n c a' n' c'
theorem st_store29 (W : World) (tp tv : Nat) (q : Nat) (x y : Int) (a : Option Addr) (n c : Nat) (a' : Option Addr) (n' c' : Nat) (f : Nat → Value) (hp : ac.tmps[tp]?.getD undef = .pointer (some ⟨q, 0, none⟩)) (hv : ac.tmps[tv]?.getD undef = .agg #[.int .i64 x, .int .i64 y, .slice a n c, .slice a' n' c']) (hr : W.rowIs q 29 4 f) (hl : LogCells W q)
    (h : ∀ W', But q W W' → LogBox W' q x y a n c a' n' c' → (∃ f', W'.rowIs q 29 4 f') → W'.heap.size = W.heap.size → K ac W') :
    if Region.wanted { dst := none, op := .store 29 (.tmp tp) (.tmp tv), type := ty, pos := ps, after := af, guard := none } (yielded ops ac.tmps) = true then Oper.wp Try.prog { dst := none, op := .store 29 (.tmp tp) (.tmp tv), type := ty, pos := ps, after := af, guard := none } ac W K Q else E := by
  rw [if_pos (by simp [Region.wanted])]
  obtain ⟨x0, y0, a0, n0, c0', a0', n0', c0'', c0, c1, c2, c3⟩ := hl
  have z0 : W.frozen? ⟨q, 0, none⟩ = false := hr.frozen _
  have z1 : W.frozen? ⟨q, 1, none⟩ = false := hr.frozen _
  have z2 : W.frozen? ⟨q, 2, none⟩ = false := hr.frozen _
  have z3 : W.frozen? ⟨q, 3, none⟩ = false := hr.frozen _
  have hw := (((hr.set 0 (.int .i64 x)).set 1 (.int .i64 y)).set 2 (.slice a n c)).set 3 (.slice a' n' c')
  have := h ((((W.setCell ⟨q, 0, none⟩ (.int .i64 x)).setCell ⟨q, 1, none⟩ (.int .i64 y)).setCell ⟨q, 2, none⟩ (.slice a n c)).setCell ⟨q, 3, none⟩ (.slice a' n' c')) ((((But.refl q W).set _ _).set _ _).set _ _ |>.set _ _)
    ⟨by rw [hw.cell (by omega)]; rfl, by rw [hw.cell (by omega)]; rfl, by rw [hw.cell (by omega)]; rfl, by rw [hw.cell (by omega)]; rfl⟩ ⟨_, hw⟩ (by simp)
  clear h hr hw
  unfold Oper.wp
  go_simp
  exact this
end

/-- In the midst of drawing: the reader, the boxes of the answer, the tree in its box. -/
structure L5 (w W : World) (rb P q2 q3 q4 b c : Nat) (os : List LObj) (vs : Nat → Value) : Prop where
  lo : rb < w.heap.size
  but : But rb w W
  rd : RdTo W rb P
  r2 : W.rowIs q2 25 1 (fun _ => .slice none 0 0)
  r3 : W.rowIs q3 29 4 (zrow #[.int .i64 0, .int .i64 0, .slice none 0 0, .slice none 0 0])
  r4 : W.rowIs q4 25 1 (fun _ => .slice (some ⟨b, 0, none⟩) 32 c)
  l2 : w.heap.size ≤ q2
  l3 : w.heap.size ≤ q3
  l4 : w.heap.size ≤ q4
  n24 : q2 ≠ q4
  tree : OwnT W w.heap.size b c os vs
  len : os.length = 32
  sm : Sm os 60
section
variable {w W W' : World} {rb P P' q2 q3 q4 b c : Nat} {os : List LObj} {vs : Nat → Value}
theorem L5.next (h : L5 w W rb P q2 q3 q4 b c os vs) (hb : But rb W W') (hr : RdTo W' rb P') : L5 w W' rb P' q2 q3 q4 b c os vs := by
  have hlo := h.lo
  have a2 := h.l2
  have a3 := h.l3
  have a4 := h.l4
  exact ⟨h.lo, h.but.trans hb, hr, h.r2.of_block (hb.block _ (by omega) h.r2.lt), h.r3.of_block (hb.block _ (by omega) h.r3.lt), h.r4.of_block (hb.block _ (by omega) h.r4.lt), h.l2, h.l3, h.l4, h.n24, h.tree.but hb h.lo, h.len, h.sm⟩
theorem L5.size (h : L5 w W rb P q2 q3 q4 b c os vs) : w.heap.size < W.heap.size := by have := h.r4.lt; have := h.l4; omega
theorem L5.more (h : L5 w W rb P q2 q3 q4 b c os vs) (hb : Below W.heap.size W W') : L5 w W' rb P q2 q3 q4 b c os vs :=
  h.next (But.of_below (by have := h.lo; have := h.size; omega) hb) (h.rd.but hb (by have := h.lo; have := h.size; omega))
theorem L5.on (h : L5 w W rb P q2 q3 q4 b c os vs) (hP : P ≤ P') : L5 w W rb P' q2 q3 q4 b c os vs := by
  obtain ⟨q, hq, R⟩ := h.rd
  exact ⟨h.lo, h.but, ⟨q, by omega, R⟩, h.r2, h.r3, h.r4, h.l2, h.l3, h.l4, h.n24, h.tree, h.len, h.sm⟩
end
theorem OwnOps.but_ {W W' : World} {B rb : Nat} {v : Value} {l : List LOp} (h : OwnOps W B v l) (hb : But rb W W') (hr : rb < B) : OwnOps W' B v l := World.ownsRow.kept h hb.grown (.inr fun e => by have := (h.lt rb e).1; omega)
theorem OwnBases.but_ {W W' : World} {B rb : Nat} {v : Value} {l : List LBase} (h : OwnBases W B v l) (hb : But rb W W') (hr : rb < B) : OwnBases W' B v l := World.ownsRow.kept h hb.grown (.inr fun e => by have := (World.ownsRow.lt h rb e).1; omega)
theorem OwnOps.at2 {w : World} {B : Nat} {a : Option Addr} {n c : Nat} {l : List LOp} (h : OwnOps w B (.slice a n c) l) (hz : ∀ o ∈ l, OpSz o) : OpsAt w B w.heap.size a n l := by
  obtain ⟨a1, c1, e, h1⟩ := h.at_ hz
  simp only [Value.slice.injEq] at e
  obtain ⟨rfl, rfl, _⟩ := e
  exact h1
theorem LogCells.zero {W : World} {q : Nat} (h : W.rowIs q 29 4 (zrow #[.int .i64 0, .int .i64 0, .slice none 0 0, .slice none 0 0])) : LogCells W q := ⟨0, 0, none, 0, 0, none, 0, 0, by rw [h.cell (by omega)]; rfl, by rw [h.cell (by omega)]; rfl, by rw [h.cell (by omega)]; rfl, by rw [h.cell (by omega)]; rfl⟩
theorem But.both {W3 V F : World} {rb q : Nat} (h : But rb W3 V) (hb : But q V F) (hq : W3.heap.size ≤ q) (hr : rb ≤ q) : But rb W3 F := ⟨h.below.trans (hb.below.mono hr), fun i hi hl => (hb.block i (by omega) (by have := h.below.size; omega)).trans (h.block i hi hl)⟩
theorem RdTo.both {V F : World} {rb q P : Nat} (h : RdTo V rb P) (hb : But q V F) (hr : rb < q) : RdTo F rb P := by
  obtain ⟨p, hp, R⟩ := h
  exact ⟨p, hp, R.below hb.below hr⟩
theorem RdTo.on {V : World} {rb P P' : Nat} (h : RdTo V rb P) (hP : P ≤ P') : RdTo V rb P' := by
  obtain ⟨p, hp, R⟩ := h
  exact ⟨p, by omega, R⟩
theorem DoneOp.sz {o : LOp} (h : DoneOp o) : OpSz o := h.1.sz
theorem MakeEnd.parts {w w' : World} {l : LLog} {e : Ending} (h : MakeEnd w l e w') : ∃ a c a' c', e = .returned (.agg #[.int .i64 l.who, .int .i64 l.seq, .slice a l.bases.length c, .slice a' l.list.length c']) ∧ OwnBases w' w.heap.size (.slice a l.bases.length c) l.bases ∧ OwnOps w' w.heap.size (.slice a' l.list.length c') l.list ∧ Below w.heap.size w w' := by
  obtain ⟨⟨v1, v2, rfl, h1, h2⟩, hB⟩ := h
  obtain ⟨a, c, rfl⟩ := h1.form
  obtain ⟨a', c', g, cap, f, rfl, _⟩ := h2.row
  exact ⟨a, c, a', c', rfl, h1, h2, hB⟩
theorem logMake_few (os : List LObj) (q s : Int) (ops : List LOp) (hz : ∀ o ∈ ops, OpSz o) : (logMake os q s ops).bases.length ≤ 32 ∧ ∀ o ∈ (logMake os q s ops).list, OpSz o := by
  unfold logMake
  split
  · exact ⟨by rw [basesL_len]; exact logIds_le _, hz⟩
  · exact ⟨by simp, fun o ho => by cases ho⟩
/-- A row of another type is no part of a list of bases. -/
theorem OwnBases.ne_row {W : World} {B q t k : Nat} {v : Value} {l : List LBase} {f : Nat → Value} (h : OwnBases W B v l) (hr : W.rowIs q t k f) (ht : t ≠ 40) : v.ownBlock ≠ some q := fun e => by
  rcases h.2 with ⟨hn, _⟩ | ⟨g, cap, cur, hn, _, hgg, _⟩
  · rw [hn] at e; simp [Value.ownBlock] at e
  · rw [hn] at e
    simp [Value.ownBlock] at e
    subst e
    obtain ⟨cs, h1, _⟩ := hr
    rw [hgg] at h1
    simp at h1
    exact ht h1.2.symm
theorem OwnOps.ne_row {W : World} {B q t k : Nat} {v : Value} {l : List LOp} {f : Nat → Value} (h : OwnOps W B v l) (hr : W.rowIs q t k f) (ht : t ≠ 99) : v.ownBlock ≠ some q := fun e => by
  rcases h.2 with ⟨hn, _⟩ | ⟨g, cap, cur, hn, _, hgg, _⟩
  · rw [hn] at e; simp [Value.ownBlock] at e
  · rw [hn] at e
    simp [Value.ownBlock] at e
    subst e
    obtain ⟨cs, h1, _⟩ := hr
    rw [hgg] at h1
    simp at h1
    exact ht h1.2.symm
theorem OwnBases.rowOf_ {W : World} {B g : Nat} {v : Value} {l : List LBase} (h : OwnBases W B v l) (e : v.ownBlock = some g) : ∃ k f, W.rowIs g 40 k f := by
  rcases h.2 with ⟨hn, _⟩ | ⟨g', cap, cur, hn, _, hgg, _⟩
  · rw [hn] at e; simp [Value.ownBlock] at e
  · rw [hn] at e
    simp [Value.ownBlock] at e
    subst e
    exact ⟨cur.size, fun i => cur[i]?.getD default, ⟨cur, hgg, rfl, fun i hi => by simp [Array.getElem?_eq_getElem hi]⟩⟩

/-- Behind the making of the log: what is new, its box, its lists. -/
structure L5b (W3 W : World) (rb P q8 : Nat) (x y : Int) (a : Option Addr) (k : Nat) (a' : Option Addr) (k' : Nat) (l : LLog) : Prop where
  but : But rb W3 W
  rd : RdTo W rb P
  box : LogBox W q8 x y a l.bases.length k a' l.list.length k'
  row : ∃ f, W.rowIs q8 29 4 f
  lo : W3.heap.size ≤ q8
  who : x = l.who
  seq : y = l.seq
  bases : OwnBases W W3.heap.size (.slice a l.bases.length k) l.bases
  list : OwnOps W W3.heap.size (.slice a' l.list.length k') l.list
  few : l.bases.length ≤ 40
  sz : ∀ o ∈ l.list, OpSz o
theorem L5b.next {W3 W W' : World} {rb P P' q8 : Nat} {x y : Int} {a : Option Addr} {k : Nat} {a' : Option Addr} {k' : Nat} {l : LLog} (h : L5b W3 W rb P q8 x y a k a' k' l) (hr3 : rb < W3.heap.size) (hb : But rb W W') (hr : RdTo W' rb P') : L5b W3 W' rb P' q8 x y a k a' k' l := by
  obtain ⟨f, hf⟩ := h.row
  have hlo := h.lo
  have hk := hb.block q8 (by omega) hf.lt
  exact ⟨h.but.trans hb, hr, h.box.of hk, ⟨f, hf.of_block hk⟩, h.lo, h.who, h.seq, h.bases.but_ hb hr3, h.list.but_ hb hr3, h.few, h.sz⟩
theorem L5b.on {W3 W : World} {rb P P' q8 : Nat} {x y : Int} {a : Option Addr} {k : Nat} {a' : Option Addr} {k' : Nat} {l : LLog} (h : L5b W3 W rb P q8 x y a k a' k' l) (hP : P ≤ P') : L5b W3 W rb P' q8 x y a k a' k' l := by
  obtain ⟨q, hq, R⟩ := h.rd
  exact ⟨h.but, ⟨q, by omega, R⟩, h.box, h.row, h.lo, h.who, h.seq, h.bases, h.list, h.few, h.sz⟩
/-- A cell of the box is written. -/
theorem L5b.put {W3 W : World} {rb P q8 : Nat} {x y x' y' : Int} {a : Option Addr} {k : Nat} {a' : Option Addr} {k' : Nat} {l : LLog} (h : L5b W3 W rb P q8 x y a k a' k' l) (hr3 : rb < W3.heap.size) (W' : World) (hb : But q8 W W') (hf : ∃ f, W'.rowIs q8 29 4 f) (hx : LogBox W' q8 x' y' a l.bases.length k a' l.list.length k') : L5b W3 W' rb P q8 x' y' a k a' k' { l with who := x', seq := y' } := by
  obtain ⟨f, hf0⟩ := h.row
  have hlo := h.lo
  obtain ⟨p, hp, R⟩ := h.rd
  have hg : W.grownBy W' (some q8) := hb.grown
  exact ⟨⟨h.but.below.trans (hb.below.mono (by omega)), fun i hi hl => (hb.block i (by omega) (by have := h.but.below.size; omega)).trans (h.but.block i hi hl)⟩, ⟨p, hp, R.below hb.below (by omega)⟩, hx, hf, h.lo, rfl, rfl, World.ownsRow.kept h.bases hg (.inr (h.bases.ne_row hf0 (by decide))), World.ownsRow.kept h.list hg (.inr (h.list.ne_row hf0 (by decide))), h.few, h.sz⟩

theorem drewL5b {W3 W : World} {rb P q8 : Nat} {x y : Int} {a : Option Addr} {k : Nat} {a' : Option Addr} {k' : Nat} {l : LLog} (hr3 : rb < W3.heap.size) (h : L5b W3 W rb P q8 x y a k a' k' l) : L5b W3 W.drew rb P q8 x y a k a' k' l := by
  obtain ⟨f, hf⟩ := h.row
  obtain ⟨q, hq, R⟩ := h.rd
  have hb : Below W.heap.size W W.drew := (Below.refl _ _).drew
  have hlt := hf.lt
  exact ⟨⟨h.but.below.trans (hb.mono (by have := h.but.below.size; have := h.lo; omega)), fun i hi hl => (hb.block i (by have := h.but.below.size; omega)).trans (h.but.block i hi hl)⟩, ⟨q, hq, R.below hb (by have := h.lo; omega)⟩, h.box.of (hb.block _ hlt), ⟨f, hf.of_block (hb.block _ hlt)⟩, h.lo, h.who, h.seq, h.bases.next hb, h.list.next hb, h.few, h.sz⟩
theorem LogBox.set0 {W : World} {q : Nat} {x y : Int} {a : Option Addr} {n c : Nat} {a' : Option Addr} {n' c' : Nat} (h : LogBox W q x y a n c a' n' c') (v : Int) : LogBox (W.setCell ⟨q, 0, none⟩ (.int .i64 v)) q v y a n c a' n' c' := ⟨by simp [go_sem, h.c0], by simp [go_sem, h.c1], by simp [go_sem, h.c2], by simp [go_sem, h.c3]⟩
theorem LogBox.set1 {W : World} {q : Nat} {x y : Int} {a : Option Addr} {n c : Nat} {a' : Option Addr} {n' c' : Nat} (h : LogBox W q x y a n c a' n' c') (v : Int) : LogBox (W.setCell ⟨q, 1, none⟩ (.int .i64 v)) q x v a n c a' n' c' := ⟨by simp [go_sem, h.c0], by simp [go_sem, h.c1], by simp [go_sem, h.c2], by simp [go_sem, h.c3]⟩
theorem LogBox.set2 {W : World} {q : Nat} {x y : Int} {a : Option Addr} {n c : Nat} {a' : Option Addr} {n' c' : Nat} (h : LogBox W q x y a n c a' n' c') (b : Option Addr) (m d : Nat) : LogBox (W.setCell ⟨q, 2, none⟩ (.slice b m d)) q x y b m d a' n' c' := ⟨by simp [go_sem, h.c0], by simp [go_sem, h.c1], by simp [go_sem, h.c2], by simp [go_sem, h.c3]⟩
theorem ownNe {W : World} {B B' : Nat} {u v : Value} {bs : List LBase} {ops : List LOp} (h : OwnBases W B u bs) (h' : OwnOps W B' v ops) : v.ownBlock = none ∨ v.ownBlock ≠ u.ownBlock := by
  rcases e : v.ownBlock with _ | g
  · exact .inl rfl
  · refine .inr fun e2 => ?_
    obtain ⟨k, f, hr⟩ := h.rowOf_ e2.symm
    exact h'.ne_row hr (by decide) e
/-- One base more. -/
theorem L5b.app {W3 W W' : World} {rb P q8 : Nat} {x y : Int} {a : Option Addr} {k : Nat} {a' : Option Addr} {k' : Nat} {l : LLog} {v : Value} {e : LBase} (h : L5b W3 W rb P q8 x y a k a' k' l) (hr3 : rb < W3.heap.size) (hE : AppBEnd W W' W3.heap.size (.slice a l.bases.length k) v (l.bases ++ [e])) (hn : l.bases.length ≤ 32) :
    ∃ a2 k2, v = .slice a2 (l.bases ++ [e]).length k2 ∧ W'.cell? ⟨q8, 2, none⟩ = some (.slice a l.bases.length k) ∧ W'.frozen? ⟨q8, 2, none⟩ = false ∧ L5b W3 (W'.setCell ⟨q8, 2, none⟩ v) rb P q8 x y a2 k2 a' k' { l with bases := l.bases ++ [e] } := by
  obtain ⟨f, hf⟩ := h.row
  have hlo := h.lo
  obtain ⟨p, hp, R⟩ := h.rd
  have hsz := h.but.below.size
  have hA0 : Below W3.heap.size W W' := below_grown (Below.refl _ _) hE.grown (fun i e => (World.ownsRow.lt h.bases i e).1) hsz
  have hq : W'.heap[q8]? = W.heap[q8]? := hE.grown.block q8 hf.lt (fun e => h.bases.ne_row hf (by decide) e.symm)
  have hf' := hf.of_block hq
  have hx := h.box.of hq
  obtain ⟨a2, k2, hv⟩ := hE.own.form
  subst hv
  have hs := (But.refl q8 W').set 2 (.slice a2 (l.bases ++ [e]).length k2)
  have hl' := World.ownsRow.kept h.list hE.grown (ownNe h.bases h.list)
  refine ⟨a2, k2, rfl, hx.c2, hf'.frozen 2, ⟨?_, ?_⟩, ⟨p, hp, (R.below hA0 hr3).below hs.below (by omega)⟩, hx.set2 _ _ _, ⟨_, hf'.set 2 _⟩, h.lo, h.who, h.seq, World.ownsRow.kept hE.own hs.grown (.inr (hE.own.ne_row hf' (by decide))), World.ownsRow.kept hl' hs.grown (.inr (OwnOps.ne_row hl' hf' (by decide))), by simp; omega, h.sz⟩
  · exact (h.but.below.trans (hA0.mono (by omega))).trans (hs.below.mono (by omega))
  · exact fun i hi hl => (hs.block i (by omega) (by have := hA0.size; omega)).trans ((hA0.block i hl).trans (h.but.block i hi hl))
/-- The first Ver is another one. -/
theorem L5b.ver {W3 W : World} {rb P q8 : Nat} {x y : Int} {a : Option Addr} {k : Nat} {a' : Option Addr} {k' : Nat} {l : LLog} (h : L5b W3 W rb P q8 x y a k a' k' l) (hr3 : rb < W3.heap.size) (hn : 0 < l.bases.length) :
    ∃ g z, a = some ⟨g, 0, none⟩ ∧ g < W.heap.size ∧ q8 ≠ g ∧ W.cell? ⟨g, 1, none⟩ = some (.int .i64 z) ∧ W.frozen? ⟨g, 1, none⟩ = false ∧ ∀ v : Int, ∃ l', l'.bases.length = l.bases.length ∧ l'.list.length = l.list.length ∧ L5b W3 (W.setCell ⟨g, 1, none⟩ (.int .i64 v)) rb P q8 x y a k a' k' l' := by
  obtain ⟨f, hf⟩ := h.row
  have hlo := h.lo
  obtain ⟨p, hp, R⟩ := h.rd
  obtain ⟨e, es, hes⟩ : ∃ e es, l.bases = e :: es := by
    match hb : l.bases, hn with
    | e :: es, _ => exact ⟨e, es, rfl⟩
  have hB := h.bases
  rcases hB.2 with ⟨_, h0⟩ | ⟨g, cap, cur, hv, hg, hgg, hnc, hcm, hcs, htake⟩
  · omega
  simp only [Value.slice.injEq] at hv
  obtain ⟨rfl, _, rfl⟩ := hv
  have hglt : g < W.heap.size := (Array.getElem?_eq_some_iff.1 hgg).1
  have hrow : W.rowIs g 40 cur.size (fun i => cur[i]?.getD default) := ⟨cur, hgg, rfl, fun i hi => by simp [Array.getElem?_eq_getElem hi]⟩
  have hne : q8 ≠ g := fun e => by
    have := hB.ne_row hf (by decide)
    rw [e] at this
    exact this rfl
  have hcur : cur.toList.take (l.bases.length * 2) = baseCells l.bases := htake
  have h1 : cur[1]? = some (.int .i64 e.ver) := by
    have h2 : (cur.toList.take (l.bases.length * 2))[1]? = (baseCells l.bases)[1]? := by rw [hcur]
    rw [hes] at h2
    rw [List.getElem?_take_of_lt (by simp; omega)] at h2
    simpa [baseCells] using h2
  have hlt1 : 1 < cur.size := (Array.getElem?_eq_some_iff.1 h1).1
  refine ⟨g, e.ver, rfl, hglt, hne, by rw [hrow.cell hlt1]; simp [h1], hrow.frozen 1, fun v => ?_⟩
  have hs := (But.refl g W).set 1 (.int .i64 v)
  refine ⟨{ l with bases := { e with ver := v } :: es }, by simp [hes], rfl, ⟨?_, ?_⟩, ⟨p, hp, R.below hs.below (by omega)⟩, ?_, ⟨f, hf.of_block (hs.block _ hne hf.lt)⟩, h.lo, h.who, h.seq, ?_, ?_, by have := h.few; simp [hes] at this ⊢; omega, h.sz⟩
  · exact h.but.below.trans (hs.below.mono (by omega))
  · exact fun i hi hl => (hs.block i (by omega) (by have := h.but.below.size; omega)).trans (h.but.block i hi hl)
  · have := h.box.of (hs.block q8 hne hf.lt)
    simpa [hes] using this
  · have hlen : ({ e with ver := v } :: es : List LBase).length = l.bases.length := by simp [hes]
    obtain ⟨cs, hc1, hc2, hc3⟩ := hrow.set 1 (.int .i64 v)
    have hcs2 : cs.toList = cur.toList.set 1 (.int .i64 v) := by
      refine List.ext_getElem? fun i => ?_
      by_cases hi : i < cur.size
      · have h3 := hc3 i hi
        rw [Array.getElem?_toList, h3, List.getElem?_set]
        by_cases hi1 : i = 1
        · subst hi1; simp [hi]
        · dsimp only
          rw [if_neg hi1, if_neg (fun e => hi1 e.symm)]
          simp [Array.getElem?_eq_getElem hi]
      · rw [List.getElem?_eq_none (by simp; omega), List.getElem?_eq_none (by simp; omega)]
    have hnew : cs.toList.take (l.bases.length * 2) = baseCells ({ e with ver := v } :: es) := by
      rw [hcs2, List.take_set, hcur, hes]
      simp [baseCells]
    unfold OwnBases
    rw [← hlen] at hnc hnew
    exact ⟨by simp [baseCells_len], .inr ⟨g, k, cs, by rw [hlen], hg, hc1, hnc, hcm, by rw [hc2]; exact hcs, hnew⟩⟩
  · exact World.ownsRow.kept h.list hs.grown (.inr fun e2 => OwnOps.ne_row h.list hrow (by decide) e2)

theorem OwnT.other {W W' : World} {B b c q t k : Nat} {os : List LObj} {vs : Nat → Value} {f : Nat → Value} (h : OwnT W B b c os vs) (hb : But q W W') (hq' : W.rowIs q t k f) (h1 : t ≠ 38) (h2 : t ≠ 137) : OwnT W' B b c os vs := by
  obtain ⟨cs, hq, _⟩ := hq'
  obtain ⟨cur, hr, _⟩ := h.row
  refine h.grown hb.grown ?_ fun i hi => ?_
  · intro e
    simp at e
    subst e
    rw [hr] at hq
    simp at hq
    exact h1 hq.2.symm
  · have ho : os[i]? = some os[i] := by simp [hi]
    obtain ⟨_, _, _, _, _, h6, _⟩ := h.at_ i _ ho
    rcases h6.2 with ⟨hn, _⟩ | ⟨g, cap, cur', hn, _, hg, _⟩
    · left; rw [hn]; rfl
    · right
      rw [hn]
      intro e
      simp [Value.ownBlock] at e
      subst e
      rw [hg] at hq
      simp at hq
      exact h2 hq.2.symm
theorem OwnBases.at3 {w : World} {B : Nat} {a : Option Addr} {n c : Nat} {l : List LBase} (h : OwnBases w B (.slice a n c) l) (hl : l.length ≤ 1000) : BasesAt w B w.heap.size a n l := by
  obtain ⟨a1, c1, g, cap, f, e, _, hr, hf⟩ := h.row
  simp only [Value.slice.injEq] at e
  obtain ⟨rfl, rfl, rfl⟩ := e
  exact hr.at_ hf rfl (by unfold maxLen; omega)
theorem OwnOps.capM3 {w : World} {B : Nat} {a : Option Addr} {n c : Nat} {l : List LOp} (h : OwnOps w B (.slice a n c) l) : n ≤ c ∧ c ≤ maxLen := by
  rcases h.2 with ⟨e, h0⟩ | ⟨g, cap, cur, e, _, _, h1, h2, _⟩
  · cases e; exact ⟨by omega, Nat.zero_le _⟩
  · cases e; exact ⟨h1, h2⟩
/-- A tree and a log of one's own. -/
structure Fin5 (w W : World) (rb P b c : Nat) (os : List LObj) (vs : Nat → Value) (a : Option Addr) (k : Nat) (a' : Option Addr) (k' : Nat) (l : LLog) : Prop where
  lo : rb < w.heap.size
  but : But rb w W
  rd : RdTo W rb P
  tree : OwnT W w.heap.size b c os vs
  bases : OwnBases W w.heap.size (.slice a l.bases.length k) l.bases
  list : OwnOps W w.heap.size (.slice a' l.list.length k') l.list
theorem Fin5.step {w W W' : World} {rb P b c q t m : Nat} {os : List LObj} {vs : Nat → Value} {a : Option Addr} {k : Nat} {a' : Option Addr} {k' : Nat} {l : LLog} {f : Nat → Value} (h : Fin5 w W rb P b c os vs a k a' k' l) (hb : But q W W') (hq : w.heap.size ≤ q) (hr : W.rowIs q t m f) (ht : t = 25 ∨ t = 29) : Fin5 w W' rb P b c os vs a k a' k' l := by
  have hlo := h.lo
  exact ⟨h.lo, h.but.both hb hq (by omega), h.rd.both hb (by omega), h.tree.other hb hr (by omega) (by omega), World.ownsRow.kept h.bases hb.grown (.inr (h.bases.ne_row hr (by omega))), World.ownsRow.kept h.list hb.grown (.inr (h.list.ne_row hr (by omega)))⟩
theorem L5b.fin {w W3 W : World} {rb P P' q2 q3 q4 b c q8 : Nat} {os : List LObj} {vs : Nat → Value} {x y : Int} {a : Option Addr} {k : Nat} {a' : Option Addr} {k' : Nat} {l : LLog} (h : L5b W3 W rb P q8 x y a k a' k' l) (h3 : L5 w W3 rb P' q2 q3 q4 b c os vs) : Fin5 w W rb P b c os vs a k a' k' l := by
  have h5 := h3.next h.but h.rd
  have hs := h3.size
  exact ⟨h5.lo, h5.but, h5.rd, h5.tree, h.bases.base (by omega), h.list.base (by omega)⟩
end Go.Proofs.Ytdjffkiiglilnaa
