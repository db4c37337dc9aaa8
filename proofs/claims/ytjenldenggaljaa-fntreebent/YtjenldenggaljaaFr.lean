/- What is done, of a tree of one's own: the frame of the calls. -/
import Derived.Test.YtjenldenggaljaaPutV
import Derived.Test.YtjenldenggaljaaFind
import Derived.Deep.QuietTactic
import Derived.BigQuiet
namespace Go.Proofs.Ytjenldenggaljaa
open Go.RowKit

/-- Blocks that are no part of the tree are as they were. -/
def Kt (w w' : World) (b n : Nat) (vs : Nat → Value) : Prop := ∀ q, q < w.heap.size → q ≠ b → (∀ i, i < n → (vs i).ownBlock ≠ some q) → w'.heap[q]? = w.heap[q]?
def DoEnd (w : World) (B b c n : Nat) (vs : Nat → Value) (r : List LObj × Int) (e : Ending) (w' : World) : Prop :=
  ∃ vs', e = .returned (.tuple #[.agg #[.slice (some ⟨b, 0, none⟩) r.1.length c], .int .i64 r.2]) ∧ OwnT w' B b c r.1 vs' ∧ Below B w w' ∧ Kt w w' b n vs
theorem Kt.of_below {w W : World} (h : Below w.heap.size w W) (b n : Nat) (vs : Nat → Value) : Kt w W b n vs := fun q hq _ _ => h.block q hq
theorem Kt.step {w W W' : World} {b n : Nat} {vs : Nat → Value} (h : Kt w W b n vs) (hs : ∀ q, q < w.heap.size → q ≠ b → (∀ i, i < n → (vs i).ownBlock ≠ some q) → W'.heap[q]? = W.heap[q]?) : Kt w W' b n vs := fun q h1 h2 h3 => (hs q h1 h2 h3).trans (h q h1 h2 h3)
theorem Kt.set {w W : World} {b n : Nat} {vs : Nat → Value} (h : Kt w W b n vs) (k : Nat) (v : Value) : Kt w (W.setCell ⟨b, k, none⟩ v) b n vs := h.step fun q _ h2 _ => Below.heap_setCell W ⟨b, k, none⟩ v q h2
theorem Kt.setNew {w W : World} {b n : Nat} {vs : Nat → Value} (h : Kt w W b n vs) {g : Nat} (hg : w.heap.size ≤ g) (k : Nat) (v : Value) : Kt w (W.setCell ⟨g, k, none⟩ v) b n vs := h.step fun q h1 _ _ => Below.heap_setCell W ⟨g, k, none⟩ v q (by simp; omega)
theorem Kt.turn {w W W' : World} {b n : Nat} {vs : Nat → Value} (h : Kt w W b n vs) (hs : w.heap.size ≤ W.heap.size) (hg : W.grownBy W' (some b)) : Kt w W' b n vs := h.step fun q h1 h2 _ => hg.block q (by omega) (by simpa using h2)
theorem OwnT.below {w w' : World} {B b c : Nat} {os : List LObj} {vs : Nat → Value} (h : OwnT w B b c os vs) (hb : Below w.heap.size w w') : OwnT w' B b c os vs :=
  h.grown (row := none) ⟨hb.os, hb.tape, hb.output, hb.size, fun k hk _ => hb.block k hk⟩ (by simp) fun i _ => by cases hv : (vs i).ownBlock <;> simp

/-- The three boxes of a call: the tree, what is done, and the tree that is answered. -/
structure Fr (A : Nat) (W : World) (b c n : Nat) (o : LOp) : Prop where
  size : A + 1 + 1 < W.heap.size
  t : W.cell? ⟨A, 0, none⟩ = some (.slice (some ⟨b, 0, none⟩) n c)
  o0 : W.cell? ⟨A + 1, 0, none⟩ = some (.int .i64 o.kind)
  o1 : W.cell? ⟨A + 1, 1, none⟩ = some (.int .i64 o.dir)
  o2 : W.cell? ⟨A + 1, 2, none⟩ = some (.string o.name)
  o3 : W.cell? ⟨A + 1, 3, none⟩ = some (.int .i64 o.dir2)
  o4 : W.cell? ⟨A + 1, 4, none⟩ = some (.string o.name2)
  o5 : W.cell? ⟨A + 1, 5, none⟩ = some (.int .i64 o.id)
  o6 : W.cell? ⟨A + 1, 6, none⟩ = some (.string o.text)
  r : ∃ f, W.rowIs (A + 1 + 1) 25 1 f
  tb : ∃ f, W.rowIs A 25 1 f
theorem Fr.start (w : World) (b c n : Nat) (o : LOp) (v : Value) : Fr w.heap.size (((w.alloc (.cells #[.slice (some ⟨b, 0, none⟩) n c] 25)).alloc (.cells #[.int .i64 o.kind, .int .i64 o.dir, .string o.name, .int .i64 o.dir2, .string o.name2, .int .i64 o.id, .string o.text] 65)).alloc (.cells #[v] 25)) b c n o :=
  ⟨by simp, by simp [go_sem], by simp [go_sem], by simp [go_sem], by simp [go_sem], by simp [go_sem], by simp [go_sem], by simp [go_sem], by simp [go_sem], ⟨fun _ => v, by simpa using World.rowIs_alloc ((w.alloc (.cells #[.slice (some ⟨b, 0, none⟩) n c] 25)).alloc (.cells #[.int .i64 o.kind, .int .i64 o.dir, .string o.name, .int .i64 o.dir2, .string o.name2, .int .i64 o.id, .string o.text] 65)) #[v] 25 (fun _ => v) (fun i hi => by simp at hi; subst hi; rfl)⟩, ⟨fun _ => .slice (some ⟨b, 0, none⟩) n c, ((World.rowIs_alloc w #[.slice (some ⟨b, 0, none⟩) n c] 25 (fun _ => .slice (some ⟨b, 0, none⟩) n c) (fun i hi => by simp at hi; subst hi; rfl)).alloc _).alloc _⟩⟩
theorem Fr.of_blocks {A b c n : Nat} {W W' : World} {o : LOp} (h : Fr A W b c n o) (hs : W.heap.size ≤ W'.heap.size) (hb : ∀ q, A ≤ q → q ≤ A + 1 + 1 → W'.heap[q]? = W.heap[q]?) : Fr A W' b c n o := by
  have c0 : ∀ i, W'.cell? ⟨A, i, none⟩ = W.cell? ⟨A, i, none⟩ := fun i => World.cell?_of_block (w := W) (hb A (Nat.le_refl _) (by omega))
  have c1 : ∀ i, W'.cell? ⟨A + 1, i, none⟩ = W.cell? ⟨A + 1, i, none⟩ := fun i => World.cell?_of_block (w := W) (hb (A + 1) (by omega) (by omega))
  obtain ⟨x, hx⟩ := h.r
  obtain ⟨y, hy⟩ := h.tb
  exact ⟨by have := h.size; omega, by rw [c0]; exact h.t, by rw [c1]; exact h.o0, by rw [c1]; exact h.o1, by rw [c1]; exact h.o2, by rw [c1]; exact h.o3, by rw [c1]; exact h.o4, by rw [c1]; exact h.o5, by rw [c1]; exact h.o6, ⟨x, hx.of_block (hb _ (by omega) (Nat.le_refl _))⟩, ⟨y, hy.of_block (hb _ (Nat.le_refl _) (by omega))⟩⟩
theorem Fr.next {A b c n : Nat} {W W' : World} {o : LOp} (h : Fr A W b c n o) (hb : Below W.heap.size W W') : Fr A W' b c n o :=
  h.of_blocks hb.size fun q _ h2 => hb.block q (by have := h.size; omega)
theorem Fr.res {A b c n : Nat} {W : World} {o : LOp} (h : Fr A W b c n o) : (∃ x, W.cell? ⟨A + 1 + 1, 0, none⟩ = some x) ∧ W.frozen? ⟨A + 1 + 1, 0, none⟩ = false := by
  obtain ⟨x, hx⟩ := h.r
  exact ⟨⟨_, hx.cell (by omega)⟩, hx.frozen 0⟩

/-- A store into a box leaves the tree. -/
theorem OwnT.setBox {W : World} {B b c q : Nat} {os : List LObj} {vs : Nat → Value} (h : OwnT W B b c os vs) (hq' : ∃ f, W.rowIs q 25 1 f) (k : Nat) (v : Value) : OwnT (W.setCell ⟨q, k, none⟩ v) B b c os vs := by
  obtain ⟨f, cs, hq, _⟩ := hq'
  obtain ⟨cur, hr, _⟩ := h.row
  refine h.grown (row := some q) ⟨rfl, rfl, rfl, by simp, fun i _ hi => Below.heap_setCell W ⟨q, k, none⟩ v i (by intro e; exact hi (by simp [e]))⟩ ?_ fun i hi => ?_
  · intro e
    simp at e
    subst e
    rw [hr] at hq
    simp at hq
  · have ho : os[i]? = some os[i] := by simp [hi]
    obtain ⟨_, _, _, _, _, h6, _⟩ := h.at_ i _ ho
    rcases h6.2 with ⟨hn, _⟩ | ⟨g, cap, cur', hn, _, hg, _⟩
    · left; rw [hn]; rfl
    · right
      rw [hn]
      intro e
      simp [Value.ownBlock] at e
      subst e
      rw [hg] at hq
      simp at hq

/-- An object is put anew, without text and names. -/
def put4 (W : World) (b i : Nat) (k v : Int) : World := (((W.setCell ⟨b, i * 4, none⟩ (.int .i64 k)).setCell ⟨b, i * 4 + 1, none⟩ (.int .i64 v)).setCell ⟨b, i * 4 + 2, none⟩ (.string ⟨#[]⟩)).setCell ⟨b, i * 4 + 3, none⟩ (.slice none 0 0)
theorem put4_size (W : World) (b i : Nat) (k v : Int) : (put4 W b i k v).heap.size = W.heap.size := by simp [put4]
theorem put4_block (W : World) (b i : Nat) (k v : Int) {q : Nat} (h : q ≠ b) : (put4 W b i k v).heap[q]? = W.heap[q]? := by
  unfold put4
  rw [Below.heap_setCell _ _ _ q (by simpa using h), Below.heap_setCell _ _ _ q (by simpa using h), Below.heap_setCell _ _ _ q (by simpa using h), Below.heap_setCell _ _ _ q (by simpa using h)]
theorem put4_below {w W : World} {B b : Nat} (i : Nat) (k v : Int) (h : Below B w W) (hb : B ≤ b) : Below B w (put4 W b i k v) :=
  (((h.setCell (by simpa using hb) _).setCell (by simpa using hb) _).setCell (by simpa using hb) _).setCell (by simpa using hb) _
theorem OwnT.put4 {W : World} {B b c i : Nat} {os : List LObj} {vs : Nat → Value} {x : LObj} (h : OwnT W B b c os vs) (hx : os[i]? = some x) (k v : Int) :
    OwnT (put4 W b i k v) B b c (os.set i ⟨k, v, ⟨#[]⟩, []⟩) (fun j => if j = i then .slice none 0 0 else vs j) := by
  have hl : i < os.length := (List.getElem?_eq_some_iff.1 hx).1
  have s1 := h.setKind hx k
  have s2 := s1.setVer (i := i) (o := { x with kind := k }) (List.getElem?_set_self hl) v
  rw [List.set_set] at s2
  have s3 := s2.setText (i := i) (o := { x with kind := k, ver := v }) (List.getElem?_set_self hl) ⟨#[]⟩ (Nat.zero_le _)
  rw [List.set_set] at s3
  have s4 := s3.setKids (i := i) (o := { x with kind := k, ver := v, text := ⟨#[]⟩ }) (List.getElem?_set_self hl) (OwnEnts.bare _ B) (by intro e he; cases he) (fun _ _ _ _ h => by cases h)
  rw [List.set_set] at s4
  exact s4
theorem Kt.put4 {w W : World} {b n i : Nat} {vs : Nat → Value} {k v : Int} (h : Kt w W b n vs) : Kt w (put4 W b i k v) b n vs := h.step fun _ _ h2 _ => put4_block W b i k v h2
theorem Fr.put4 {A b c n i : Nat} {W : World} {o : LOp} {k v : Int} (h : Fr A W b c n o) (hb : b < A) : Fr A (put4 W b i k v) b c n o :=
  h.of_blocks (by rw [put4_size]; exact Nat.le_refl _) fun q h1 _ => put4_block W b i k v (by omega)

theorem mem_putL {x e : LEnt} {es : List LEnt} (h : e ∈ putL x es) : e = x ∨ e ∈ es := by
  unfold putL at h
  simp at h
  rcases h with h | h | h
  · exact .inr (List.mem_of_mem_take h)
  · exact .inl h
  · exact .inr (List.mem_of_mem_drop h)
/-- What grows in a row of names leaves the boxes. -/
theorem Fr.grown {A b c n : Nat} {W W' : World} {o : LOp} {row : Option Nat} (h : Fr A W b c n o) (hg : W.grownBy W' row) (hr : ∀ g, row = some g → g < A ∨ A + 1 + 1 < g) : Fr A W' b c n o :=
  h.of_blocks hg.size fun q h1 h2 => hg.block q (by have := h.size; omega) fun e => by
    rcases hr q e.symm with h | h <;> omega
theorem Fr.set {A b c n : Nat} {W : World} {o : LOp} (h : Fr A W b c n o) (hb : b < A) (k : Nat) (v : Value) : Fr A (W.setCell ⟨b, k, none⟩ v) b c n o :=
  h.of_blocks (by simp) fun q h1 _ => Below.heap_setCell W ⟨b, k, none⟩ v q (by simp; omega)

/-- Behind a change of one object's names ahead of its store. -/
structure KidsFr (A : Nat) (w W W' : World) (B b c n j : Nat) (o : LOp) (os : List LObj) (vs : Nat → Value) (v v' : Value) (es : List LEnt) : Prop where
  fr : Fr A W' b c n o
  cell : W'.cell? ⟨b, j * 4 + 3, none⟩ = some v
  frozen : W'.frozen? ⟨b, j * 4 + 3, none⟩ = false
  lt : b < W'.heap.size
  size : A + 1 + 1 < W'.heap.size
  below : Below B w W'
  keep : ∀ q, q < W.heap.size → v.ownBlock ≠ some q → W'.heap[q]? = W.heap[q]?
  done : ∀ d, os[j]? = some d → (∀ e ∈ es, e.name.size ≤ maxLen) → OwnT (W'.setCell ⟨b, j * 4 + 3, none⟩ v') B b c (os.set j { d with kids := es }) (fun q => if q = j then v' else vs q)
theorem kidsFr {A B b c n j : Nat} {w W W' : World} {o : LOp} {os : List LObj} {vs : Nat → Value} {v v' : Value} {es : List LEnt} {row : Option Nat} (hF : Fr A W b c n o) (hT : OwnT W B b c os vs) (hb : Below B w W) (hB : B ≤ W.heap.size) {d : LObj} (hd : os[j]? = some d) (hv : vs j = v)
    (hg : W.grownBy W' row) (hrow : row = none ∨ row = v.ownBlock) (hA : ∀ g, v.ownBlock = some g → g < A ∨ A + 1 + 1 < g) (ho : OwnEnts W' B v' es) (hat : ∀ g, v'.ownBlock = some g → v.ownBlock = some g ∨ W.heap.size ≤ g) : KidsFr A w W W' B b c n j o os vs v v' es := by
  obtain ⟨y1, y2, y3, y4, y5, y6, y7⟩ := hT.at_ j d hd
  have hbr : some b ≠ row := by
    rcases hrow with rfl | rfl
    · simp
    · rw [← hv]; exact fun e => hT.kids_ne y6 e.symm
  have hrB : ∀ g, row = some g → B ≤ g := by
    rcases hrow with rfl | rfl
    · intro g h; cases h
    · intro g h; rw [← hv] at h; exact (y6.lt g h).1
  refine ⟨hF.grown hg fun g h => ?_, by rw [hg.cell_far _ hT.lt hbr, y5, hv], ?_, by have := hg.size; have := hT.lt; omega, by have := hg.size; have := hF.size; omega, below_grown hb hg hrB hB, fun q hq hne => hg.block q hq ?_, fun d' hd' hs => ?_⟩
  · rcases hrow with rfl | rfl
    · cases h
    · exact hA g h
  · obtain ⟨cur, hr, _⟩ := hT.row
    exact frozen_of_row W' b _ cur 34 (by rw [hg.block b hT.lt hbr]; exact hr)
  · rcases hrow with rfl | rfl
    · simp
    · exact fun e => hne e.symm
  · exact hT.putKids hd' hg (by rw [hv]; exact hrow) ho hs (by rw [hv]; exact hat)
theorem Kt.kids {A B b c n j : Nat} {w W W' : World} {o : LOp} {os : List LObj} {vs0 vs : Nat → Value} {v v' : Value} {es : List LEnt} (h : Kt w W b n vs0) (hs : w.heap.size ≤ W.heap.size) (K : KidsFr A w W W' B b c n j o os vs v v' es)
    (hv : ∀ g, v.ownBlock = some g → (∃ i, i < n ∧ (vs0 i).ownBlock = some g) ∨ w.heap.size ≤ g) : Kt w W' b n vs0 := h.step fun q h1 _ h3 => K.keep q (by omega) fun e => by
  rcases hv q e with ⟨i, hi, h2⟩ | h2
  · exact h3 i hi h2
  · omega
theorem OwnEnts.shape {w : World} {B : Nat} {v : Value} {es : List LEnt} (h : OwnEnts w B v es) : ∃ a c, v = .slice a es.length c := by
  rcases h.2 with ⟨rfl, h0⟩ | ⟨g, cap, cur, rfl, _⟩
  · exact ⟨none, 0, by rw [h0]⟩
  · exact ⟨_, cap, rfl⟩
/-- The tree is put into its box again. -/
theorem Fr.retree {A b c n : Nat} {W : World} {o : LOp} (h : Fr A W b c n o) : Fr A (W.setCell ⟨A, 0, none⟩ (.slice (some ⟨b, 0, none⟩) n c)) b c n o := by
  have hc : ∀ q k, q ≠ A → (W.setCell ⟨A, 0, none⟩ (.slice (some ⟨b, 0, none⟩) n c)).cell? ⟨q, k, none⟩ = W.cell? ⟨q, k, none⟩ := fun q k hq => World.cell?_of_block (w := W) (Below.heap_setCell W ⟨A, 0, none⟩ _ q (by simpa using hq))
  obtain ⟨x, hx⟩ := h.r
  obtain ⟨y, hy⟩ := h.tb
  exact ⟨by simpa using h.size, by rw [World.cell?_setCell_same _ _ _ h.t], by rw [hc _ _ (by omega)]; exact h.o0, by rw [hc _ _ (by omega)]; exact h.o1, by rw [hc _ _ (by omega)]; exact h.o2, by rw [hc _ _ (by omega)]; exact h.o3, by rw [hc _ _ (by omega)]; exact h.o4, by rw [hc _ _ (by omega)]; exact h.o5, by rw [hc _ _ (by omega)]; exact h.o6,
    ⟨x, hx.of_block (Below.heap_setCell W ⟨A, 0, none⟩ _ _ (by simp; omega))⟩, ⟨_, hy.set 0 _⟩⟩
theorem Fr.tree {A b c n : Nat} {W : World} {o : LOp} (h : Fr A W b c n o) : W.frozen? ⟨A, 0, none⟩ = false := by
  obtain ⟨y, hy⟩ := h.tb
  exact hy.frozen 0
def turnL (os : List LObj) (i : Nat) : List LObj := match os[i]? with | some o => os.set i { o with ver := o.ver + 1 } | none => os
def kidsL (os : List LObj) (i : Nat) (f : List LEnt → List LEnt) : List LObj := match os[i]? with | some o => os.set i { o with kids := f o.kids } | none => os
theorem turnL_at {os : List LObj} {i : Nat} {o : LObj} (h : os[i]? = some o) : turnL os i = os.set i { o with ver := o.ver + 1 } := by simp [turnL, h]
theorem kidsL_at {os : List LObj} {i : Nat} {o : LObj} (h : os[i]? = some o) (f : List LEnt → List LEnt) : kidsL os i f = os.set i { o with kids := f o.kids } := by simp [kidsL, h]
theorem turnL_len (os : List LObj) (i : Nat) : (turnL os i).length = os.length := by unfold turnL; split <;> simp
theorem kidsL_len (os : List LObj) (i : Nat) (f : List LEnt → List LEnt) : (kidsL os i f).length = os.length := by unfold kidsL; split <;> simp
def Bd (os : List LObj) (M : Int) : Prop := ∀ x ∈ os, 0 ≤ x.ver ∧ x.ver ≤ M ∧ x.kids.length ≤ 1000000
theorem Bd.set {os : List LObj} {M : Int} (h : Bd os M) (i : Nat) {y : LObj} (hy : 0 ≤ y.ver ∧ y.ver ≤ M ∧ y.kids.length ≤ 1000000) : Bd (os.set i y) M := fun x hx => by
  rcases List.mem_or_eq_of_mem_set hx with h1 | rfl
  · exact h x h1
  · exact hy
end Go.Proofs.Ytjenldenggaljaa
