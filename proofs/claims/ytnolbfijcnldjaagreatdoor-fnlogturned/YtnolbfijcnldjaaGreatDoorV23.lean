/- Lemmas that the proofs of this seat share: TrialD, MarkO, MarkP, KB, MarkW, MarkX, ExactDoA, ExactDoB, AllA, LogQ, AllD, ActCode, ActTurn, ActFit, AllP, TurnedP. -/
import Derived.Test.YtnolbfijcnldjaaGreatDoorV22
import Derived.Test.YtnolbfijcnldjaaGreatDoorV03
import Derived.Test.YtnolbfijcnldjaaGreatDoorV05
import Derived.Test.YtnolbfijcnldjaaGreatDoorV07
import Derived.Deep.RegionWith
import Derived.RowKitTokens
import Derived.Test.YtnolbfijcnldjaaGreatDoorV01
import Derived.Test.YtnolbfijcnldjaaGreatDoorV12
import Derived.Test.YtnolbfijcnldjaaGreatDoorV08
import Derived.Test.YtnolbfijcnldjaaGreatDoorV17
import Derived.Test.YtnolbfijcnldjaaGreatDoorV18
import Derived.Test.YtnolbfijcnldjaaGreatDoorV19
import Derived.Test.YtnolbfijcnldjaaGreatDoorV13
import Derived.Test.YtnolbfijcnldjaaGreatDoorV14
/- ActDo of the program and of the specification. -/
namespace Go.Proofs.YtnolbfijcnldjaaGreatDoor
open Go.RowKit

theorem turnM_len (os : List LObj) (j l : Nat) : (turnM os j l).length = os.length := by
  have h : ∀ os k, (turnL os k).length = os.length := fun os k => by unfold turnL; split <;> simp
  unfold turnM
  split <;> simp [h]
theorem actDo_len (os : List LObj) (o : LOp) : (actDo os o).1.length = os.length := by
  unfold actDo
  repeat' split
  · rfl
  · unfold actNew; repeat' split
    all_goals simp
  · unfold actGone; repeat' split
    all_goals simp
  · unfold actMove; repeat' split
    all_goals simp [turnM_len, kidsL_len]
  · unfold actText; repeat' split
    all_goals simp
/-- An answer of ActDo: no tree, or one of its own. -/
def DoAt (w : World) (r : List LObj × Int) (e : Ending) (w' : World) : Prop :=
  ((r.1 = [] ∧ e = .returned (.tuple #[.agg #[.slice none 0 0], .int .i64 r.2])) ∨ ∃ b c vs, e = .returned (.tuple #[.agg #[.slice (some ⟨b, 0, none⟩) r.1.length c], .int .i64 r.2]) ∧ OwnT w' w.heap.size b c r.1 vs) ∧ Below w.heap.size w w'
theorem ObjsAt.sizes {w : World} {L U n : Nat} {a : Option Addr} {os : List LObj} (h : ObjsAt w L U a n os) : ∀ o ∈ os, o.text.size ≤ maxLen ∧ ∀ e ∈ o.kids, e.name.size ≤ maxLen := by
  intro o ho
  obtain ⟨i, hi, rfl⟩ := List.getElem_of_mem ho
  have hn : n ≠ 0 := by have := h.len; omega
  obtain ⟨b, off, -, -, -, hc⟩ := h.at_ hn
  obtain ⟨o', ka, kn, kc, he, hs, -, -, -, -, hk⟩ := hc i (by have := h.len; omega)
  have : o' = os[i] := by simp [hi] at he; exact he.symm
  subst this
  refine ⟨hs, fun e he2 => ?_⟩
  obtain ⟨j, hj, rfl⟩ := List.getElem_of_mem he2
  have hkn : kn ≠ 0 := by have := hk.len; omega
  obtain ⟨_, _, -, -, -, hc2⟩ := hk.at_ hkn
  obtain ⟨e', h1, h2, -⟩ := hc2 j (by have := hk.len; omega)
  have : e' = (os[i].kids)[j] := by simp [hj] at h1; exact h1.symm
  rw [← this]
  exact h2

/-- The boxes of ActDo at its end: the three of the call, the trial, and the errors. -/
structure IBox (W : World) (A T U b c n : Nat) (a : Nat → Addr) (b1 c1 : Nat) (o : LOp) : Prop where
  fr : Fr A W b c n o
  se : Sents W U a
  tr : W.cell? ⟨T, 0, none⟩ = some (.slice (some ⟨b1, 0, none⟩) n c1)
  sz : T < W.heap.size
  lo : A + 1 + 1 < T
  up : U ≤ A
theorem IBox.next {W W' : World} {A T U b c n b1 c1 : Nat} {a : Nat → Addr} {o : LOp} (h : IBox W A T U b c n a b1 c1 o) (hb : Below W.heap.size W W') : IBox W' A T U b c n a b1 c1 o :=
  ⟨h.fr.next hb, h.se.below hb (by have := h.up; have := h.lo; have := h.sz; omega), by rw [hb.cell (by simpa using h.sz)]; exact h.tr, by have := h.sz; have := hb.size; omega, h.lo, h.up⟩
end Go.Proofs.YtnolbfijcnldjaaGreatDoor

/- A tree of one's own, written over and read again. -/
namespace Go.Proofs.YtnolbfijcnldjaaGreatDoor
open Go.RowKit

/-- Entries written over from a number on. -/
def mkE (k n : Nat) : List LEnt := (List.range n).map fun i => ⟨mkT (k + 2 * i), ((k + 2 * i + 1 : Nat) : Int)⟩
theorem mkE_len (k n : Nat) : (mkE k n).length = n := by simp [mkE]
theorem mkE_at (k n i : Nat) (hi : i < n) : (mkE k n)[i]? = some ⟨mkT (k + 2 * i), ((k + 2 * i + 1 : Nat) : Int)⟩ := by simp [mkE, hi]
theorem OwnEnts.cells {w : World} {B g n cap : Nat} {es : List LEnt} (h : OwnEnts w B (.slice (some ⟨g, 0, none⟩) n cap) es) {i : Nat} {e : LEnt} (he : es[i]? = some e) :
    w.cell? ⟨g, i * 2, none⟩ = some (.string e.name) ∧ w.cell? ⟨g, i * 2 + 1, none⟩ = some (.int .i64 e.id) ∧ g < w.heap.size ∧ (∀ k, w.frozen? ⟨g, k, none⟩ = false) ∧ B ≤ g := by
  obtain ⟨cur, hB, hg, hn, hnc, hcm, hcs, ht⟩ := h.open_
  obtain ⟨c0, c1⟩ := entCells_at es i e he
  have hi : i < es.length := (List.getElem?_eq_some_iff.1 he).1
  rw [← ht] at c0 c1
  have hrow : w.rowIs g 53 (cap * 2) (fun k => cur.getD k .nilIface) := ⟨cur, hg, hcs, fun k hk => by simp [hcs, hk]⟩
  refine ⟨?_, ?_, hrow.lt, hrow.frozen, hB⟩
  · rw [hrow.cell (by omega)]
    rw [List.getElem?_take_of_lt (by omega)] at c0
    simp at c0
    simp [c0]
  · rw [hrow.cell (by omega)]
    rw [List.getElem?_take_of_lt (by omega)] at c1
    simp at c1
    simp [c1]
/-- The rest of an own row while it is written over. -/
def MkdE (k : Nat) (es cur : List LEnt) (j : Nat) : Prop := cur.length = es.length ∧ (∀ i, i < j → cur[i]? = some ⟨mkT (k + 2 * i), ((k + 2 * i + 1 : Nat) : Int)⟩) ∧ ∀ i, j ≤ i → cur[i]? = es[i]?
theorem MkdE.done {k : Nat} {es cur : List LEnt} (h : MkdE k es cur es.length) : cur = mkE k es.length := by
  refine List.ext_getElem? fun i => ?_
  by_cases hi : i < es.length
  · rw [h.2.1 i hi, mkE_at k _ i hi]
  · rw [List.getElem?_eq_none (by rw [h.1]; omega), List.getElem?_eq_none (by rw [mkE_len]; omega)]
theorem MkdE.next {k : Nat} {es cur : List LEnt} {j : Nat} (h : MkdE k es cur j) (hj : j < es.length) : MkdE k es (cur.set j ⟨mkT (k + 2 * j), ((k + 2 * j + 1 : Nat) : Int)⟩) (j + 1) := by
  refine ⟨by simp [h.1], fun i hi => ?_, fun i hi => ?_⟩
  · by_cases e : i = j
    · subst e; rw [List.getElem?_set_self (by rw [h.1]; omega)]
    · rw [List.getElem?_set_ne (Ne.symm e)]; exact h.2.1 i (by omega)
  · rw [List.getElem?_set_ne (by omega)]; exact h.2.2 i (by omega)

end Go.Proofs.YtnolbfijcnldjaaGreatDoor

/- A tree of one's own, written over and read again: its objects. -/
namespace Go.Proofs.YtnolbfijcnldjaaGreatDoor
open Go.RowKit

/-- The number at which an object is written over. -/
def kAt (k0 : Nat) (os : List LObj) (i : Nat) : Nat := k0 + 3 * i + 2 * ((os.take i).map fun o => o.kids.length).sum
def KB (os : List LObj) (M : Nat) : Prop := ∀ o ∈ os, o.kids.length ≤ M
def markO (k : Nat) (o : LObj) : LObj := ⟨(k : Int), ((k + 1 : Nat) : Int), mkT (k + 2), mkE (k + 3) o.kids.length⟩
def MkdO (k0 : Nat) (os cur : List LObj) (j : Nat) : Prop := cur.length = os.length ∧ (∀ i o, i < j → os[i]? = some o → cur[i]? = some (markO (kAt k0 os i) o)) ∧ ∀ i, j ≤ i → cur[i]? = os[i]?
theorem MkdO.next {k0 j : Nat} {os cur : List LObj} {o : LObj} (h : MkdO k0 os cur j) (ho : os[j]? = some o) : MkdO k0 os (cur.set j (markO (kAt k0 os j) o)) (j + 1) := by
  have hj : j < os.length := (List.getElem?_eq_some_iff.1 ho).1
  refine ⟨by simp [h.1], fun i p hi hp => ?_, fun i hi => ?_⟩
  · by_cases e : i = j
    · subst e; rw [ho] at hp; cases hp; rw [List.getElem?_set_self (by rw [h.1]; omega)]
    · rw [List.getElem?_set_ne (Ne.symm e)]; exact h.2.1 i p (by omega) hp
  · rw [List.getElem?_set_ne (by omega)]; exact h.2.2 i (by omega)

end Go.Proofs.YtnolbfijcnldjaaGreatDoor

/- How many names an object of ActDo's answer has at most. -/
namespace Go.Proofs.YtnolbfijcnldjaaGreatDoor
theorem KB.set {os : List LObj} {M i : Nat} {y : LObj} (h : KB os M) (hy : y.kids.length ≤ M) : KB (os.set i y) M := fun o ho => by
  rcases List.mem_or_eq_of_mem_set ho with h1 | rfl
  · exact h o h1
  · exact hy
theorem KB.mono {os : List LObj} {M N : Nat} (h : KB os M) (hm : M ≤ N) : KB os N := fun o ho => Nat.le_trans (h o ho) hm
theorem KB.get {os : List LObj} {M i : Nat} {o : LObj} (h : KB os M) (ho : os[i]? = some o) : o.kids.length ≤ M := h o (List.mem_of_getElem? ho)
theorem KB.turn {os : List LObj} {M : Nat} (h : KB os M) (i : Nat) : KB (turnL os i) M := by
  unfold turnL
  split
  · next o ho => exact h.set (show o.kids.length ≤ M from h.get ho)
  · exact h
theorem KB.turnM {os : List LObj} {M : Nat} (h : KB os M) (i j : Nat) : KB (turnM os i j) M := by
  unfold Go.Proofs.YtnolbfijcnldjaaGreatDoor.turnM
  split
  · exact h.turn i
  · exact (h.turn i).turn j
theorem KB.kids {os : List LObj} {M N : Nat} (h : KB os M) (hm : M ≤ N) (i : Nat) (f : List LEnt → List LEnt) (hf : ∀ es, es.length ≤ M → (f es).length ≤ N) : KB (kidsL os i f) N := by
  unfold kidsL
  split
  · next o ho => exact (h.mono hm).set (hf _ (h.get ho))
  · exact h.mono hm
end Go.Proofs.YtnolbfijcnldjaaGreatDoor

/- Any tree that can be written: marked. What is asked of it: it is there, and can be written; what is told: each cell keeps its sort, and nothing but the tree's blocks is changed. -/
namespace Go.Proofs.YtnolbfijcnldjaaGreatDoor
open Go.RowKit

/-- Each cell keeps its sort. -/
structure Keeps (w w' : World) : Prop where
  size : w.heap.size ≤ w'.heap.size
  int : ∀ p k, w.cell? p = some (.int .i64 k) → ∃ k', w'.cell? p = some (.int .i64 k')
  str : ∀ p s, w.cell? p = some (.string s) → ∃ s', w'.cell? p = some (.string s')
  sli : ∀ p a n c, w.cell? p = some (.slice a n c) → w'.cell? p = some (.slice a n c)
  fro : ∀ p, p.block < w.heap.size → w'.frozen? p = w.frozen? p
theorem Keeps.refl (w : World) : Keeps w w := ⟨Nat.le_refl _, fun _ k h => ⟨k, h⟩, fun _ s h => ⟨s, h⟩, fun _ _ _ _ h => h, fun _ _ => rfl⟩
theorem Keeps.trans {a b c : World} (h : Keeps a b) (k : Keeps b c) : Keeps a c :=
  ⟨Nat.le_trans h.size k.size, fun p x hx => by obtain ⟨y, hy⟩ := h.int p x hx; exact k.int p y hy, fun p x hx => by obtain ⟨y, hy⟩ := h.str p x hx; exact k.str p y hy, fun p x y z hx => k.sli p x y z (h.sli p x y z hx), fun p hp => (k.fro p (by have := h.size; omega)).trans (h.fro p hp)⟩
theorem Keeps.below {w w' : World} (h : Below w.heap.size w w') : Keeps w w' :=
  ⟨h.size, fun p x hx => ⟨x, by rw [h.cell (World.block_lt_of_cell? w p hx)]; exact hx⟩, fun p x hx => ⟨x, by rw [h.cell (World.block_lt_of_cell? w p hx)]; exact hx⟩, fun p x y z hx => by rw [h.cell (World.block_lt_of_cell? w p hx)]; exact hx, fun p hp => h.frozen hp⟩
/-- Nothing but blocks from L on and below U is changed. -/
def Only (L U : Nat) (w w' : World) : Prop := Below L w w' ∧ ∀ b, b < w.heap.size → U ≤ b → w'.heap[b]? = w.heap[b]?
theorem Only.refl (L U : Nat) (w : World) : Only L U w w := ⟨Below.refl _ _, fun _ _ _ => rfl⟩
theorem Only.trans {L U : Nat} {a b c : World} (h : Only L U a b) (k : Only L U b c) : Only L U a c := ⟨h.1.trans k.1, fun i hi hn => (k.2 i (by have := h.1.size; omega) hn).trans (h.2 i hi hn)⟩
theorem Only.below {L U : Nat} {w w' : World} (h : Below w.heap.size w w') (hL : L ≤ w.heap.size) : Only L U w w' := ⟨h.mono hL, fun b hb _ => h.block b hb⟩
theorem Only.set {L U : Nat} {w : World} {p : Addr} (v : Value) (hL : L ≤ p.block) (hU : p.block < U) : Only L U w (w.setCell p v) := ⟨(Below.refl _ _).setCell hL v, fun b _ hn => Below.heap_setCell w p v b (by omega)⟩

/-- Names that can be written. -/
def TypedE (w : World) (L U : Nat) (a : Option Addr) (n : Nat) : Prop := n ≠ 0 → ∃ b off, a = some ⟨b, off, none⟩ ∧ L ≤ b ∧ b < U ∧ b < w.heap.size ∧ (∀ o, w.frozen? ⟨b, o, none⟩ = false) ∧ ∀ i, i < n → (∃ s, w.cell? ⟨b, off + i * 2, none⟩ = some (.string s)) ∧ ∃ k, w.cell? ⟨b, off + i * 2 + 1, none⟩ = some (.int .i64 k)
/-- Objects that can be written. -/
def TypedO (w : World) (L U : Nat) (a : Option Addr) (n : Nat) (os : List LObj) : Prop := n ≠ 0 → ∃ b off, a = some ⟨b, off, none⟩ ∧ L ≤ b ∧ b < U ∧ b < w.heap.size ∧ (∀ o, w.frozen? ⟨b, o, none⟩ = false) ∧ ∀ i, i < n → (∃ k, w.cell? ⟨b, off + i * 4, none⟩ = some (.int .i64 k)) ∧ (∃ k, w.cell? ⟨b, off + i * 4 + 1, none⟩ = some (.int .i64 k)) ∧ (∃ s, w.cell? ⟨b, off + i * 4 + 2, none⟩ = some (.string s)) ∧ ∃ o ka kc, os[i]? = some o ∧ w.cell? ⟨b, off + i * 4 + 3, none⟩ = some (.slice ka o.kids.length kc) ∧ TypedE w L U ka o.kids.length
end Go.Proofs.YtnolbfijcnldjaaGreatDoor

/- Copies of any tree can be written. -/
namespace Go.Proofs.YtnolbfijcnldjaaGreatDoor
open Go.RowKit

/-- All blocks from B on can be written. -/
def Unf (B : Nat) (w : World) : Prop := ∀ b o, B ≤ b → w.frozen? ⟨b, o, none⟩ = false
theorem Unf.set {B : Nat} {w : World} (h : Unf B w) (p : Addr) (v : Value) : Unf B (w.setCell p v) := fun b o hb => by rw [World.frozen?_setCell]; exact h b o hb
theorem Unf.alloc {B : Nat} {w : World} (h : Unf B w) (c : Array Value) (t : TypeId) : Unf B (w.alloc (.cells c t)) := fun b o hb => by
  by_cases e : b = w.heap.size
  · subst e; exact World.frozen?_alloc_at c t _ _ rfl
  · rw [World.frozen?_alloc_old _ _ _ (by simpa using e)]; exact h b o hb
theorem Unf.next {B : Nat} {w w1 : World} (h : Unf B w) (hb : Below w.heap.size w w1) (h1 : Unf w.heap.size w1) : Unf B w1 := fun b o hB => by
  by_cases e : b < w.heap.size
  · rw [hb.frozen (by simpa using e)]; exact h b o hB
  · exact h1 b o (by omega)

end Go.Proofs.YtnolbfijcnldjaaGreatDoor

/- The law of ActDo: what stands in its boxes. -/
namespace Go.Proofs.YtnolbfijcnldjaaGreatDoor
open Go.RowKit

/-- The arguments' boxes. -/
structure AB (w W : World) (ta : Option Addr) (tn tc : Nat) (o : LOp) : Prop where
  below : Below w.heap.size w W
  t : W.cell? ⟨w.heap.size, 0, none⟩ = some (.slice ta tn tc)
  k0 : W.cell? ⟨w.heap.size + 1, 0, none⟩ = some (.int .i64 o.kind)
  k1 : W.cell? ⟨w.heap.size + 1, 1, none⟩ = some (.int .i64 o.dir)
  k2 : W.cell? ⟨w.heap.size + 1, 2, none⟩ = some (.string o.name)
  k3 : W.cell? ⟨w.heap.size + 1, 3, none⟩ = some (.int .i64 o.dir2)
  k4 : W.cell? ⟨w.heap.size + 1, 4, none⟩ = some (.string o.name2)
  k5 : W.cell? ⟨w.heap.size + 1, 5, none⟩ = some (.int .i64 o.id)
  k6 : W.cell? ⟨w.heap.size + 1, 6, none⟩ = some (.string o.text)
  sz : w.heap.size + 1 < W.heap.size
theorem AB.of {w W W' : World} {ta : Option Addr} {tn tc : Nat} {o : LOp} (h : AB w W ta tn tc o) (hb : Below w.heap.size w W') (h0 : W'.heap[w.heap.size]? = W.heap[w.heap.size]?) (h1 : W'.heap[w.heap.size + 1]? = W.heap[w.heap.size + 1]?) (hs : w.heap.size + 1 < W'.heap.size) : AB w W' ta tn tc o := by
  have c0 : ∀ j, W'.cell? ⟨w.heap.size, j, none⟩ = W.cell? ⟨w.heap.size, j, none⟩ := fun j => World.cell?_of_block (w := W) h0
  have c1 : ∀ j, W'.cell? ⟨w.heap.size + 1, j, none⟩ = W.cell? ⟨w.heap.size + 1, j, none⟩ := fun j => World.cell?_of_block (w := W) h1
  exact ⟨hb, by rw [c0]; exact h.t, by rw [c1]; exact h.k0, by rw [c1]; exact h.k1, by rw [c1]; exact h.k2, by rw [c1]; exact h.k3, by rw [c1]; exact h.k4, by rw [c1]; exact h.k5, by rw [c1]; exact h.k6, hs⟩
theorem AB.under {w W W' : World} {ta : Option Addr} {tn tc B : Nat} {o : LOp} (h : AB w W ta tn tc o) (hb : Below B W W') (hB : w.heap.size + 1 < B) : AB w W' ta tn tc o :=
  h.of (h.below.trans (hb.mono (by omega))) (hb.block _ (by omega)) (hb.block _ hB) (by have := hb.size; have := h.sz; omega)
theorem AB.next {w W W' : World} {ta : Option Addr} {tn tc : Nat} {o : LOp} (h : AB w W ta tn tc o) (hb : Below W.heap.size W W') : AB w W' ta tn tc o := h.under hb h.sz
theorem AB.but {w W W' : World} {ta : Option Addr} {tn tc q : Nat} {o : LOp} (h : AB w W ta tn tc o) (hb : But q W W') (hq : w.heap.size + 1 < q) : AB w W' ta tn tc o := h.under hb.below hq
/-- A box with a tree that is read. -/
structure TB (W : World) (hi g : Nat) (x : Option Addr) (c : Nat) (l : List LObj) : Prop where
  box : W.cell? ⟨g, 0, none⟩ = some (.slice x l.length c)
  obj : ObjsAt W 0 hi x l.length l
  lt : g < hi
  le : hi ≤ W.heap.size
theorem TB.under {W W' : World} {hi g : Nat} {x : Option Addr} {c B : Nat} {l : List LObj} (h : TB W hi g x c l) (hb : Below B W W') (hB : hi ≤ B) : TB W' hi g x c l :=
  ⟨by rw [hb.cell (by have := h.lt; simp; omega)]; exact h.box, h.obj.below hb hB, h.lt, by have := hb.size; have := h.le; omega⟩
theorem TB.next {W W' : World} {hi g : Nat} {x : Option Addr} {c : Nat} {l : List LObj} (h : TB W hi g x c l) (hb : Below W.heap.size W W') : TB W' hi g x c l := h.under hb h.le
theorem DoAt.objs {w w' : World} {r : List LObj × Int} {e : Ending} (h : DoAt w r e w') : ∃ x c, e = .returned (.tuple #[.agg #[.slice x r.1.length c], .int .i64 r.2]) ∧ ObjsAt w' w.heap.size w'.heap.size x r.1.length r.1 ∧ Below w.heap.size w w' := by
  obtain ⟨⟨h0, rfl⟩ | ⟨b, c, vs, rfl, hO⟩, hb⟩ := h
  · exact ⟨none, 0, by rw [h0]; rfl, by rw [h0]; exact ⟨rfl, Nat.zero_le _, fun h => absurd rfl h⟩, hb⟩
  · exact ⟨_, c, rfl, hO.to_objs, hb⟩
theorem TypedE.under {w w' : World} {L U : Nat} {a : Option Addr} {n : Nat} (h : TypedE w L U a n) (hb : Below U w w') : TypedE w' L U a n := fun hn => by
  obtain ⟨b, off, h1, h2, h3, h4, h5, h6⟩ := h hn
  refine ⟨b, off, h1, h2, h3, by have := hb.size; omega, fun o => by rw [hb.frozen (by simpa using h3)]; exact h5 o, fun i hi => ?_⟩
  obtain ⟨⟨s, hs⟩, x, hx⟩ := h6 i hi
  exact ⟨⟨s, by rw [hb.cell (by simpa using h3)]; exact hs⟩, x, by rw [hb.cell (by simpa using h3)]; exact hx⟩
theorem TypedO.under {w w' : World} {L U : Nat} {a : Option Addr} {n : Nat} {os : List LObj} (h : TypedO w L U a n os) (hb : Below U w w') : TypedO w' L U a n os := fun hn => by
  obtain ⟨b, off, h1, h2, h3, h4, h5, h6⟩ := h hn
  refine ⟨b, off, h1, h2, h3, by have := hb.size; omega, fun o => by rw [hb.frozen (by simpa using h3)]; exact h5 o, fun i hi => ?_⟩
  obtain ⟨⟨x, hx⟩, ⟨y, hy⟩, ⟨s, hs⟩, o, ka, kc, ho, hc, he⟩ := h6 i hi
  exact ⟨⟨x, by rw [hb.cell (by simpa using h3)]; exact hx⟩, ⟨y, by rw [hb.cell (by simpa using h3)]; exact hy⟩, ⟨s, by rw [hb.cell (by simpa using h3)]; exact hs⟩, o, ka, kc, ho, by rw [hb.cell (by simpa using h3)]; exact hc, he.under hb⟩
/-- A box with a tree that is handed in; its blocks lie from L on, the box behind them. -/
structure XB (W : World) (L U b n : Nat) (os : List LObj) : Prop where
  box : W.cell? ⟨U, 0, none⟩ = some (.slice (some ⟨b, 0, none⟩) n n)
  ty : TypedO W L U (some ⟨b, 0, none⟩) n os
  obj : ObjsAt W L U (some ⟨b, 0, none⟩) n os
  lt : U < W.heap.size
theorem XB.under {W W' : World} {L U b n B : Nat} {os : List LObj} (h : XB W L U b n os) (hb : Below B W W') (hB : U < B) : XB W' L U b n os :=
  ⟨by rw [hb.cell (by simpa using hB)]; exact h.box, h.ty.under (hb.mono (by omega)), h.obj.below hb (by omega), by have := hb.size; have := h.lt; omega⟩
/-- All that stands ahead of the call of the program. -/
structure CD (w W : World) (ta : Option Addr) (tn tc : Nat) (o : LOp) (hi g : Nat) (x : Option Addr) (c : Nat) (l : List LObj) (L U b : Nat) (os : List LObj) : Prop where
  ab : AB w W ta tn tc o
  tb : TB W hi g x c l
  xb : XB W L U b tn os
  n1 : w.heap.size + 1 < hi
  n2 : hi ≤ L
  n3 : L ≤ U
theorem CD.under {w W W' : World} {ta : Option Addr} {tn tc : Nat} {o : LOp} {hi g : Nat} {x : Option Addr} {c : Nat} {l : List LObj} {L U b B : Nat} {os : List LObj} (h : CD w W ta tn tc o hi g x c l L U b os) (hb : Below B W W') (hB : U < B) : CD w W' ta tn tc o hi g x c l L U b os :=
  ⟨h.ab.under hb (by have := h.n1; have := h.n2; have := h.n3; omega), h.tb.under hb (by have := h.n2; have := h.n3; omega), h.xb.under hb hB, h.n1, h.n2, h.n3⟩
theorem CD.next {w W W' : World} {ta : Option Addr} {tn tc : Nat} {o : LOp} {hi g : Nat} {x : Option Addr} {c : Nat} {l : List LObj} {L U b : Nat} {os : List LObj} (h : CD w W ta tn tc o hi g x c l L U b os) (hb : Below W.heap.size W W') : CD w W' ta tn tc o hi g x c l L U b os := h.under hb h.xb.lt
theorem CD.but {w W W' : World} {ta : Option Addr} {tn tc : Nat} {o : LOp} {hi g : Nat} {x : Option Addr} {c : Nat} {l : List LObj} {L U b q : Nat} {os : List LObj} (h : CD w W ta tn tc o hi g x c l L U b os) (hb : But q W W') (hq : U < q) : CD w W' ta tn tc o hi g x c l L U b os := h.under hb.below hq
/-- A tree of one's own, or none. -/
def AnsAt (W : World) (lo : Nat) (x : Option Addr) (c : Nat) (vs : Nat → Value) (l : List LObj) : Prop := (l = [] ∧ x = none ∧ c = 0) ∨ ∃ b, x = some ⟨b, 0, none⟩ ∧ OwnT W lo b c l vs
theorem AnsAt.next {W W' : World} {lo : Nat} {x : Option Addr} {c : Nat} {vs : Nat → Value} {l : List LObj} (h : AnsAt W lo x c vs l) (hb : Below W.heap.size W W') : AnsAt W' lo x c vs l := by
  rcases h with h | ⟨b, rfl, h⟩
  · exact .inl h
  · exact .inr ⟨b, rfl, h.below hb⟩
theorem AnsAt.setBox {W : World} {lo q : Nat} {x : Option Addr} {c : Nat} {vs : Nat → Value} {l : List LObj} (h : AnsAt W lo x c vs l) (hq : ∃ f, W.rowIs q 25 1 f) (v : Value) : AnsAt (W.setCell ⟨q, 0, none⟩ v) lo x c vs l := by
  rcases h with h | ⟨b, rfl, h⟩
  · exact .inl h
  · exact .inr ⟨b, rfl, h.setBox hq 0 v⟩
theorem DoAt.ans {w w' : World} {r : List LObj × Int} {e : Ending} (h : DoAt w r e w') : ∃ x c vs, e = .returned (.tuple #[.agg #[.slice x r.1.length c], .int .i64 r.2]) ∧ AnsAt w' w.heap.size x c vs r.1 ∧ Below w.heap.size w w' := by
  obtain ⟨⟨h0, rfl⟩ | ⟨b, c, vs, rfl, hO⟩, hb⟩ := h
  · exact ⟨none, 0, fun _ => .nilIface, by rw [h0]; rfl, .inl ⟨h0, rfl, rfl⟩, hb⟩
  · exact ⟨_, c, vs, rfl, .inr ⟨b, rfl, hO⟩, hb⟩
theorem AnsAt.objs {W : World} {lo : Nat} {x : Option Addr} {c : Nat} {vs : Nat → Value} {l : List LObj} (h : AnsAt W lo x c vs l) : ObjsAt W lo W.heap.size x l.length l := by
  rcases h with ⟨rfl, rfl, rfl⟩ | ⟨b, rfl, h⟩
  · exact ⟨rfl, Nat.zero_le _, fun h => absurd rfl h⟩
  · exact h.to_objs
/-- The box with the program's answer. -/
structure GB (W : World) (lo g : Nat) (x : Option Addr) (c : Nat) (vs : Nat → Value) (l : List LObj) : Prop where
  box : W.cell? ⟨g, 0, none⟩ = some (.slice x l.length c)
  row : ∃ f, W.rowIs g 25 1 f
  ans : AnsAt W lo x c vs l
theorem GB.next {W W' : World} {lo g : Nat} {x : Option Addr} {c : Nat} {vs : Nat → Value} {l : List LObj} (h : GB W lo g x c vs l) (hb : Below W.heap.size W W') : GB W' lo g x c vs l := by
  obtain ⟨f, hf⟩ := h.row
  exact ⟨by rw [hb.cell (by simpa using hf.lt)]; exact h.box, ⟨f, hf.of_block (hb.block g hf.lt)⟩, h.ans.next hb⟩
section
variable {ops : Array Oper} {ac : Act} {K : Act → World → Prop} {Q : Exit → Act → World → Prop} {E : Prop} {ty : TypeId} {ps : String} {af : Array Edge}
theorem st_alloc31 (W : World) (d : Nat)
    (h : ∀ q W', q = W.heap.size → Below W.heap.size W W' → W'.rowIs q 25 1 (zrow #[.slice none 0 0]) → K (ac.put (some d) (.pointer (some ⟨q, 0, none⟩))) W') :
    if Region.wanted { dst := some d, op := .alloc 25, type := ty, pos := ps, after := af, guard := none } (yielded ops ac.tmps) = true then Oper.wp Tryz.prog { dst := some d, op := .alloc 25, type := ty, pos := ps, after := af, guard := none } ac W K Q else E := by
  rw [if_pos (by simp [Region.wanted])]
  have := h W.heap.size (W.alloc (.cells #[.slice none 0 0] 25)) rfl ((Below.refl _ _).alloc (Nat.le_refl _) _) (zrow_new W _ 25)
  unfold Oper.wp
  go_simp
  exact this
theorem st_store31 (W : World) (tp tv : Nat) (q : Nat) (a : Option Addr) (n c : Nat) (hp : ac.tmps[tp]?.getD undef = .pointer (some ⟨q, 0, none⟩)) (hv : ac.tmps[tv]?.getD undef = .agg #[.slice a n c]) (hr : W.rowIs q 25 1 (zrow #[.slice none 0 0]))
    (h : ∀ W', But q W W' → W'.cell? ⟨q, 0, none⟩ = some (.slice a n c) → Hid (W' = W.setCell ⟨q, 0, none⟩ (.slice a n c)) → K ac W') :
    if Region.wanted { dst := none, op := .store 25 (.tmp tp) (.tmp tv), type := ty, pos := ps, after := af, guard := none } (yielded ops ac.tmps) = true then Oper.wp Tryz.prog { dst := none, op := .store 25 (.tmp tp) (.tmp tv), type := ty, pos := ps, after := af, guard := none } ac W K Q else E := by
  rw [if_pos (by simp [Region.wanted])]
  have c0 : W.cell? ⟨q, 0, none⟩ = some (.slice none 0 0) := by rw [hr.cell (by omega)]; rfl
  have z0 := hr.frozen 0
  have r2 := hr.set 0 (.slice a n c)
  have := h (W.setCell ⟨q, 0, none⟩ (.slice a n c)) ((But.refl q W).set _ _) (by rw [r2.cell (by omega)]; rfl) rfl
  clear h hr r2
  unfold Oper.wp
  go_simp
  exact this
end
end Go.Proofs.YtnolbfijcnldjaaGreatDoor

/- The law of ActDo: an answer written over and read again, or none. -/
namespace Go.Proofs.YtnolbfijcnldjaaGreatDoor
open Go.RowKit

theorem OwnEnts.blocks {w w' : World} {B : Nat} {v : Value} {es : List LEnt} (h : OwnEnts w B v es) (hk : ∀ q, B ≤ q → q < w.heap.size → w'.heap[q]? = w.heap[q]?) : OwnEnts w' B v es := by
  refine ⟨h.1, ?_⟩
  rcases h.2 with hn | ⟨g, cap, cur, rfl, hb, hgg, rest⟩
  · exact .inl hn
  · exact .inr ⟨g, cap, cur, rfl, hb, by rw [hk g hb (Array.getElem?_eq_some_iff.1 hgg).1]; exact hgg, rest⟩
theorem OwnT.blocks {w w' : World} {B b c : Nat} {os : List LObj} {vs : Nat → Value} (h : OwnT w B b c os vs) (hk : ∀ q, B ≤ q → q < w.heap.size → w'.heap[q]? = w.heap[q]?) : OwnT w' B b c os vs := by
  obtain ⟨cur, hr, hcs, hlc, hcm⟩ := h.row
  have hb := hk b h.lo h.lt
  have hc : ∀ j, w'.cell? ⟨b, j, none⟩ = w.cell? ⟨b, j, none⟩ := fun j => World.cell?_of_block (w := w) hb
  refine ⟨h.lo, ⟨cur, by rw [hb]; exact hr, hcs, hlc, hcm⟩, fun i o ho => ?_, h.apart⟩
  obtain ⟨h1, h2, h3, h4, h5, h6, h7⟩ := h.at_ i o ho
  exact ⟨h1, by rw [hc]; exact h2, by rw [hc]; exact h3, by rw [hc]; exact h4, by rw [hc]; exact h5, h6.blocks hk, h7⟩
theorem AnsAt.blocks {W W' : World} {lo : Nat} {x : Option Addr} {c : Nat} {vs : Nat → Value} {l : List LObj} (h : AnsAt W lo x c vs l) (hk : ∀ q, lo ≤ q → q < W.heap.size → W'.heap[q]? = W.heap[q]?) : AnsAt W' lo x c vs l := by
  rcases h with h | ⟨b, rfl, h⟩
  · exact .inl h
  · exact .inr ⟨b, rfl, h.blocks hk⟩
/-- The arguments are written over: the answer and its box stand. -/
theorem GB.only {W W' : World} {lo g L U : Nat} {x : Option Addr} {c : Nat} {vs : Nat → Value} {l : List LObj} (h : GB W lo g x c vs l) (hO : Only L U W W') (hlo : U ≤ lo) (hg : U ≤ g) : GB W' lo g x c vs l := by
  obtain ⟨f, hf⟩ := h.row
  have e := hO.2 g hf.lt hg
  exact ⟨by rw [World.cell?_of_block (w := W) e]; exact h.box, ⟨f, hf.of_block e⟩, h.ans.blocks fun q h1 h2 => hO.2 q h2 (by omega)⟩
/-- An answer that is written over: none, or the tree of one's own with other content. -/
def HeldAt (W : World) (lo : Nat) (x : Option Addr) (c : Nat) (vs : Nat → Value) (l : List LObj) : Prop := (l = [] ∧ x = none ∧ c = 0) ∨ ∃ b cur, x = some ⟨b, 0, none⟩ ∧ OwnT W lo b c cur vs ∧ MkdO 1 l cur l.length
theorem HeldAt.next {W W' : World} {lo : Nat} {x : Option Addr} {c : Nat} {vs : Nat → Value} {l : List LObj} (h : HeldAt W lo x c vs l) (hb : Below W.heap.size W W') : HeldAt W' lo x c vs l := by
  rcases h with h | ⟨b, cur, rfl, h, hm⟩
  · exact .inl h
  · exact .inr ⟨b, cur, rfl, h.below hb, hm⟩
theorem HeldAt.setBox {W : World} {lo q : Nat} {x : Option Addr} {c : Nat} {vs : Nat → Value} {l : List LObj} (h : HeldAt W lo x c vs l) (hq : ∃ f, W.rowIs q 25 1 f) (v : Value) : HeldAt (W.setCell ⟨q, 0, none⟩ v) lo x c vs l := by
  rcases h with h | ⟨b, cur, rfl, h, hm⟩
  · exact .inl h
  · exact .inr ⟨b, cur, rfl, h.setBox hq 0 v, hm⟩
end Go.Proofs.YtnolbfijcnldjaaGreatDoor

/- A list that is done, all of it or nothing: the plain function, and what stands in the boxes of its two loops. -/
namespace Go.Proofs.YtnolbfijcnldjaaGreatDoor
open Go.RowKit

def allGo (os0 : List LObj) : List LObj → List LOp → Nat → List LObj × Int × Nat
  | os, [], i => (os, 0, i)
  | os, o :: r, i => if (actDo os o).2 = 0 then allGo os0 (actDo os o).1 r (i + 1) else (os0, (actDo os o).2, i)
/-- What ActAll answers. -/
def allR (os : List LObj) (ops : List LOp) : List LObj × Int × Nat := if specOk os = true ∧ formsB ops = true then allGo os os ops 0 else ([], 8, 0)
theorem allGo_end (os0 os : List LObj) {ops : List LOp} {j : Nat} (h : ops.length ≤ j) : allGo os0 os (ops.drop j) j = (os, 0, j) := by
  rw [List.drop_of_length_le h]; rfl
theorem allGo_step (os0 os : List LObj) {ops : List LOp} {j : Nat} {o : LOp} (h : ops[j]? = some o) : allGo os0 os (ops.drop j) j = if (actDo os o).2 = 0 then allGo os0 (actDo os o).1 (ops.drop (j + 1)) (j + 1) else (os0, (actDo os o).2, j) := by
  rw [drop_cons h]; rfl
/-- An answer of ActAll: no tree, or one of its own. -/
def AllEnd (w : World) (r : List LObj × Int × Nat) (e : Ending) (w' : World) : Prop :=
  ((r.1 = [] ∧ e = .returned (.tuple #[.agg #[.slice none 0 0], .int .i64 r.2.1, .int .i64 (r.2.2 : Nat)])) ∨ ∃ b c vs, e = .returned (.tuple #[.agg #[.slice (some ⟨b, 0, none⟩) r.1.length c], .int .i64 r.2.1, .int .i64 (r.2.2 : Nat)]) ∧ OwnT w' w.heap.size b c r.1 vs) ∧ Below w.heap.size w w'
theorem forms_op {ops : List LOp} (h : formsB ops = true) {j : Nat} {o : LOp} (ho : ops[j]? = some o) : opOk o = true := by
  unfold formsB at h
  rw [Bool.and_eq_true] at h
  exact List.all_eq_true.1 h.2 o (List.mem_of_getElem? ho)
theorem ok_bd {os : List LObj} (hs : specOk os = true) : Bd os 1000000 := fun x hx => by
  obtain ⟨i, hi, rfl⟩ := List.getElem_of_mem hx
  have h9 : os[i]? = some os[i] := List.getElem?_eq_getElem hi
  have := ok_ver hs h9
  have := ok_kids hs h9
  exact ⟨by omega, by omega, by omega⟩
/-- A box of another type than a tree's rows is no part of it. -/
theorem OwnT.far {W : World} {B b c q : Nat} {X : TypeId} {os : List LObj} {vs : Nat → Value} {f : Nat → Value} (h : OwnT W B b c os vs) (hX : X ≠ 38 ∧ X ≠ 53) (hq : W.rowIs q X 1 f) : q ≠ b ∧ ∀ i, i < os.length → (vs i).ownBlock ≠ some q := by
  obtain ⟨cc, hqq, -⟩ := hq
  obtain ⟨cur, hr, -⟩ := h.row
  refine ⟨fun e => ?_, fun i hi e => ?_⟩
  · subst e; rw [hr] at hqq
    have := Option.some.inj hqq
    injection this with _ h2
    exact hX.1 h2.symm
  · have ho := (h.at_ i (os[i]'hi) (List.getElem?_eq_getElem hi)).2.2.2.2.2.1
    rcases ho.2 with ⟨hn, _⟩ | ⟨g, cap, cur2, hv, hb, hgg, _⟩
    · rw [hn] at e; cases e
    · rw [hv] at e
      simp [Value.ownBlock] at e
      subst e
      rw [hgg] at hqq
      have := Option.some.inj hqq
      injection this with _ h2
      exact hX.2 h2.symm
/-- What stands in the boxes of the loop, but for the tree. -/
structure LZ (w W : World) (T : Nat) (X : TypeId) (a : Option Addr) (n c b1 c1 : Nat) : Prop where
  below : Below w.heap.size w W
  t : W.cell? ⟨w.heap.size, 0, none⟩ = some (.slice a n c)
  r : ∃ f, W.rowIs (w.heap.size + 1) 25 1 f
  x : W.cell? ⟨T, 0, none⟩ = some (.slice (some ⟨b1, 0, none⟩) n c1)
  xr : ∃ f, W.rowIs T X 1 f
  lo : w.heap.size + 1 < T
  lt : T < W.heap.size
theorem LZ.of {w W W' : World} {T : Nat} {X : TypeId} {a : Option Addr} {n c b1 c1 : Nat} (h : LZ w W T X a n c b1 c1) (hb : Below (w.heap.size + 1 + 1) W W') (hT : W'.heap[T]? = W.heap[T]?) : LZ w W' T X a n c b1 c1 := by
  obtain ⟨f, hf⟩ := h.r
  obtain ⟨g, hg⟩ := h.xr
  exact ⟨h.below.trans (hb.mono (by omega)), by rw [hb.cell (by simp; omega)]; exact h.t, ⟨f, hf.of_block (hb.block _ (by omega))⟩, by rw [World.cell?_of_block (w := W) hT]; exact h.x, ⟨g, hg.of_block hT⟩, h.lo, by have := hb.size; have := h.lt; omega⟩
theorem LZ.next {w W W' : World} {T : Nat} {X : TypeId} {a : Option Addr} {n c b1 c1 : Nat} (h : LZ w W T X a n c b1 c1) (hb : Below W.heap.size W W') : LZ w W' T X a n c b1 c1 :=
  h.of (hb.mono (by have := h.lo; have := h.lt; omega)) (hb.block _ h.lt)
theorem LZ.but {w W W' : World} {T : Nat} {X : TypeId} {a : Option Addr} {n c b1 c1 q : Nat} (h : LZ w W T X a n c b1 c1) (hb : But q W W') (hq : T < q) : LZ w W' T X a n c b1 c1 :=
  h.of (hb.below.mono (by have := h.lo; omega)) (hb.below.block _ hq)
/-- Behind a call that writes into the tree. -/
theorem LZ.call {w W W' : World} {T : Nat} {X : TypeId} {a : Option Addr} {n c b1 c1 : Nat} {os : List LObj} {vs : Nat → Value} (h : LZ w W T X a n c b1 c1) (hX : X ≠ 38 ∧ X ≠ 53) (hn : os.length = n) (ht : OwnT W (w.heap.size + 1 + 1) b1 c1 os vs) (hb : Below (w.heap.size + 1 + 1) W W') (hk : Kt W W' b1 n vs) : LZ w W' T X a n c b1 c1 := by
  obtain ⟨g, hg⟩ := h.xr
  obtain ⟨n1, n2⟩ := ht.far hX hg
  exact h.of hb (hk T h.lt n1 fun i hi => n2 i (by omega))
/-- The loop's box written over by what it holds. -/
theorem LZ.put {w W : World} {T : Nat} {X : TypeId} {a : Option Addr} {n c b1 c1 : Nat} (h : LZ w W T X a n c b1 c1) (_ : X ≠ 38) : LZ w (W.setCell ⟨T, 0, none⟩ (.slice (some ⟨b1, 0, none⟩) n c1)) T X a n c b1 c1 := by
  obtain ⟨f, hf⟩ := h.r
  obtain ⟨g, hg⟩ := h.xr
  have hb : ∀ q, q ≠ T → (W.setCell ⟨T, 0, none⟩ (.slice (some ⟨b1, 0, none⟩) n c1)).heap[q]? = W.heap[q]? := fun q hq => Below.heap_setCell W ⟨T, 0, none⟩ _ q hq
  exact ⟨h.below.setCell (by show _ ≤ T; have := h.lo; omega) _, by rw [World.cell?_of_block (w := W) (hb _ (by show w.heap.size ≠ T; have := h.lo; omega))]; exact h.t, ⟨f, hf.of_block (hb _ (by have := h.lo; omega))⟩, World.cell?_setCell_same _ _ _ h.x, ⟨_, hg.set 0 _⟩, h.lo, by simpa using h.lt⟩
/-- The box of the loop with the tree that was answered. -/
structure YB (W : World) (q n b1 c1 : Nat) : Prop where
  box : W.cell? ⟨q, 0, none⟩ = some (.slice (some ⟨b1, 0, none⟩) n c1)
  lt : q < W.heap.size
end Go.Proofs.YtnolbfijcnldjaaGreatDoor

/- What is done: marked from any number on, and held. -/
namespace Go.Proofs.YtnolbfijcnldjaaGreatDoor
open Go.RowKit

end Go.Proofs.YtnolbfijcnldjaaGreatDoor

/- The law of ActAll: what stands in its boxes. -/
namespace Go.Proofs.YtnolbfijcnldjaaGreatDoor
open Go.RowKit

/-- The tree that came in, in its box. -/
structure AQ (w W : World) (ta : Option Addr) (tn tc : Nat) : Prop where
  below : Below w.heap.size w W
  t : W.cell? ⟨w.heap.size, 0, none⟩ = some (.slice ta tn tc)
  sz : w.heap.size < W.heap.size
theorem AQ.under {w W W' : World} {ta : Option Addr} {tn tc B : Nat} (h : AQ w W ta tn tc) (hb : Below B W W') (hB : w.heap.size < B) : AQ w W' ta tn tc :=
  ⟨h.below.trans (hb.mono (by omega)), by rw [hb.cell (by simpa using hB)]; exact h.t, by have := hb.size; have := h.sz; omega⟩
theorem AQ.next {w W W' : World} {ta : Option Addr} {tn tc : Nat} (h : AQ w W ta tn tc) (hb : Below W.heap.size W W') : AQ w W' ta tn tc := h.under hb h.sz
/-- A list that is handed in, a row of its own between lo and up. -/
structure RB (W : World) (lo up lb m : Nat) (f : Nat → Value) (ops : List LOp) : Prop where
  ge : lo ≤ lb
  lt : lb < up
  le : up ≤ W.heap.size
  row : W.rowIs lb 27 (m * 7) f
  ty : ∀ i, i < m → OpCell f i
  ops : OpsAt W lo up (some ⟨lb, 0, none⟩) m ops
theorem RB.blocks {W W' : World} {lo up lb m : Nat} {f : Nat → Value} {ops : List LOp} (h : RB W lo up lb m f ops) (hs : W.heap.size ≤ W'.heap.size) (hb : ∀ q, lo ≤ q → q < up → W'.heap[q]? = W.heap[q]?) : RB W' lo up lb m f ops :=
  ⟨h.ge, h.lt, Nat.le_trans h.le hs, h.row.of_block (hb lb h.ge h.lt), h.ty, h.ops.blocks hb⟩
theorem RB.under {W W' : World} {lo up lb m B : Nat} {f : Nat → Value} {ops : List LOp} (h : RB W lo up lb m f ops) (hb : Below B W W') (hB : up ≤ B) : RB W' lo up lb m f ops := h.blocks hb.size fun q _ h2 => hb.block q (by omega)
theorem RB.next {W W' : World} {lo up lb m : Nat} {f : Nat → Value} {ops : List LOp} (h : RB W lo up lb m f ops) (hb : Below W.heap.size W W') : RB W' lo up lb m f ops := h.under hb h.le
theorem RB.only {W W' : World} {lo up lb m L U : Nat} {f : Nat → Value} {ops : List LOp} (h : RB W lo up lb m f ops) (hO : Only L U W W') (hU : U ≤ lo) : RB W' lo up lb m f ops := h.blocks hO.1.size fun q h1 h2 => hO.2 q (by have := h.le; omega) (by omega)
theorem GB.but {W W' : World} {lo g q : Nat} {x : Option Addr} {c : Nat} {vs : Nat → Value} {l : List LObj} (h : GB W lo g x c vs l) (hO : But q W W') (hlo : q < lo) (hg : q < g) : GB W' lo g x c vs l := by
  obtain ⟨f, hf⟩ := h.row
  have e := hO.block g (by omega) hf.lt
  exact ⟨by rw [World.cell?_of_block (w := W) e]; exact h.box, ⟨f, hf.of_block e⟩, h.ans.blocks fun k h1 h2 => hO.block k (by omega) h2⟩
/-- All that stands ahead of the call of the program. -/
structure CE (w W : World) (ta : Option Addr) (tn tc hi g : Nat) (x : Option Addr) (c : Nat) (l : List LObj) (L U b : Nat) (os : List LObj) (lo up lb m : Nat) (f : Nat → Value) (ops : List LOp) : Prop where
  ab : AQ w W ta tn tc
  tb : TB W hi g x c l
  xb : XB W L U b tn os
  rb : RB W lo up lb m f ops
  n1 : w.heap.size < hi
  n2 : hi ≤ L
  n3 : L ≤ U
  n4 : U < lo
theorem CE.next {w W W' : World} {ta : Option Addr} {tn tc hi g : Nat} {x : Option Addr} {c : Nat} {l : List LObj} {L U b : Nat} {os : List LObj} {lo up lb m : Nat} {f : Nat → Value} {ops : List LOp} (h : CE w W ta tn tc hi g x c l L U b os lo up lb m f ops) (hb : Below W.heap.size W W') : CE w W' ta tn tc hi g x c l L U b os lo up lb m f ops :=
  ⟨h.ab.next hb, h.tb.next hb, h.xb.under hb h.xb.lt, h.rb.next hb, h.n1, h.n2, h.n3, h.n4⟩
theorem AllEnd.objs {w w' : World} {r : List LObj × Int × Nat} {e : Ending} (h : AllEnd w r e w') : ∃ x c, e = .returned (.tuple #[.agg #[.slice x r.1.length c], .int .i64 r.2.1, .int .i64 (r.2.2 : Nat)]) ∧ ObjsAt w' w.heap.size w'.heap.size x r.1.length r.1 ∧ Below w.heap.size w w' := by
  obtain ⟨⟨h0, rfl⟩ | ⟨b, c, vs, rfl, hO⟩, hb⟩ := h
  · exact ⟨none, 0, by rw [h0]; rfl, by rw [h0]; exact ⟨rfl, Nat.zero_le _, fun h => absurd rfl h⟩, hb⟩
  · exact ⟨_, c, rfl, hO.to_objs, hb⟩
end Go.Proofs.YtnolbfijcnldjaaGreatDoor

/- Every refusal has a true reason: plain facts about the code of what is done. -/
namespace Go.Proofs.YtnolbfijcnldjaaGreatDoor

theorem op_kinds {o : LOp} (h : opOk o = true) : o.kind = 1 ∨ o.kind = 2 ∨ o.kind = 3 ∨ o.kind = 4 ∨ o.kind = 5 := by
  unfold opOk at h
  split at h
  · omega
  · split at h
    · omega
    · split at h
      · omega
      · cases h
end Go.Proofs.YtnolbfijcnldjaaGreatDoor

/- What is done turns what it changes, and nothing else: plain facts. -/
namespace Go.Proofs.YtnolbfijcnldjaaGreatDoor

/-- What becomes of an object: nothing, or its number of turns is one more, it is named, and it is another one (or a text was written). -/
def TurnP (o : LOp) (i : Nat) (a b : LObj) : Prop :=
  b = a ∨ (b.ver = a.ver + 1 ∧ i ∈ opIds o ∧ (o.kind = 5 ∨ b.kind ≠ a.kind ∨ b.kids ≠ a.kids))
theorem cnt_yes {t : List LObj} {d : Nat} {e : LEnt} (h : (d, e) ∈ flat t) : 0 < cnt (flat t) e.id := by
  unfold cnt
  exact List.countP_pos_iff.2 ⟨(d, e), h, by simp⟩
theorem put_ne {x : LEnt} {es : List LEnt} (h : ∀ e ∈ es, e.name ≠ x.name) (es' : List LEnt) : putL x es' ≠ es := fun hh => by
  have : x ∈ es := by rw [← hh, mem_put]; exact .inl rfl
  exact h x this rfl
theorem out_ne {name : ByteArray} {es : List LEnt} {e : LEnt} (he : e ∈ es) (hn : e.name = name) : outL name es ≠ es := fun hh => by
  rw [← hh, mem_out] at he
  exact he.2 hn
theorem set_cases {os : List LObj} {k i : Nat} {o b : LObj} (h : (os.set k o)[i]? = some b) : (i = k ∧ b = o) ∨ (i ≠ k ∧ os[i]? = some b) := by
  by_cases e : k = i
  · subst e
    have hl := (List.getElem?_eq_some_iff.1 h).1
    rw [List.getElem?_set_self (by simpa using hl)] at h
    cases h
    exact .inl ⟨rfl, rfl⟩
  · rw [List.getElem?_set_ne e] at h
    exact .inr ⟨Ne.symm e, h⟩
theorem turnL_get {t : List LObj} (i : Nat) {j : Nat} {o : LObj} (h : t[j]? = some o) : (turnL t i)[j]? = some (if j = i then { o with ver := o.ver + 1 } else o) := by
  unfold turnL
  by_cases e : j = i
  · subst e
    rw [if_pos rfl]
    simp only [h]
    rw [List.getElem?_set_self (by have := (List.getElem?_eq_some_iff.1 h).1; omega)]
  · rw [if_neg e]
    split
    · rw [List.getElem?_set_ne (Ne.symm e)]; exact h
    · exact h
theorem same_turn {os : List LObj} {o : LOp} {i : Nat} {a b : LObj} (ha : os[i]? = some a) (hb : os[i]? = some b) : TurnP o i a b := by
  rw [ha] at hb; cases hb; exact .inl rfl
theorem turnP_any {os : List LObj} {o : LOp} (hs : specOk os = true) (hk : opOk o = true) {i : Nat} {a b : LObj} (ha : os[i]? = some a) (hb : (actDo os o).1[i]? = some b) : TurnP o i a b := by
  obtain ⟨i1, i2⟩ := opOk_id hk
  obtain ⟨d1, d2⟩ := opOk_dir hk
  obtain ⟨e1, e2⟩ := opOk_dir2 hk
  have hl := ok_len hs
  obtain ⟨d, hd⟩ := at_ (os := os) hl d1 d2
  obtain ⟨x, hx⟩ := at_ (os := os) hl (by omega) i2
  obtain ⟨y, hy⟩ := at_ (os := os) hl e1 e2
  have hIin := id_in hk
  have hDin := fun h => dir_in hk h
  have hEin := fun h => dir2_in hk h
  obtain ⟨I, hI⟩ : ∃ I : Nat, o.id.toNat = I := ⟨_, rfl⟩
  obtain ⟨D, hD⟩ : ∃ D : Nat, o.dir.toNat = D := ⟨_, rfl⟩
  obtain ⟨E, hE⟩ : ∃ E : Nat, o.dir2.toNat = E := ⟨_, rfl⟩
  rw [hD] at hd hDin
  rw [hI] at hx hIin
  rw [hE] at hy hEin
  have hid : o.id = (I : Int) := by omega
  unfold actDo at hb
  by_cases hw : wornB os (opIds o) = true
  · rw [if_pos hw] at hb; exact same_turn ha hb
  rw [if_neg hw] at hb
  by_cases h1 : o.kind = 1 ∨ o.kind = 2
  · rw [if_pos h1] at hb
    unfold actNew at hb
    simp only [hI, hD, hd, hx] at hb
    by_cases g1 : d.kind ≠ 2
    · rw [if_pos g1] at hb; exact same_turn ha hb
    by_cases g2 : 0 ≤ findV d.kids o.name
    · rw [if_neg g1, if_pos g2] at hb; exact same_turn ha hb
    by_cases g3 : x.kind ≠ 0 ∨ 0 < x.ver
    · rw [if_neg g1, if_neg g2, if_pos g3] at hb; exact same_turn ha hb
    rw [if_neg g1, if_neg g2, if_neg g3] at hb
    have hxv := obj_ver (ok_obj hs hx)
    rcases set_cases hb with ⟨rfl, rfl⟩ | ⟨hne, hb⟩
    · rw [hd] at ha; cases ha
      exact .inr ⟨rfl, hDin (by omega), .inr (.inr (put_ne (find_no g2 (ents_pos hs hd)) _))⟩
    · rcases set_cases hb with ⟨rfl, rfl⟩ | ⟨hne2, hb⟩
      · rw [hx] at ha; cases ha
        refine .inr ⟨?_, hIin, .inr (.inl ?_)⟩
        · show (1 : Int) = _ + 1; omega
        · dsimp only; split <;> omega
      · exact same_turn ha hb
  rw [if_neg h1] at hb
  by_cases h3 : o.kind = 3
  · rw [if_pos h3] at hb
    unfold actGone at hb
    simp only [hI, hD, hd, hx] at hb
    by_cases g1 : d.kind ≠ 2
    · rw [if_pos g1] at hb; exact same_turn ha hb
    by_cases g2 : findV d.kids o.name ≠ o.id
    · rw [if_neg g1, if_pos g2] at hb; exact same_turn ha hb
    by_cases g3 : 0 < x.kids.length
    · rw [if_neg g1, if_neg g2, if_pos g3] at hb; exact same_turn ha hb
    rw [if_neg g1, if_neg g2, if_neg g3] at hb
    have g2 : findV d.kids o.name = o.id := by simpa using g2
    obtain ⟨e0, m0, n0, k0⟩ := find_name g2 (by omega)
    have hkx : x.kind ≠ 0 := by
      have h5 := cnt_yes (mem_flatE.2 ⟨d, hd, m0⟩)
      rw [k0, hid] at h5
      have h6 := ok_cnt hs (show 1 ≤ I by omega) (show I < 32 by omega)
      rw [kindOf_at hx] at h6
      intro h7
      rw [if_pos h7] at h6
      omega
    rcases set_cases hb with ⟨rfl, rfl⟩ | ⟨hne, hb⟩
    · rw [hx] at ha; cases ha
      exact .inr ⟨rfl, hIin, .inr (.inl (Ne.symm hkx))⟩
    · rcases set_cases hb with ⟨rfl, rfl⟩ | ⟨hne2, hb⟩
      · rw [hd] at ha; cases ha
        exact .inr ⟨rfl, hDin (by omega), .inr (.inr (out_ne m0 n0))⟩
      · exact same_turn ha hb
  rw [if_neg h3] at hb
  by_cases h4 : o.kind = 4
  · rw [if_pos h4] at hb
    unfold actMove at hb
    simp only [hD, hE, hd, hy] at hb
    by_cases g1 : d.kind ≠ 2 ∨ y.kind ≠ 2
    · rw [if_pos g1] at hb; exact same_turn ha hb
    by_cases g2 : findV d.kids o.name ≠ o.id
    · rw [if_neg g1, if_pos g2] at hb; exact same_turn ha hb
    by_cases g3 : 0 ≤ findV y.kids o.name2
    · rw [if_neg g1, if_neg g2, if_pos g3] at hb; exact same_turn ha hb
    by_cases g4 : under os o.id 33 o.dir2 = true
    · rw [if_neg g1, if_neg g2, if_neg g3, if_pos g4] at hb; exact same_turn ha hb
    rw [if_neg g1, if_neg g2, if_neg g3, if_neg g4] at hb
    have g2 : findV d.kids o.name = o.id := by simpa using g2
    obtain ⟨e0, m0, n0, k0⟩ := find_name g2 (by omega)
    have hnm := find_no g3 (ents_pos hs hy)
    have hDi := hDin (by omega)
    have hEi := hEin h4
    have q1 := kidsL_get D (outL o.name) ha
    have q2 := kidsL_get E (putL ⟨o.name2, o.id⟩) q1
    unfold turnM at hb
    by_cases hED : E = D
    · subst hED
      rw [hd] at hy; cases hy
      rw [if_pos rfl, turnL_get E q2] at hb
      cases hb
      by_cases hiE : i = E
      · subst hiE
        rw [hd] at ha; cases ha
        refine .inr ⟨by simp, hEi, .inr (.inr ?_)⟩
        simp only [if_pos]
        exact put_ne hnm _
      · exact .inl (by simp [hiE])
    · rw [if_neg hED, turnL_get E (turnL_get D q2)] at hb
      cases hb
      by_cases hiE : i = E
      · subst hiE
        rw [hy] at ha; cases ha
        refine .inr ⟨by simp [hED], hEi, .inr (.inr ?_)⟩
        simp only [if_pos, if_neg hED]
        exact put_ne hnm _
      · by_cases hiD : i = D
        · subst hiD
          rw [hd] at ha; cases ha
          refine .inr ⟨by simp [hiE], hDi, .inr (.inr ?_)⟩
          simp only [if_pos, if_neg hiE]
          exact out_ne m0 n0
        · exact .inl (by simp [hiE, hiD])
  rw [if_neg h4] at hb
  have h5 : o.kind = 5 := by have := op_kinds hk; omega
  unfold actText at hb
  simp only [hI, hx] at hb
  by_cases g1 : x.kind ≠ 1
  · rw [if_pos g1] at hb; exact same_turn ha hb
  rw [if_neg g1] at hb
  rcases set_cases hb with ⟨rfl, rfl⟩ | ⟨hne, hb⟩
  · rw [hx] at ha; cases ha
    exact .inr ⟨rfl, hIin, .inl h5⟩
  · exact same_turn ha hb
theorem set_self {os : List LObj} {k : Nat} {o : LObj} (h : k < os.length) : (os.set k o)[k]? = some o := by
  rw [List.getElem?_set_self h]
/-- What went well turned something. -/
theorem turn_some {os : List LObj} {o : LOp} (hs : specOk os = true) (hk : opOk o = true) (h0 : (actDo os o).2 = 0) : ∃ (i : Nat) (a b : LObj), os[i]? = some a ∧ (actDo os o).1[i]? = some b ∧ b.ver = a.ver + 1 := by
  obtain ⟨i1, i2⟩ := opOk_id hk
  obtain ⟨d1, d2⟩ := opOk_dir hk
  obtain ⟨e1, e2⟩ := opOk_dir2 hk
  have hl := ok_len hs
  obtain ⟨d, hd⟩ := at_ (os := os) hl d1 d2
  obtain ⟨x, hx⟩ := at_ (os := os) hl (by omega) i2
  obtain ⟨y, hy⟩ := at_ (os := os) hl e1 e2
  obtain ⟨I, hI⟩ : ∃ I : Nat, o.id.toNat = I := ⟨_, rfl⟩
  obtain ⟨D, hD⟩ : ∃ D : Nat, o.dir.toNat = D := ⟨_, rfl⟩
  obtain ⟨E, hE⟩ : ∃ E : Nat, o.dir2.toNat = E := ⟨_, rfl⟩
  rw [hD] at hd
  rw [hI] at hx
  rw [hE] at hy
  have lI : I < os.length := by omega
  have lD : D < os.length := by omega
  unfold actDo at h0 ⊢
  by_cases hw : wornB os (opIds o) = true
  · rw [if_pos hw] at h0; simp at h0
  rw [if_neg hw] at h0 ⊢
  by_cases h1 : o.kind = 1 ∨ o.kind = 2
  · rw [if_pos h1] at h0 ⊢
    unfold actNew at h0 ⊢
    simp only [hI, hD, hd, hx] at h0 ⊢
    by_cases g1 : d.kind ≠ 2
    · rw [if_pos g1] at h0; simp at h0
    by_cases g2 : 0 ≤ findV d.kids o.name
    · rw [if_neg g1, if_pos g2] at h0; simp at h0
    by_cases g3 : x.kind ≠ 0 ∨ 0 < x.ver
    · rw [if_neg g1, if_neg g2, if_pos g3] at h0; simp at h0
    rw [if_neg g1, if_neg g2, if_neg g3]
    exact ⟨D, d, _, hd, set_self (by simpa using lD), rfl⟩
  rw [if_neg h1] at h0 ⊢
  by_cases h3 : o.kind = 3
  · rw [if_pos h3] at h0 ⊢
    unfold actGone at h0 ⊢
    simp only [hI, hD, hd, hx] at h0 ⊢
    by_cases g1 : d.kind ≠ 2
    · rw [if_pos g1] at h0; simp at h0
    by_cases g2 : findV d.kids o.name ≠ o.id
    · rw [if_neg g1, if_pos g2] at h0; simp at h0
    by_cases g3 : 0 < x.kids.length
    · rw [if_neg g1, if_neg g2, if_pos g3] at h0; simp at h0
    rw [if_neg g1, if_neg g2, if_neg g3]
    exact ⟨I, x, _, hx, set_self (by simpa using lI), rfl⟩
  rw [if_neg h3] at h0 ⊢
  by_cases h4 : o.kind = 4
  · rw [if_pos h4] at h0 ⊢
    unfold actMove at h0 ⊢
    simp only [hD, hE, hd, hy] at h0 ⊢
    by_cases g1 : d.kind ≠ 2 ∨ y.kind ≠ 2
    · rw [if_pos g1] at h0; simp at h0
    by_cases g2 : findV d.kids o.name ≠ o.id
    · rw [if_neg g1, if_pos g2] at h0; simp at h0
    by_cases g3 : 0 ≤ findV y.kids o.name2
    · rw [if_neg g1, if_neg g2, if_pos g3] at h0; simp at h0
    by_cases g4 : under os o.id 33 o.dir2 = true
    · rw [if_neg g1, if_neg g2, if_neg g3, if_pos g4] at h0; simp at h0
    rw [if_neg g1, if_neg g2, if_neg g3, if_neg g4]
    have q2 := kidsL_get E (putL ⟨o.name2, o.id⟩) (kidsL_get D (outL o.name) hy)
    unfold turnM
    by_cases hED : E = D
    · rw [if_pos hED]
      exact ⟨E, y, _, hy, turnL_get D q2, by simp [hED]⟩
    · rw [if_neg hED]
      exact ⟨E, y, _, hy, turnL_get E (turnL_get D q2), by simp [hED]⟩
  rw [if_neg h4] at h0 ⊢
  unfold actText at h0 ⊢
  simp only [hI, hx] at h0 ⊢
  by_cases g1 : x.kind ≠ 1
  · rw [if_pos g1] at h0; simp at h0
  rw [if_neg g1]
  exact ⟨I, x, _, hx, set_self lI, rfl⟩
end Go.Proofs.YtnolbfijcnldjaaGreatDoor

/- What is done touches what it names, and how many it turns: plain facts. -/
namespace Go.Proofs.YtnolbfijcnldjaaGreatDoor

end Go.Proofs.YtnolbfijcnldjaaGreatDoor

/- A list is all or nothing: plain facts about ActAll. -/
namespace Go.Proofs.YtnolbfijcnldjaaGreatDoor

theorem allGo_nil (os0 os : List LObj) (i : Nat) : allGo os0 os [] i = (os, 0, i) := rfl
theorem allGo_cons (os0 os : List LObj) (o : LOp) (r : List LOp) (i : Nat) : allGo os0 os (o :: r) i = if (actDo os o).2 = 0 then allGo os0 (actDo os o).1 r (i + 1) else (os0, (actDo os o).2, i) := rfl
theorem allR_go {os : List LObj} {ops : List LOp} (hs : specOk os = true) (hf : formsB ops = true) : allR os ops = allGo os os ops 0 := by unfold allR; rw [if_pos ⟨hs, hf⟩]
end Go.Proofs.YtnolbfijcnldjaaGreatDoor

/- What a list turns lies among what it names, and it fits its log no more: plain facts. -/
namespace Go.Proofs.YtnolbfijcnldjaaGreatDoor

theorem actDo_at {os : List LObj} (o : LOp) {j : Nat} {x : LObj} (hx : os[j]? = some x) : ∃ z, (actDo os o).1[j]? = some z := by
  have h1 := (List.getElem?_eq_some_iff.1 hx).1
  exact ⟨_, List.getElem?_eq_getElem (by rw [actDo_len]; exact h1)⟩
theorem go_ver (a : List LObj) : ∀ (ops : List LOp) (os : List LObj) (i : Nat), specOk os = true → (∀ o ∈ ops, opOk o = true) → (allGo a os ops i).2.1 = 0 → ∀ (j : Nat) x y, os[j]? = some x → (allGo a os ops i).1[j]? = some y → x.ver ≤ y.ver ∧ ((∀ o ∈ ops, j ∉ opIds o) → y = x)
  | [], os, i, _, _, _, j, x, y, hx, hy => by
    rw [allGo_nil] at hy
    rw [hx] at hy
    cases hy
    exact ⟨Int.le_refl _, fun _ => rfl⟩
  | o :: r, os, i, hs, hk, h0, j, x, y, hx, hy => by
    rw [allGo_cons] at h0 hy
    have hok := hk o (List.mem_cons_self ..)
    by_cases h1 : (actDo os o).2 = 0
    · rw [if_pos h1] at h0 hy
      obtain ⟨z, hz⟩ := actDo_at o hx
      obtain ⟨g1, g2⟩ := go_ver a r _ (i + 1) (act_ok hs hok h1) (fun p hp => hk p (List.mem_cons_of_mem _ hp)) h0 j z y hz hy
      rcases turnP_any hs hok hx hz with rfl | ⟨e, hin, -⟩
      · exact ⟨g1, fun h => g2 fun p hp => h p (List.mem_cons_of_mem _ hp)⟩
      · exact ⟨by omega, fun h => absurd hin (h o (List.mem_cons_self ..))⟩
    · rw [if_neg h1] at h0
      exact absurd h0 h1
theorem allGo_len (a : List LObj) : ∀ (ops : List LOp) (os : List LObj) (i : Nat), (allGo a os ops i).2.1 = 0 → (allGo a os ops i).1.length = os.length
  | [], os, i, _ => rfl
  | o :: r, os, i, h0 => by
    rw [allGo_cons] at h0 ⊢
    by_cases h1 : (actDo os o).2 = 0
    · rw [if_pos h1] at h0 ⊢
      rw [allGo_len a r _ _ h0, actDo_len]
    · rw [if_neg h1] at h0
      exact absurd h0 h1
theorem go_grow (a : List LObj) {ops : List LOp} {os : List LObj} {i : Nat} (hne : ops ≠ []) (hs : specOk os = true) (hk : ∀ o ∈ ops, opOk o = true) (h0 : (allGo a os ops i).2.1 = 0) : ∃ (j : Nat) (x y : LObj), os[j]? = some x ∧ (allGo a os ops i).1[j]? = some y ∧ x.ver < y.ver ∧ ∃ o ∈ ops, j ∈ opIds o := by
  match ops, hne with
  | o :: r, _ =>
    have hok := hk o (List.mem_cons_self ..)
    have hl := allGo_len a _ _ _ h0
    rw [allGo_cons] at h0 hl ⊢
    by_cases h1 : (actDo os o).2 = 0
    · rw [if_pos h1] at h0 hl ⊢
      obtain ⟨j, x, z, hx, hz, e⟩ := turn_some hs hok h1
      have hj : j < (allGo a (actDo os o).1 r (i + 1)).1.length := by rw [hl]; exact (List.getElem?_eq_some_iff.1 hx).1
      refine ⟨j, x, _, hx, List.getElem?_eq_getElem hj, ?_, o, List.mem_cons_self .., ?_⟩
      · have := (go_ver a r _ (i + 1) (act_ok hs hok h1) (fun p hp => hk p (List.mem_cons_of_mem _ hp)) h0 j z _ hz (List.getElem?_eq_getElem hj)).1
        omega
      · rcases turnP_any hs hok hx hz with rfl | ⟨-, hin, -⟩
        · omega
        · exact hin
    · rw [if_neg h1] at h0
      exact absurd h0 h1
theorem fits_at {os : List LObj} : ∀ {xs : List LBase}, (fitsV os xs).1 = true → ∀ x ∈ xs, verAt os x.id = x.ver
  | [], _, x, hx => by simp at hx
  | b :: xs, h, x, hx => by
    unfold fitsV at h
    by_cases e : verAt os b.id = b.ver
    · rw [if_pos e] at h
      rcases List.mem_cons.1 hx with rfl | hx
      · exact e
      · exact fits_at h x hx
    · rw [if_neg e] at h; simp at h
theorem bases_mem : ∀ {xs : List LBase} {is : List Nat}, basesFor xs is = true → ∀ i ∈ is, ∃ x ∈ xs, x.id = (i : Int)
  | [], [], _, i, hi => by simp at hi
  | [], _ :: _, h, _, _ => by simp [basesFor] at h
  | _ :: _, [], h, _, _ => by simp [basesFor] at h
  | x :: xs, j :: is, h, i, hi => by
    simp only [basesFor, baseOf, Bool.and_eq_true, beq_iff_eq] at h
    rcases List.mem_cons.1 hi with rfl | hi
    · exact ⟨x, List.mem_cons_self .., h.1.1⟩
    · obtain ⟨y, hy, e⟩ := bases_mem h.2 i hi
      exact ⟨y, List.mem_cons_of_mem _ hy, e⟩
theorem verAt_at {os : List LObj} {j : Nat} {x : LObj} (h : os[j]? = some x) : verAt os (j : Int) = x.ver := by
  unfold verAt; simp [h]
theorem forms_all {ops : List LOp} (h : formsB ops = true) : ops.length ≤ 60 ∧ ∀ o ∈ ops, opOk o = true := by
  unfold formsB at h
  simp only [Bool.and_eq_true, decide_eq_true_eq, List.all_eq_true] at h
  exact h
theorem ids_in {ops : List LOp} (h : formsB ops = true) {j : Nat} {o : LOp} (ho : o ∈ ops) (hj : j ∈ opIds o) : j ∈ logIds ops := by
  unfold logIds
  rw [List.take_of_length_le (forms_all h).1]
  unfold logIdsL
  rw [mem_logIdsL]
  exact .inr ⟨o, ho, hj⟩
/-- All that the law of turned logs asks of the answer. -/
structure TurnedR (os : List LObj) (l : LLog) (rl : List LObj) : Prop where
  len : rl.length = 32
  same : ∀ (i : Nat) a b, os[i]? = some a → rl[i]? = some b → i ∉ logIds l.list → b = a
  fits : l.list ≠ [] → (logFits os l).1 = true → (logFits rl l).1 = false
theorem turnedR_any {os rl : List LObj} {l : LLog} {rp : Nat} (hs : specOk os = true) (hl : logOk l = true) (hr : (rl, (0 : Int), rp) = allR os l.list) : TurnedR os l rl := by
  have hf : formsB l.list = true ∧ basesFor l.bases (logIds l.list) = true := by
    unfold logOk at hl
    simp only [Bool.and_eq_true] at hl
    exact ⟨hl.1.2, hl.2⟩
  obtain ⟨hf, hb⟩ := hf
  rw [allR_go hs hf] at hr
  have h0 : (allGo os os l.list 0).2.1 = 0 := by rw [← hr]
  have e1 : rl = (allGo os os l.list 0).1 := congrArg Prod.fst hr
  have hall := (forms_all hf).2
  refine ⟨by rw [e1, allGo_len os _ _ _ h0, ok_len hs], fun i a b ha hb' hn => ?_, fun hne h1 => ?_⟩
  · rw [e1] at hb'
    exact (go_ver os _ _ 0 hs hall h0 i a b ha hb').2 fun o ho hi => hn (ids_in hf ho hi)
  · obtain ⟨j, x, y, hx, hy, hv, o, ho, hj⟩ := go_grow os hne hs hall h0
    obtain ⟨z, hz, ez⟩ := bases_mem hb j (ids_in hf ho hj)
    unfold logFits at h1 ⊢
    rw [hs, hl] at h1
    have h1 : (fitsV os l.bases).1 = true := h1
    have h2 := fits_at h1 z hz
    rw [ez, verAt_at hx] at h2
    by_cases hc : (specOk rl && logOk l) = true
    · rw [if_pos hc]
      cases h3 : (fitsV rl l.bases).1
      · rfl
      · have h4 := fits_at h3 z hz
        rw [ez, verAt_at (by rw [e1]; exact hy)] at h4
        omega
    · rw [if_neg hc]
end Go.Proofs.YtnolbfijcnldjaaGreatDoor
