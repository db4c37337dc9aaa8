/- Lemmas that the proofs of this seat share: MarkP, KB, MarkW, MarkX, SlimX, ExactDoA, ExactDoB, DrawAct, DrawAct2, ActOk. -/
import Derived.Test.YtnolbfijcnldjaaGreatDoorW20
import Derived.Test.YtnolbfijcnldjaaGreatDoorW16
import Derived.Test.YtnolbfijcnldjaaGreatDoorW01
import Derived.Test.YtnolbfijcnldjaaGreatDoorW04
import Derived.Test.YtnolbfijcnldjaaGreatDoorW13
import Derived.Deep.RegionWith
import Derived.RowKitTokens
import Derived.Test.YtnolbfijcnldjaaGreatDoorW14
import Derived.Test.YtnolbfijcnldjaaGreatDoorW12
/- A tree of one's own, written over and read again: its objects. -/
namespace Go.Proofs.YtnolbfijcnldjaaGreatDoor
open Go.RowKit

/-- The number at which an object is written over. -/
def kAt (k0 : Nat) (os : List LObj) (i : Nat) : Nat := k0 + 3 * i + 2 * ((os.take i).map fun o => o.kids.length).sum
def KB (os : List LObj) (M : Nat) : Prop := ∀ o ∈ os, o.kids.length ≤ M
def markO (k : Nat) (o : LObj) : LObj := ⟨(k : Int), ((k + 1 : Nat) : Int), mkT (k + 2), mkE (k + 3) o.kids.length⟩
def MkdO (k0 : Nat) (os cur : List LObj) (j : Nat) : Prop := cur.length = os.length ∧ (∀ i o, i < j → os[i]? = some o → cur[i]? = some (markO (kAt k0 os i) o)) ∧ ∀ i, j ≤ i → cur[i]? = os[i]?
theorem MkdO.next {k0 j : Nat} {os cur : List LObj} {o : LObj} (h : MkdO k0 os cur j) (ho : os[j]? = some o) : MkdO k0 os (cur.set j (markO (kAt k0 os j) o)) (j + 1) := by
  have hj : j < os.length := (List.getElem?_eq_some_iff.1 ho).1
  refine ⟨by simp [h.1], fun i p hi hp => ?_, fun i hi => ?_⟩
  · by_cases e : i = j
    · subst e; rw [ho] at hp; cases hp; rw [List.getElem?_set_self (by rw [h.1]; omega)]
    · rw [List.getElem?_set_ne (Ne.symm e)]; exact h.2.1 i p (by omega) hp
  · rw [List.getElem?_set_ne (by omega)]; exact h.2.2 i (by omega)

end Go.Proofs.YtnolbfijcnldjaaGreatDoor

/- How many names an object of ActDo's answer has at most. -/
namespace Go.Proofs.YtnolbfijcnldjaaGreatDoor
theorem KB.set {os : List LObj} {M i : Nat} {y : LObj} (h : KB os M) (hy : y.kids.length ≤ M) : KB (os.set i y) M := fun o ho => by
  rcases List.mem_or_eq_of_mem_set ho with h1 | rfl
  · exact h o h1
  · exact hy
theorem KB.mono {os : List LObj} {M N : Nat} (h : KB os M) (hm : M ≤ N) : KB os N := fun o ho => Nat.le_trans (h o ho) hm
theorem KB.get {os : List LObj} {M i : Nat} {o : LObj} (h : KB os M) (ho : os[i]? = some o) : o.kids.length ≤ M := h o (List.mem_of_getElem? ho)
theorem KB.turn {os : List LObj} {M : Nat} (h : KB os M) (i : Nat) : KB (turnL os i) M := by
  unfold turnL
  split
  · next o ho => exact h.set (show o.kids.length ≤ M from h.get ho)
  · exact h
theorem KB.turnM {os : List LObj} {M : Nat} (h : KB os M) (i j : Nat) : KB (turnM os i j) M := by
  unfold Go.Proofs.YtnolbfijcnldjaaGreatDoor.turnM
  split
  · exact h.turn i
  · exact (h.turn i).turn j
theorem KB.kids {os : List LObj} {M N : Nat} (h : KB os M) (hm : M ≤ N) (i : Nat) (f : List LEnt → List LEnt) (hf : ∀ es, es.length ≤ M → (f es).length ≤ N) : KB (kidsL os i f) N := by
  unfold kidsL
  split
  · next o ho => exact (h.mono hm).set (hf _ (h.get ho))
  · exact h.mono hm
end Go.Proofs.YtnolbfijcnldjaaGreatDoor

/- Any tree that can be written: marked. What is asked of it: it is there, and can be written; what is told: each cell keeps its sort, and nothing but the tree's blocks is changed. -/
namespace Go.Proofs.YtnolbfijcnldjaaGreatDoor
open Go.RowKit

/-- Each cell keeps its sort. -/
structure Keeps (w w' : World) : Prop where
  size : w.heap.size ≤ w'.heap.size
  int : ∀ p k, w.cell? p = some (.int .i64 k) → ∃ k', w'.cell? p = some (.int .i64 k')
  str : ∀ p s, w.cell? p = some (.string s) → ∃ s', w'.cell? p = some (.string s')
  sli : ∀ p a n c, w.cell? p = some (.slice a n c) → w'.cell? p = some (.slice a n c)
  fro : ∀ p, p.block < w.heap.size → w'.frozen? p = w.frozen? p
theorem Keeps.refl (w : World) : Keeps w w := ⟨Nat.le_refl _, fun _ k h => ⟨k, h⟩, fun _ s h => ⟨s, h⟩, fun _ _ _ _ h => h, fun _ _ => rfl⟩
theorem Keeps.trans {a b c : World} (h : Keeps a b) (k : Keeps b c) : Keeps a c :=
  ⟨Nat.le_trans h.size k.size, fun p x hx => by obtain ⟨y, hy⟩ := h.int p x hx; exact k.int p y hy, fun p x hx => by obtain ⟨y, hy⟩ := h.str p x hx; exact k.str p y hy, fun p x y z hx => k.sli p x y z (h.sli p x y z hx), fun p hp => (k.fro p (by have := h.size; omega)).trans (h.fro p hp)⟩
theorem Keeps.below {w w' : World} (h : Below w.heap.size w w') : Keeps w w' :=
  ⟨h.size, fun p x hx => ⟨x, by rw [h.cell (World.block_lt_of_cell? w p hx)]; exact hx⟩, fun p x hx => ⟨x, by rw [h.cell (World.block_lt_of_cell? w p hx)]; exact hx⟩, fun p x y z hx => by rw [h.cell (World.block_lt_of_cell? w p hx)]; exact hx, fun p hp => h.frozen hp⟩
/-- Nothing but blocks from L on and below U is changed. -/
def Only (L U : Nat) (w w' : World) : Prop := Below L w w' ∧ ∀ b, b < w.heap.size → U ≤ b → w'.heap[b]? = w.heap[b]?
theorem Only.refl (L U : Nat) (w : World) : Only L U w w := ⟨Below.refl _ _, fun _ _ _ => rfl⟩
theorem Only.trans {L U : Nat} {a b c : World} (h : Only L U a b) (k : Only L U b c) : Only L U a c := ⟨h.1.trans k.1, fun i hi hn => (k.2 i (by have := h.1.size; omega) hn).trans (h.2 i hi hn)⟩
theorem Only.below {L U : Nat} {w w' : World} (h : Below w.heap.size w w') (hL : L ≤ w.heap.size) : Only L U w w' := ⟨h.mono hL, fun b hb _ => h.block b hb⟩
theorem Only.set {L U : Nat} {w : World} {p : Addr} (v : Value) (hL : L ≤ p.block) (hU : p.block < U) : Only L U w (w.setCell p v) := ⟨(Below.refl _ _).setCell hL v, fun b _ hn => Below.heap_setCell w p v b (by omega)⟩

/-- Names that can be written. -/
def TypedE (w : World) (L U : Nat) (a : Option Addr) (n : Nat) : Prop := n ≠ 0 → ∃ b off, a = some ⟨b, off, none⟩ ∧ L ≤ b ∧ b < U ∧ b < w.heap.size ∧ (∀ o, w.frozen? ⟨b, o, none⟩ = false) ∧ ∀ i, i < n → (∃ s, w.cell? ⟨b, off + i * 2, none⟩ = some (.string s)) ∧ ∃ k, w.cell? ⟨b, off + i * 2 + 1, none⟩ = some (.int .i64 k)
theorem TypedE.keep {w w' : World} {L U : Nat} {a : Option Addr} {n : Nat} (h : TypedE w L U a n) (k : Keeps w w') : TypedE w' L U a n := fun hn => by
  obtain ⟨b, off, h1, h2, h3, h4, h5, h6⟩ := h hn
  refine ⟨b, off, h1, h2, h3, by have := k.size; omega, fun o => by rw [k.fro _ (by simpa using h4)]; exact h5 o, fun i hi => ?_⟩
  obtain ⟨⟨s, hs⟩, x, hx⟩ := h6 i hi
  exact ⟨k.str _ s hs, k.int _ x hx⟩
/-- Objects that can be written. -/
def TypedO (w : World) (L U : Nat) (a : Option Addr) (n : Nat) (os : List LObj) : Prop := n ≠ 0 → ∃ b off, a = some ⟨b, off, none⟩ ∧ L ≤ b ∧ b < U ∧ b < w.heap.size ∧ (∀ o, w.frozen? ⟨b, o, none⟩ = false) ∧ ∀ i, i < n → (∃ k, w.cell? ⟨b, off + i * 4, none⟩ = some (.int .i64 k)) ∧ (∃ k, w.cell? ⟨b, off + i * 4 + 1, none⟩ = some (.int .i64 k)) ∧ (∃ s, w.cell? ⟨b, off + i * 4 + 2, none⟩ = some (.string s)) ∧ ∃ o ka kc, os[i]? = some o ∧ w.cell? ⟨b, off + i * 4 + 3, none⟩ = some (.slice ka o.kids.length kc) ∧ TypedE w L U ka o.kids.length
theorem TypedO.keep {w w' : World} {L U : Nat} {a : Option Addr} {n : Nat} {os : List LObj} (h : TypedO w L U a n os) (k : Keeps w w') : TypedO w' L U a n os := fun hn => by
  obtain ⟨b, off, h1, h2, h3, h4, h5, h6⟩ := h hn
  refine ⟨b, off, h1, h2, h3, by have := k.size; omega, fun o => by rw [k.fro _ (by simpa using h4)]; exact h5 o, fun i hi => ?_⟩
  obtain ⟨⟨x, hx⟩, ⟨y, hy⟩, ⟨s, hs⟩, o, ka, kc, ho, hc, he⟩ := h6 i hi
  exact ⟨k.int _ x hx, k.int _ y hy, k.str _ s hs, o, ka, kc, ho, k.sli _ _ _ _ hc, he.keep k⟩

end Go.Proofs.YtnolbfijcnldjaaGreatDoor

/- Copies of any tree can be written. -/
namespace Go.Proofs.YtnolbfijcnldjaaGreatDoor
open Go.RowKit

/-- All blocks from B on can be written. -/
def Unf (B : Nat) (w : World) : Prop := ∀ b o, B ≤ b → w.frozen? ⟨b, o, none⟩ = false
theorem Unf.set {B : Nat} {w : World} (h : Unf B w) (p : Addr) (v : Value) : Unf B (w.setCell p v) := fun b o hb => by rw [World.frozen?_setCell]; exact h b o hb
theorem Unf.alloc {B : Nat} {w : World} (h : Unf B w) (c : Array Value) (t : TypeId) : Unf B (w.alloc (.cells c t)) := fun b o hb => by
  by_cases e : b = w.heap.size
  · subst e; exact World.frozen?_alloc_at c t _ _ rfl
  · rw [World.frozen?_alloc_old _ _ _ (by simpa using e)]; exact h b o hb
theorem Unf.next {B : Nat} {w w1 : World} (h : Unf B w) (hb : Below w.heap.size w w1) (h1 : Unf w.heap.size w1) : Unf B w1 := fun b o hB => by
  by_cases e : b < w.heap.size
  · rw [hb.frozen (by simpa using e)]; exact h b o hB
  · exact h1 b o (by omega)

end Go.Proofs.YtnolbfijcnldjaaGreatDoor

/- Lists of what is done as answers: what the exact laws ask. -/
namespace Go.Proofs.YtnolbfijcnldjaaGreatDoor
open Go.RowKit

theorem OpsAt.but {w w' : World} {L U b : Nat} {a : Option Addr} {n : Nat} {ops : List LOp} (H : OpsAt w L U a n ops) (hb : But b w w') (hU : U ≤ w.heap.size) (hne : b < L ∨ U ≤ b) : OpsAt w' L U a n ops :=
  ⟨H.len, H.bd, fun hn => by
    obtain ⟨g, off, ha, hL, hbU, hc⟩ := H.at_ hn
    refine ⟨g, off, ha, hL, hbU, fun i hi => ?_⟩
    obtain ⟨o, ho, hs, h0⟩ := hc i hi
    exact ⟨o, ho, hs, h0.of_block (hb.block g (by omega) (by omega))⟩⟩
theorem OwnOps.but {w w' : World} {B b : Nat} {v : Value} {l : List LOp} (h : OwnOps w B v l) (hb : But b w w') (hlt : b < B) : OwnOps w' B v l := by
  refine ⟨h.1, ?_⟩
  rcases h.2 with hn | ⟨g, cap, cur, rfl, hB, hgg, rest⟩
  · exact .inl hn
  · refine .inr ⟨g, cap, cur, rfl, hB, ?_, rest⟩
    rw [hb.block g (by omega) (Array.getElem?_eq_some_iff.1 hgg).1]
    exact hgg
theorem OpRow.next {w w' : World} {B : Nat} {a : Option Addr} {n g cap : Nat} {f : Nat → Value} (h : OpRow w B a n g cap f) (hb : Below w.heap.size w w') : OpRow w' B a n g cap f := fun hn => by
  obtain ⟨h1, h2, h3, h4⟩ := h hn
  exact ⟨h1, h2, h3, h4.of_block (hb.block g h4.lt)⟩
theorem But.under {B b : Nat} {w0 w w' : World} (h : Below B w0 w) (hb : But b w w') (hB : B ≤ b) : Below B w0 w' := h.trans (hb.below.mono hB)

end Go.Proofs.YtnolbfijcnldjaaGreatDoor

/- The law of ActDo: what stands in its boxes. -/
namespace Go.Proofs.YtnolbfijcnldjaaGreatDoor
open Go.RowKit

/-- The arguments' boxes. -/
structure AB (w W : World) (ta : Option Addr) (tn tc : Nat) (o : LOp) : Prop where
  below : Below w.heap.size w W
  t : W.cell? ⟨w.heap.size, 0, none⟩ = some (.slice ta tn tc)
  k0 : W.cell? ⟨w.heap.size + 1, 0, none⟩ = some (.int .i64 o.kind)
  k1 : W.cell? ⟨w.heap.size + 1, 1, none⟩ = some (.int .i64 o.dir)
  k2 : W.cell? ⟨w.heap.size + 1, 2, none⟩ = some (.string o.name)
  k3 : W.cell? ⟨w.heap.size + 1, 3, none⟩ = some (.int .i64 o.dir2)
  k4 : W.cell? ⟨w.heap.size + 1, 4, none⟩ = some (.string o.name2)
  k5 : W.cell? ⟨w.heap.size + 1, 5, none⟩ = some (.int .i64 o.id)
  k6 : W.cell? ⟨w.heap.size + 1, 6, none⟩ = some (.string o.text)
  sz : w.heap.size + 1 < W.heap.size
theorem AB.of {w W W' : World} {ta : Option Addr} {tn tc : Nat} {o : LOp} (h : AB w W ta tn tc o) (hb : Below w.heap.size w W') (h0 : W'.heap[w.heap.size]? = W.heap[w.heap.size]?) (h1 : W'.heap[w.heap.size + 1]? = W.heap[w.heap.size + 1]?) (hs : w.heap.size + 1 < W'.heap.size) : AB w W' ta tn tc o := by
  have c0 : ∀ j, W'.cell? ⟨w.heap.size, j, none⟩ = W.cell? ⟨w.heap.size, j, none⟩ := fun j => World.cell?_of_block (w := W) h0
  have c1 : ∀ j, W'.cell? ⟨w.heap.size + 1, j, none⟩ = W.cell? ⟨w.heap.size + 1, j, none⟩ := fun j => World.cell?_of_block (w := W) h1
  exact ⟨hb, by rw [c0]; exact h.t, by rw [c1]; exact h.k0, by rw [c1]; exact h.k1, by rw [c1]; exact h.k2, by rw [c1]; exact h.k3, by rw [c1]; exact h.k4, by rw [c1]; exact h.k5, by rw [c1]; exact h.k6, hs⟩
theorem AB.under {w W W' : World} {ta : Option Addr} {tn tc B : Nat} {o : LOp} (h : AB w W ta tn tc o) (hb : Below B W W') (hB : w.heap.size + 1 < B) : AB w W' ta tn tc o :=
  h.of (h.below.trans (hb.mono (by omega))) (hb.block _ (by omega)) (hb.block _ hB) (by have := hb.size; have := h.sz; omega)
theorem AB.next {w W W' : World} {ta : Option Addr} {tn tc : Nat} {o : LOp} (h : AB w W ta tn tc o) (hb : Below W.heap.size W W') : AB w W' ta tn tc o := h.under hb h.sz
theorem AB.but {w W W' : World} {ta : Option Addr} {tn tc q : Nat} {o : LOp} (h : AB w W ta tn tc o) (hb : But q W W') (hq : w.heap.size + 1 < q) : AB w W' ta tn tc o := h.under hb.below hq
/-- A box with a tree that is read. -/
structure TB (W : World) (hi g : Nat) (x : Option Addr) (c : Nat) (l : List LObj) : Prop where
  box : W.cell? ⟨g, 0, none⟩ = some (.slice x l.length c)
  obj : ObjsAt W 0 hi x l.length l
  lt : g < hi
  le : hi ≤ W.heap.size
theorem TB.under {W W' : World} {hi g : Nat} {x : Option Addr} {c B : Nat} {l : List LObj} (h : TB W hi g x c l) (hb : Below B W W') (hB : hi ≤ B) : TB W' hi g x c l :=
  ⟨by rw [hb.cell (by have := h.lt; simp; omega)]; exact h.box, h.obj.below hb hB, h.lt, by have := hb.size; have := h.le; omega⟩
theorem TB.next {W W' : World} {hi g : Nat} {x : Option Addr} {c : Nat} {l : List LObj} (h : TB W hi g x c l) (hb : Below W.heap.size W W') : TB W' hi g x c l := h.under hb h.le
theorem DoAt.objs {w w' : World} {r : List LObj × Int} {e : Ending} (h : DoAt w r e w') : ∃ x c, e = .returned (.tuple #[.agg #[.slice x r.1.length c], .int .i64 r.2]) ∧ ObjsAt w' w.heap.size w'.heap.size x r.1.length r.1 ∧ Below w.heap.size w w' := by
  obtain ⟨⟨h0, rfl⟩ | ⟨b, c, vs, rfl, hO⟩, hb⟩ := h
  · exact ⟨none, 0, by rw [h0]; rfl, by rw [h0]; exact ⟨rfl, Nat.zero_le _, fun h => absurd rfl h⟩, hb⟩
  · exact ⟨_, c, rfl, hO.to_objs, hb⟩
theorem TypedE.under {w w' : World} {L U : Nat} {a : Option Addr} {n : Nat} (h : TypedE w L U a n) (hb : Below U w w') : TypedE w' L U a n := fun hn => by
  obtain ⟨b, off, h1, h2, h3, h4, h5, h6⟩ := h hn
  refine ⟨b, off, h1, h2, h3, by have := hb.size; omega, fun o => by rw [hb.frozen (by simpa using h3)]; exact h5 o, fun i hi => ?_⟩
  obtain ⟨⟨s, hs⟩, x, hx⟩ := h6 i hi
  exact ⟨⟨s, by rw [hb.cell (by simpa using h3)]; exact hs⟩, x, by rw [hb.cell (by simpa using h3)]; exact hx⟩
theorem TypedO.under {w w' : World} {L U : Nat} {a : Option Addr} {n : Nat} {os : List LObj} (h : TypedO w L U a n os) (hb : Below U w w') : TypedO w' L U a n os := fun hn => by
  obtain ⟨b, off, h1, h2, h3, h4, h5, h6⟩ := h hn
  refine ⟨b, off, h1, h2, h3, by have := hb.size; omega, fun o => by rw [hb.frozen (by simpa using h3)]; exact h5 o, fun i hi => ?_⟩
  obtain ⟨⟨x, hx⟩, ⟨y, hy⟩, ⟨s, hs⟩, o, ka, kc, ho, hc, he⟩ := h6 i hi
  exact ⟨⟨x, by rw [hb.cell (by simpa using h3)]; exact hx⟩, ⟨y, by rw [hb.cell (by simpa using h3)]; exact hy⟩, ⟨s, by rw [hb.cell (by simpa using h3)]; exact hs⟩, o, ka, kc, ho, by rw [hb.cell (by simpa using h3)]; exact hc, he.under hb⟩
/-- A box with a tree that is handed in; its blocks lie from L on, the box behind them. -/
structure XB (W : World) (L U b n : Nat) (os : List LObj) : Prop where
  box : W.cell? ⟨U, 0, none⟩ = some (.slice (some ⟨b, 0, none⟩) n n)
  ty : TypedO W L U (some ⟨b, 0, none⟩) n os
  obj : ObjsAt W L U (some ⟨b, 0, none⟩) n os
  lt : U < W.heap.size
theorem XB.under {W W' : World} {L U b n B : Nat} {os : List LObj} (h : XB W L U b n os) (hb : Below B W W') (hB : U < B) : XB W' L U b n os :=
  ⟨by rw [hb.cell (by simpa using hB)]; exact h.box, h.ty.under (hb.mono (by omega)), h.obj.below hb (by omega), by have := hb.size; have := h.lt; omega⟩
/-- All that stands ahead of the call of the program. -/
structure CD (w W : World) (ta : Option Addr) (tn tc : Nat) (o : LOp) (hi g : Nat) (x : Option Addr) (c : Nat) (l : List LObj) (L U b : Nat) (os : List LObj) : Prop where
  ab : AB w W ta tn tc o
  tb : TB W hi g x c l
  xb : XB W L U b tn os
  n1 : w.heap.size + 1 < hi
  n2 : hi ≤ L
  n3 : L ≤ U
theorem CD.under {w W W' : World} {ta : Option Addr} {tn tc : Nat} {o : LOp} {hi g : Nat} {x : Option Addr} {c : Nat} {l : List LObj} {L U b B : Nat} {os : List LObj} (h : CD w W ta tn tc o hi g x c l L U b os) (hb : Below B W W') (hB : U < B) : CD w W' ta tn tc o hi g x c l L U b os :=
  ⟨h.ab.under hb (by have := h.n1; have := h.n2; have := h.n3; omega), h.tb.under hb (by have := h.n2; have := h.n3; omega), h.xb.under hb hB, h.n1, h.n2, h.n3⟩
theorem CD.next {w W W' : World} {ta : Option Addr} {tn tc : Nat} {o : LOp} {hi g : Nat} {x : Option Addr} {c : Nat} {l : List LObj} {L U b : Nat} {os : List LObj} (h : CD w W ta tn tc o hi g x c l L U b os) (hb : Below W.heap.size W W') : CD w W' ta tn tc o hi g x c l L U b os := h.under hb h.xb.lt
theorem CD.but {w W W' : World} {ta : Option Addr} {tn tc : Nat} {o : LOp} {hi g : Nat} {x : Option Addr} {c : Nat} {l : List LObj} {L U b q : Nat} {os : List LObj} (h : CD w W ta tn tc o hi g x c l L U b os) (hb : But q W W') (hq : U < q) : CD w W' ta tn tc o hi g x c l L U b os := h.under hb.below hq
/-- A tree of one's own, or none. -/
def AnsAt (W : World) (lo : Nat) (x : Option Addr) (c : Nat) (vs : Nat → Value) (l : List LObj) : Prop := (l = [] ∧ x = none ∧ c = 0) ∨ ∃ b, x = some ⟨b, 0, none⟩ ∧ OwnT W lo b c l vs
theorem AnsAt.next {W W' : World} {lo : Nat} {x : Option Addr} {c : Nat} {vs : Nat → Value} {l : List LObj} (h : AnsAt W lo x c vs l) (hb : Below W.heap.size W W') : AnsAt W' lo x c vs l := by
  rcases h with h | ⟨b, rfl, h⟩
  · exact .inl h
  · exact .inr ⟨b, rfl, h.below hb⟩
theorem DoAt.ans {w w' : World} {r : List LObj × Int} {e : Ending} (h : DoAt w r e w') : ∃ x c vs, e = .returned (.tuple #[.agg #[.slice x r.1.length c], .int .i64 r.2]) ∧ AnsAt w' w.heap.size x c vs r.1 ∧ Below w.heap.size w w' := by
  obtain ⟨⟨h0, rfl⟩ | ⟨b, c, vs, rfl, hO⟩, hb⟩ := h
  · exact ⟨none, 0, fun _ => .nilIface, by rw [h0]; rfl, .inl ⟨h0, rfl, rfl⟩, hb⟩
  · exact ⟨_, c, vs, rfl, .inr ⟨b, rfl, hO⟩, hb⟩
theorem AnsAt.objs {W : World} {lo : Nat} {x : Option Addr} {c : Nat} {vs : Nat → Value} {l : List LObj} (h : AnsAt W lo x c vs l) : ObjsAt W lo W.heap.size x l.length l := by
  rcases h with ⟨rfl, rfl, rfl⟩ | ⟨b, rfl, h⟩
  · exact ⟨rfl, Nat.zero_le _, fun h => absurd rfl h⟩
  · exact h.to_objs
/-- The box with the program's answer. -/
structure GB (W : World) (lo g : Nat) (x : Option Addr) (c : Nat) (vs : Nat → Value) (l : List LObj) : Prop where
  box : W.cell? ⟨g, 0, none⟩ = some (.slice x l.length c)
  row : ∃ f, W.rowIs g 25 1 f
  ans : AnsAt W lo x c vs l
theorem GB.next {W W' : World} {lo g : Nat} {x : Option Addr} {c : Nat} {vs : Nat → Value} {l : List LObj} (h : GB W lo g x c vs l) (hb : Below W.heap.size W W') : GB W' lo g x c vs l := by
  obtain ⟨f, hf⟩ := h.row
  exact ⟨by rw [hb.cell (by simpa using hf.lt)]; exact h.box, ⟨f, hf.of_block (hb.block g hf.lt)⟩, h.ans.next hb⟩
section
variable {ops : Array Oper} {ac : Act} {K : Act → World → Prop} {Q : Exit → Act → World → Prop} {E : Prop} {ty : TypeId} {ps : String} {af : Array Edge}
theorem st_store31 (W : World) (tp tv : Nat) (q : Nat) (a : Option Addr) (n c : Nat) (hp : ac.tmps[tp]?.getD undef = .pointer (some ⟨q, 0, none⟩)) (hv : ac.tmps[tv]?.getD undef = .agg #[.slice a n c]) (hr : W.rowIs q 25 1 (zrow #[.slice none 0 0]))
    (h : ∀ W', But q W W' → W'.cell? ⟨q, 0, none⟩ = some (.slice a n c) → Hid (W' = W.setCell ⟨q, 0, none⟩ (.slice a n c)) → K ac W') :
    if Region.wanted { dst := none, op := .store 25 (.tmp tp) (.tmp tv), type := ty, pos := ps, after := af, guard := none } (yielded ops ac.tmps) = true then Oper.wp Tryz.prog { dst := none, op := .store 25 (.tmp tp) (.tmp tv), type := ty, pos := ps, after := af, guard := none } ac W K Q else E := by
  rw [if_pos (by simp [Region.wanted])]
  have c0 : W.cell? ⟨q, 0, none⟩ = some (.slice none 0 0) := by rw [hr.cell (by omega)]; rfl
  have z0 := hr.frozen 0
  have r2 := hr.set 0 (.slice a n c)
  have := h (W.setCell ⟨q, 0, none⟩ (.slice a n c)) ((But.refl q W).set _ _) (by rw [r2.cell (by omega)]; rfl) rfl
  clear h hr r2
  unfold Oper.wp
  go_simp
  exact this
end
end Go.Proofs.YtnolbfijcnldjaaGreatDoor

/- The law of ActDo: an answer written over and read again, or none. -/
namespace Go.Proofs.YtnolbfijcnldjaaGreatDoor
open Go.RowKit

theorem OwnEnts.blocks {w w' : World} {B : Nat} {v : Value} {es : List LEnt} (h : OwnEnts w B v es) (hk : ∀ q, B ≤ q → q < w.heap.size → w'.heap[q]? = w.heap[q]?) : OwnEnts w' B v es := by
  refine ⟨h.1, ?_⟩
  rcases h.2 with hn | ⟨g, cap, cur, rfl, hb, hgg, rest⟩
  · exact .inl hn
  · exact .inr ⟨g, cap, cur, rfl, hb, by rw [hk g hb (Array.getElem?_eq_some_iff.1 hgg).1]; exact hgg, rest⟩
theorem OwnT.blocks {w w' : World} {B b c : Nat} {os : List LObj} {vs : Nat → Value} (h : OwnT w B b c os vs) (hk : ∀ q, B ≤ q → q < w.heap.size → w'.heap[q]? = w.heap[q]?) : OwnT w' B b c os vs := by
  obtain ⟨cur, hr, hcs, hlc, hcm⟩ := h.row
  have hb := hk b h.lo h.lt
  have hc : ∀ j, w'.cell? ⟨b, j, none⟩ = w.cell? ⟨b, j, none⟩ := fun j => World.cell?_of_block (w := w) hb
  refine ⟨h.lo, ⟨cur, by rw [hb]; exact hr, hcs, hlc, hcm⟩, fun i o ho => ?_, h.apart⟩
  obtain ⟨h1, h2, h3, h4, h5, h6, h7⟩ := h.at_ i o ho
  exact ⟨h1, by rw [hc]; exact h2, by rw [hc]; exact h3, by rw [hc]; exact h4, by rw [hc]; exact h5, h6.blocks hk, h7⟩
theorem AnsAt.blocks {W W' : World} {lo : Nat} {x : Option Addr} {c : Nat} {vs : Nat → Value} {l : List LObj} (h : AnsAt W lo x c vs l) (hk : ∀ q, lo ≤ q → q < W.heap.size → W'.heap[q]? = W.heap[q]?) : AnsAt W' lo x c vs l := by
  rcases h with h | ⟨b, rfl, h⟩
  · exact .inl h
  · exact .inr ⟨b, rfl, h.blocks hk⟩
/-- The arguments are written over: the answer and its box stand. -/
theorem GB.only {W W' : World} {lo g L U : Nat} {x : Option Addr} {c : Nat} {vs : Nat → Value} {l : List LObj} (h : GB W lo g x c vs l) (hO : Only L U W W') (hlo : U ≤ lo) (hg : U ≤ g) : GB W' lo g x c vs l := by
  obtain ⟨f, hf⟩ := h.row
  have e := hO.2 g hf.lt hg
  exact ⟨by rw [World.cell?_of_block (w := W) e]; exact h.box, ⟨f, hf.of_block e⟩, h.ans.blocks fun q h1 h2 => hO.2 q h2 (by omega)⟩
/-- An answer that is written over: none, or the tree of one's own with other content. -/
def HeldAt (W : World) (lo : Nat) (x : Option Addr) (c : Nat) (vs : Nat → Value) (l : List LObj) : Prop := (l = [] ∧ x = none ∧ c = 0) ∨ ∃ b cur, x = some ⟨b, 0, none⟩ ∧ OwnT W lo b c cur vs ∧ MkdO 1 l cur l.length
theorem HeldAt.next {W W' : World} {lo : Nat} {x : Option Addr} {c : Nat} {vs : Nat → Value} {l : List LObj} (h : HeldAt W lo x c vs l) (hb : Below W.heap.size W W') : HeldAt W' lo x c vs l := by
  rcases h with h | ⟨b, cur, rfl, h, hm⟩
  · exact .inl h
  · exact .inr ⟨b, cur, rfl, h.below hb, hm⟩
end Go.Proofs.YtnolbfijcnldjaaGreatDoor

/- What a code draws: a tree and something to be done (DrawActDo). -/
namespace Go.Proofs.YtnolbfijcnldjaaGreatDoor
open Go.RowKit

/-- The boxes of the answer, the box of the tree that was drawn first. -/
structure DA (w W : World) (T b c : Nat) : Prop where
  below : Below w.heap.size w W
  r1 : W.rowIs w.heap.size 25 1 (zrow #[.slice none 0 0])
  r2 : W.rowIs (w.heap.size + 1) 27 7 (zrow #[.int .i64 0, .int .i64 0, .string ⟨#[]⟩, .int .i64 0, .string ⟨#[]⟩, .int .i64 0, .string ⟨#[]⟩])
  rlt2 : w.heap.size + 1 + 1 < W.heap.size
  t : W.cell? ⟨T, 0, none⟩ = some (.slice (some ⟨b, 0, none⟩) 32 c)
  tlo : w.heap.size + 1 + 1 < T
  tlt : T < W.heap.size
theorem DA.but {w W W' : World} {T b c : Nat} (h : DA w W T b c) (hb : But (w.heap.size + 1 + 1) W W') : DA w W' T b c :=
  ⟨h.below.trans (hb.below.mono (by omega)), h.r1.of_block (hb.block _ (by omega) (by have := h.rlt2; omega)), h.r2.of_block (hb.block _ (by omega) (by have := h.rlt2; omega)), by have := hb.below.size; have := h.rlt2; omega,
    by rw [hb.cell (by have := h.tlo; simp; omega) (by simpa using h.tlt)]; exact h.t, h.tlo, by have := hb.below.size; have := h.tlt; omega⟩

theorem DA.next {w W W' : World} {T b c : Nat} (h : DA w W T b c) (hb : Below W.heap.size W W') : DA w W' T b c :=
  ⟨h.below.trans (hb.mono h.below.size), h.r1.of_block (hb.block _ (by have := h.rlt2; omega)), h.r2.of_block (hb.block _ (by have := h.rlt2; omega)), by have := hb.size; have := h.rlt2; omega,
    by rw [hb.cell (by simpa using h.tlt)]; exact h.t, h.tlo, by have := hb.size; have := h.tlt; omega⟩
theorem opb_sz {o : LOp} (h : OpB o) : OpSz o := ⟨Nat.le_trans h.1 (by simp [maxLen]), Nat.le_trans h.2.1 (by simp [maxLen]), Nat.le_trans h.2.2 (by simp [maxLen])⟩

end Go.Proofs.YtnolbfijcnldjaaGreatDoor

/- spec.DrawActDo: what is drawn, and how often it was turned. -/
namespace Go.Proofs.YtnolbfijcnldjaaGreatDoor
open Go.RowKit

structure DrawnAct2 (w w' : World) (b n : Nat) (os : List LObj) (o : LOp) : Prop where
  at_ : ObjsAt w' w.heap.size w'.heap.size (some ⟨b, 0, none⟩) n os
  le : n ≤ 32
  bn : Bn2 os
  op : OpB o
def DrawActEnd2 (w : World) (e : Ending) (w' : World) : Prop := (∃ b n c os o, e = .returned (.tuple #[.agg #[.slice (some ⟨b, 0, none⟩) n c], .agg o.val]) ∧ DrawnAct2 w w' b n os o) ∧ Below w.heap.size w w'
set_option maxHeartbeats 4000000 in
set_option maxRecDepth 20000 in
theorem drawAct2 (a : Option Addr) (n c : Nat) (zs : List Int) (w : World) (hn : n ≤ 1048576) (hc : n ≤ c) (H : BytesAt w w.heap.size a n zs) :
    Calls Tryz.prog 17 #[.slice a n c] w fun e w' => DrawActEnd2 w e w' := by
  obtain ⟨W0, hW0⟩ : ∃ W0, W0 = ((w.alloc (Obj.cells #[.slice none 0 0] 25)).alloc (Obj.cells #[.int .i64 0, .int .i64 0, .string ⟨#[]⟩, .int .i64 0, .string ⟨#[]⟩, .int .i64 0, .string ⟨#[]⟩] 27)) := ⟨_, rfl⟩
  have hA : Below w.heap.size w W0 := by rw [hW0]; exact ((Below.refl _ _).alloc (Nat.le_refl _) _).alloc (by simp) _
  have hs0 : W0.heap.size = w.heap.size + 1 + 1 := by rw [hW0]; simp
  have h1 : W0.rowIs w.heap.size 25 1 (zrow #[.slice none 0 0]) := by
    rw [hW0]
    exact World.rowIs.alloc (zrow_new w #[.slice none 0 0] 25) _
  have h2 : W0.rowIs (w.heap.size + 1) 27 7 (zrow #[.int .i64 0, .int .i64 0, .string ⟨#[]⟩, .int .i64 0, .string ⟨#[]⟩, .int .i64 0, .string ⟨#[]⟩]) := by
    rw [hW0]
    have := zrow_new (w.alloc (Obj.cells #[.slice none 0 0] 25)) #[.int .i64 0, .int .i64 0, .string ⟨#[]⟩, .int .i64 0, .string ⟨#[]⟩, .int .i64 0, .string ⟨#[]⟩] 27
    simpa using this
  have HBY : Hid (BytesAt W0 (w.heap.size + 1 + 1) a n zs) := (H.below hA (Nat.le_refl _)).wide (by omega)
  have HH : Hid (Below w.heap.size w W0 ∧ W0.rowIs w.heap.size 25 1 (zrow #[.slice none 0 0]) ∧ W0.rowIs (w.heap.size + 1) 27 7 (zrow #[.int .i64 0, .int .i64 0, .string ⟨#[]⟩, .int .i64 0, .string ⟨#[]⟩, .int .i64 0, .string ⟨#[]⟩])) := ⟨hA, h1, h2⟩
  clear h1 h2 hA H
  go_enter Tryz.func17, Tryz.ntmps17
  go_wp2_with fail
  rw [← hW0]
  clear hW0
  refine (open16 a n c zs (w.heap.size + 1 + 1) W0 hn hc HBY.out).mono ?_
  rintro e W1 ⟨m, c', ys, rfl, hm, hm0, hB, rfl⟩
  rw [hs0]
  have R0 : RdTo (W0.alloc (.cells #[.slice a m c', .int .i64 0] 135)) (w.heap.size + 1 + 1) 0 := ⟨0, Nat.le_refl _, by have := rd_start (c := c') hm (by omega) hB; rw [hs0] at this; exact this⟩
  have hal : Below W0.heap.size W0 (W0.alloc (.cells #[.slice a m c', .int .i64 0] 135)) := (Below.refl _ _).alloc (Nat.le_refl _) _
  have hsz : (W0.alloc (.cells #[.slice a m c', .int .i64 0] 135)).heap.size = w.heap.size + 1 + 1 + 1 := by simp [hs0]
  generalize W0.alloc (.cells #[.slice a m c', .int .i64 0] 135) = W1 at *
  go_wp2_with fail
  refine (tree_any (w.heap.size + 1 + 1) 0 W1 (by omega) (by omega) R0).mono ?_
  rintro e W2 ⟨b, c1, os, vs, rfl, hT, hlen, HSM, hr2, hb2⟩
  have hO2 : ObjsAt W2 W1.heap.size W2.heap.size (some ⟨b, 0, none⟩) 32 os := by
    have h9 := hT.to_objs
    rwa [hlen] at h9
  have hz2 := hb2.below.size
  have hB2 : Below w.heap.size w W2 := HH.out.1.trans ((hal.mono (by omega)).trans (hb2.below.mono (by omega)))
  have k1 : W2.rowIs w.heap.size 25 1 (zrow #[.slice none 0 0]) := (HH.out.2.1.of_block (hal.block _ (by omega))).of_block (hb2.block _ (by omega) (by omega))
  have k2 : W2.rowIs (w.heap.size + 1) 27 7 (zrow #[.int .i64 0, .int .i64 0, .string ⟨#[]⟩, .int .i64 0, .string ⟨#[]⟩, .int .i64 0, .string ⟨#[]⟩]) := (HH.out.2.2.of_block (hal.block _ (by omega))).of_block (hb2.block _ (by omega) (by omega))
  have hal2 : Below W2.heap.size W2 (W2.alloc (.cells #[.slice (some ⟨b, 0, none⟩) 32 c1] 25)) := (Below.refl _ _).alloc (Nat.le_refl _) _
  have SH : Hid (DA w (W2.alloc (.cells #[.slice (some ⟨b, 0, none⟩) 32 c1] 25)) W2.heap.size b c1) :=
    ⟨hB2.trans (hal2.mono hB2.size), k1.of_block (hal2.block _ (by omega)), k2.of_block (hal2.block _ (by omega)), by simp; omega, by simp [go_sem], by omega, by simp⟩
  have hr3 : RdTo (W2.alloc (.cells #[.slice (some ⟨b, 0, none⟩) 32 c1] 25)) (w.heap.size + 1 + 1) 150 := hr2.but hal2 (by omega)
  have HO3 : Hid (ObjsAt (W2.alloc (.cells #[.slice (some ⟨b, 0, none⟩) 32 c1] 25)) W1.heap.size W2.heap.size (some ⟨b, 0, none⟩) 32 os) := hO2.below hal2 (Nat.le_refl _)
  have hL1 : w.heap.size + 1 + 1 < W1.heap.size := by omega
  have hU1 : W2.heap.size ≤ (W2.alloc (.cells #[.slice (some ⟨b, 0, none⟩) 32 c1] 25)).heap.size := by simp
  clear hT hlen hr2 hb2 hO2 hB2 k1 k2 hal2 HH HBY hm hm0 hB R0 hal hsz hs0 hz2
  go_wp2_with fail
  generalize hW3 : W2.alloc (.cells #[.slice (some ⟨b, 0, none⟩) 32 c1] 25) = W3 at *
  generalize hT : W2.heap.size = T at *
  generalize hL : W1.heap.size = L at *
  clear hW3 hL
  refine (pick_to (w.heap.size + 1 + 1) 150 16 W3 (by omega) (by omega) (by omega) hr3).mono ?_
  rintro e W4 ⟨⟨x, rfl, hx⟩, hr4, hb4⟩
  have S4h : Hid (DA w W4 T b c1) := SH.out.but hb4
  have HO4 : Hid (ObjsAt W4 L T (some ⟨b, 0, none⟩) 32 os) := HO3.out.but hb4 hL1 hU1
  have hU4 : T ≤ W4.heap.size := by have := hb4.below.size; omega
  clear SH HO3 hr3 hb4 hU1
  by_cases hx0 : x = 0
  · subst hx0
    go_upto_region 4 with fail
    have S4 := S4h.out.next (Below.refl _ _).drew
    have HR4 : RdTo W4.drew (w.heap.size + 1 + 1) 151 := hr4.but (Below.refl _ _).drew (by have := S4h.out.rlt2; omega)
    have HO4d : Hid (ObjsAt W4.drew L T (some ⟨b, 0, none⟩) 32 os) := HO4.out.below (Below.refl _ _).drew (by simpa using hU4)
    clear S4h HO4 hr4
    refine wp_region_held_drew (S := (fun W => W.cell? ⟨T, 0, none⟩ = some (.slice (some ⟨b, 0, none⟩) 32 c1))) (by kernel_rfl) ?_ (fun hHeld => ?_)
    · exact S4.t
    refine listH (l2 := #[false, false, false, false, false, false, false]) (by kernel_rfl) ?_
    refine takeH (i := 0) (oi := _) (v := ?vf0) 13 #[true, false, false, false, false, false, false] rfl (by kernel_rfl) (by kernel_rfl) (by kernel_rfl) rfl (by kernel_rfl) (fun _ _ _ h => h) (Or.inl ⟨by rfl, ?yf0⟩) (by assumption) ?rf0
    case yf0 => (intro w' hSw; (try dsimp only at hSw); have x0 := hSw; go_simp; try with_reducible rfl)
    simp only [Act.put, List.setIfInBounds_toArray, List.set_cons_succ, List.set_cons_zero]
    refine takeH (i := 2) (oi := _) (v := ?vf2) 15 #[true, false, true, false, false, false, false] rfl (by kernel_rfl) (by kernel_rfl) (by kernel_rfl) rfl (by kernel_rfl) (fun _ _ _ h => h) (Or.inl ⟨by rfl, ?yf2⟩) (by assumption) ?rf2
    case yf2 => (intro w' hSw; (try dsimp only at hSw); have x0 := hSw; go_simp; try with_reducible rfl)
    simp only [Act.put, List.setIfInBounds_toArray, List.set_cons_succ, List.set_cons_zero]
    refine takeH (i := 3) (oi := _) (v := ?vf3) 16 #[true, false, true, true, false, false, false] rfl (by kernel_rfl) (by kernel_rfl) (by kernel_rfl) rfl (by kernel_rfl) (fun _ _ _ h => h) (Or.inl ⟨by rfl, ?yf3⟩) (by assumption) ?rf3
    case yf3 => (intro w' hSw; (try dsimp only at hSw); have x0 := hSw; go_simp; try with_reducible rfl)
    simp only [Act.put, List.setIfInBounds_toArray, List.set_cons_succ, List.set_cons_zero]
    refine wpAnyH_ready (rs := [1]) (by kernel_rfl) (by simp) ?_
    refine AllReadyH.cons (o := _) rfl (fun K hK => ?_) AllReadyH.nil
    go_simp
    refine (bent_any2 (w.heap.size + 1 + 1) 151 _ (by omega) S4.rlt2 HR4).mono ?_
    rintro e W5 ⟨b2, n2, c2, os2, vs2, rfl, hn2, hn32, hT2, hB2, hr5, hb5⟩
    subst hn2
    have S5 := S4.but hb5
    have HO5 : Hid (ObjsAt W5 L T (some ⟨b, 0, none⟩) 32 os) := HO4d.out.but hb5 hL1 (by simpa using hU4)
    have hz5 : W4.heap.size ≤ W5.heap.size := by have := hb5.below.size; simpa using this
    go_wp2_with fail
    refine hK.out _ _ S5.t (fun hHeld => ?_)
    clear hK K
    try simp only [Act.put]
    refine listH (l2 := #[true, true, true, true, false, false, false]) (by kernel_rfl) ?_
    refine wpAnyH_ready (rs := [4]) (by kernel_rfl) (by simp) ?_
    refine AllReadyH.cons (o := _) rfl (fun K hK => ?_) AllReadyH.nil
    go_simp
    refine (opBent_any (w.heap.size + 1 + 1) 311 _ _ os L _ (by omega) S5.rlt2 hL1 (HSM.few (by omega)) (HO5.out.wide (Nat.le_refl _) (by omega)) hr5).mono ?_
    rintro e W6 ⟨⟨o, rfl, ho⟩, hr6, hb6⟩
    have S6 := S5.but hb6
    have hz6 := hb6.below.size
    have hO2 : ObjsAt W6 (w.heap.size + 1 + 1 + 1) W6.heap.size (some ⟨b2, 0, none⟩) os2.length os2 := by
      have h9 := hT2.to_objs
      exact (h9.but hb6 (by have := S4.rlt2; simpa using this) (Nat.le_refl _)).wide (by have := S4.rlt2; simp at this; simp; omega) hz6
    simp only [LOp.val]
    go_wp2_with fail
    refine hK.out _ _ S6.t (fun hHeld => ?_)
    clear hK K
    try simp only [Act.put]
    refine listH (l2 := #[true, true, true, true, true, false, false]) (by kernel_rfl) ?_
    refine wpAnyH_ready (rs := [5]) (by kernel_rfl) (by simp) ?_
    refine AllReadyH.cons (o := _) rfl (fun K hK => ?_) AllReadyH.nil
    refine st_store31 _ 2 14 w.heap.size _ _ _ rfl rfl S6.r1 ?_
    intro V7 hB7 g7 _
    have k7 : V7.rowIs (w.heap.size + 1) 27 7 (zrow #[.int .i64 0, .int .i64 0, .string ⟨#[]⟩, .int .i64 0, .string ⟨#[]⟩, .int .i64 0, .string ⟨#[]⟩]) := S6.r2.of_block (hB7.block _ (by omega) (by have := S6.rlt2; omega))
    have hO7 := hO2.but hB7 (by omega) (Nat.le_refl _)
    have hz7 := hB7.below.size
    have hw7 := S6.below.trans hB7.below
    have hT7 : V7.cell? ⟨T, 0, none⟩ = some (.slice (some ⟨b, 0, none⟩) 32 c1) := by rw [hB7.cell (by have := S6.tlo; simp; omega) (by simpa using S6.tlt)]; exact S6.t
    refine hK.out _ _ hT7 (fun hHeld => ?_)
    clear hK K
    try simp only [Act.put]
    refine listH (l2 := #[true, true, true, true, true, true, false]) (by kernel_rfl) ?_
    refine wpAnyH_ready (rs := [6]) (by kernel_rfl) (by simp) ?_
    refine AllReadyH.cons (o := _) rfl (fun K hK => ?_) AllReadyH.nil
    refine st_store30 _ 3 17 (w.heap.size + 1) 0 o 7 _ rfl rfl k7 (by omega) ⟨⟨0, 0, ⟨#[]⟩, 0, ⟨#[]⟩, 0, ⟨#[]⟩⟩, rfl, rfl, rfl, rfl, rfl, rfl, rfl⟩ ?_
    intro V8 hB8 k8
    have hz8 := hB8.below.size
    have hO8 := hO7.but hB8 (by omega) (by omega)
    have g8 : V8.cell? ⟨w.heap.size, 0, none⟩ = some (.slice (some ⟨b2, 0, none⟩) os2.length c2) := by rw [hB8.cell (by simp) (by simp; have := S6.rlt2; omega)]; exact g7
    have hw8 : Below w.heap.size w V8 := hw7.trans (hB8.below.mono (by omega))
    have hT8 : V8.cell? ⟨T, 0, none⟩ = some (.slice (some ⟨b, 0, none⟩) 32 c1) := by rw [hB8.cell (by have := S6.tlo; simp; omega) (by have := S6.tlt; simp; omega)]; exact hT7
    refine hK.out _ _ hT8 (fun hHeld => ?_)
    clear hK K
    try simp only [Act.put]
    refine listH (l2 := #[true, true, true, true, true, true, true]) (by kernel_rfl) ?_
    refine wpAnyH_done (by kernel_rfl) ?_ _
    have m0 := (k8.cell (i := 0) (by omega)).trans (show some _ = some (.int .i64 o.kind) from rfl)
    have m1 := (k8.cell (i := 1) (by omega)).trans (show some _ = some (.int .i64 o.dir) from rfl)
    have m2 := (k8.cell (i := 2) (by omega)).trans (show some _ = some (.string o.name) from rfl)
    have m3 := (k8.cell (i := 3) (by omega)).trans (show some _ = some (.int .i64 o.dir2) from rfl)
    have m4 := (k8.cell (i := 4) (by omega)).trans (show some _ = some (.string o.name2) from rfl)
    have m5 := (k8.cell (i := 5) (by omega)).trans (show some _ = some (.int .i64 o.id) from rfl)
    have m6 := (k8.cell (i := 6) (by omega)).trans (show some _ = some (.string o.text) from rfl)
    clear k8 k7 hB8 hB7 hHeld hT7 hT8
    go_wp2_with fail
    refine bodyPost_ret (v := Value.tuple #[.agg #[.slice (some ⟨b2, 0, none⟩) os2.length c2], .agg o.val]) (by rw [results, Tryz.results17]; simp [go_sem, LOp.val, g8, m0, m1, m2, m3, m4, m5, m6]) rfl ⟨⟨b2, os2.length, c2, os2, o, rfl, ⟨hO8.wide (by omega) (by omega), hn32, hB2, ho⟩⟩, hw8⟩
  · have hx1 : ((x : Int) == 0) = false := by simp; omega
    go_upto_region 5 with fail
    have S4 := S4h.out.next (Below.refl _ _).drew
    have HR4 : RdTo W4.drew (w.heap.size + 1 + 1) 151 := hr4.but (Below.refl _ _).drew (by have := S4h.out.rlt2; omega)
    have HO4d : Hid (ObjsAt W4.drew L T (some ⟨b, 0, none⟩) 32 os) := HO4.out.below (Below.refl _ _).drew (by simpa using hU4)
    clear S4h HO4 hr4
    refine wp_region_held_drew (S := (fun W => W.cell? ⟨T, 0, none⟩ = some (.slice (some ⟨b, 0, none⟩) 32 c1))) (by kernel_rfl) ?_ (fun hHeld => ?_)
    · exact S4.t
    refine listH (l2 := #[false, false, false, false, false, false]) (by kernel_rfl) ?_
    refine takeH (i := 0) (oi := _) (v := ?vh0) 18 #[true, false, false, false, false, false] rfl (by kernel_rfl) (by kernel_rfl) (by kernel_rfl) rfl (by kernel_rfl) (fun _ _ _ h => h) (Or.inl ⟨by rfl, ?yh0⟩) (by assumption) ?rh0
    case yh0 => (intro w' hSw; (try dsimp only at hSw); have x0 := hSw; go_simp; try with_reducible rfl)
    simp only [Act.put, List.setIfInBounds_toArray, List.set_cons_succ, List.set_cons_zero]
    refine takeH (i := 1) (oi := _) (v := ?vh1) 19 #[true, true, false, false, false, false] rfl (by kernel_rfl) (by kernel_rfl) (by kernel_rfl) rfl (by kernel_rfl) (fun _ _ _ h => h) (Or.inl ⟨by rfl, ?yh1⟩) (by assumption) ?rh1
    case yh1 => (intro w' hSw; (try dsimp only at hSw); have x0 := hSw; go_simp; try with_reducible rfl)
    simp only [Act.put, List.setIfInBounds_toArray, List.set_cons_succ, List.set_cons_zero]
    refine takeH (i := 2) (oi := _) (v := ?vh2) 20 #[true, true, true, false, false, false] rfl (by kernel_rfl) (by kernel_rfl) (by kernel_rfl) rfl (by kernel_rfl) (fun _ _ _ h => h) (Or.inl ⟨by rfl, ?yh2⟩) (by assumption) ?rh2
    case yh2 => (intro w' hSw; (try dsimp only at hSw); have x0 := hSw; go_simp; try with_reducible rfl)
    simp only [Act.put, List.setIfInBounds_toArray, List.set_cons_succ, List.set_cons_zero]
    refine wpAnyH_ready (rs := [3]) (by kernel_rfl) (by simp) ?_
    refine AllReadyH.cons (o := _) rfl (fun K hK => ?_) AllReadyH.nil
    go_simp
    refine (opBent_any (w.heap.size + 1 + 1) 151 _ _ os L _ (by omega) S4.rlt2 hL1 (HSM.few (by omega)) (HO4d.out.wide (Nat.le_refl _) (by simpa using hU4)) HR4).mono ?_
    rintro e W6 ⟨⟨o, rfl, ho⟩, hr6, hb6⟩
    have S6 := S4.but hb6
    have hz6 := hb6.below.size
    have hO2 : ObjsAt W6 (w.heap.size + 1 + 1 + 1) W6.heap.size (some ⟨b, 0, none⟩) 32 os := (HO4d.out.but hb6 hL1 (by simpa using hU4)).wide (by omega) (by simp at hz6; omega)
    simp only [LOp.val]
    go_wp2_with fail
    refine hK.out _ _ S6.t (fun hHeld => ?_)
    clear hK K
    try simp only [Act.put]
    refine listH (l2 := #[true, true, true, true, false, false]) (by kernel_rfl) ?_
    refine wpAnyH_ready (rs := [4]) (by kernel_rfl) (by simp) ?_
    refine AllReadyH.cons (o := _) rfl (fun K hK => ?_) AllReadyH.nil
    refine st_store31 _ 2 18 w.heap.size _ _ _ rfl rfl S6.r1 ?_
    intro V7 hB7 g7 _
    have k7 : V7.rowIs (w.heap.size + 1) 27 7 (zrow #[.int .i64 0, .int .i64 0, .string ⟨#[]⟩, .int .i64 0, .string ⟨#[]⟩, .int .i64 0, .string ⟨#[]⟩]) := S6.r2.of_block (hB7.block _ (by omega) (by have := S6.rlt2; omega))
    have hO7 := hO2.but hB7 (by omega) (Nat.le_refl _)
    have hz7 := hB7.below.size
    have hw7 := S6.below.trans hB7.below
    have hT7 : V7.cell? ⟨T, 0, none⟩ = some (.slice (some ⟨b, 0, none⟩) 32 c1) := by rw [hB7.cell (by have := S6.tlo; simp; omega) (by simpa using S6.tlt)]; exact S6.t
    refine hK.out _ _ hT7 (fun hHeld => ?_)
    clear hK K
    try simp only [Act.put]
    refine listH (l2 := #[true, true, true, true, true, false]) (by kernel_rfl) ?_
    refine wpAnyH_ready (rs := [5]) (by kernel_rfl) (by simp) ?_
    refine AllReadyH.cons (o := _) rfl (fun K hK => ?_) AllReadyH.nil
    refine st_store30 _ 3 21 (w.heap.size + 1) 0 o 7 _ rfl rfl k7 (by omega) ⟨⟨0, 0, ⟨#[]⟩, 0, ⟨#[]⟩, 0, ⟨#[]⟩⟩, rfl, rfl, rfl, rfl, rfl, rfl, rfl⟩ ?_
    intro V8 hB8 k8
    have hz8 := hB8.below.size
    have hO8 := hO7.but hB8 (by omega) (by omega)
    have g8 : V8.cell? ⟨w.heap.size, 0, none⟩ = some (.slice (some ⟨b, 0, none⟩) 32 c1) := by rw [hB8.cell (by simp) (by simp; have := S6.rlt2; omega)]; exact g7
    have hw8 : Below w.heap.size w V8 := hw7.trans (hB8.below.mono (by omega))
    have hT8 : V8.cell? ⟨T, 0, none⟩ = some (.slice (some ⟨b, 0, none⟩) 32 c1) := by rw [hB8.cell (by have := S6.tlo; simp; omega) (by have := S6.tlt; simp; omega)]; exact hT7
    refine hK.out _ _ hT8 (fun hHeld => ?_)
    clear hK K
    try simp only [Act.put]
    refine listH (l2 := #[true, true, true, true, true, true]) (by kernel_rfl) ?_
    refine wpAnyH_done (by kernel_rfl) ?_ _
    have m0 := (k8.cell (i := 0) (by omega)).trans (show some _ = some (.int .i64 o.kind) from rfl)
    have m1 := (k8.cell (i := 1) (by omega)).trans (show some _ = some (.int .i64 o.dir) from rfl)
    have m2 := (k8.cell (i := 2) (by omega)).trans (show some _ = some (.string o.name) from rfl)
    have m3 := (k8.cell (i := 3) (by omega)).trans (show some _ = some (.int .i64 o.dir2) from rfl)
    have m4 := (k8.cell (i := 4) (by omega)).trans (show some _ = some (.string o.name2) from rfl)
    have m5 := (k8.cell (i := 5) (by omega)).trans (show some _ = some (.int .i64 o.id) from rfl)
    have m6 := (k8.cell (i := 6) (by omega)).trans (show some _ = some (.string o.text) from rfl)
    clear k8 k7 hB8 hB7 hHeld hT7 hT8
    go_wp2_with fail
    refine bodyPost_ret (v := Value.tuple #[.agg #[.slice (some ⟨b, 0, none⟩) 32 c1], .agg o.val]) (by rw [results, Tryz.results17]; simp [go_sem, LOp.val, g8, m0, m1, m2, m3, m4, m5, m6]) rfl ⟨⟨b, 32, c1, os, o, rfl, ⟨hO8.wide (by omega) (by omega), (Nat.le_refl _), (HSM.bn2 (by omega)), ho⟩⟩, hw8⟩
end Go.Proofs.YtnolbfijcnldjaaGreatDoor

/- What is done leaves a tree: actDo of an ok tree and an ok thing, ending fine, is an ok tree. -/
namespace Go.Proofs.YtnolbfijcnldjaaGreatDoor

/-! ## Counting names -/
def cntE (es : List LEnt) (i : Int) : Nat := es.countP (fun e => e.id == i)
theorem cnt_tagged (d : Nat) (es : List LEnt) (i : Int) : cnt (tagged d es) i = cntE es i := by
  unfold cnt tagged cntE
  rw [List.countP_map]
  rfl
theorem cnt_flatFrom_set : ∀ (os : List LObj) (d k : Nat) (o o' : LObj) (i : Int), os[k]? = some o → cnt (flatFrom d (os.set k o')) i + cntE o.kids i = cnt (flatFrom d os) i + cntE o'.kids i
  | [], _, _, _, _, _, h => by simp at h
  | x :: r, d, 0, o, o', i, h => by
    simp at h
    subst h
    simp only [List.set_cons_zero, flatFrom]
    rw [cnt_append, cnt_append, cnt_tagged, cnt_tagged]
    omega
  | x :: r, d, k + 1, o, o', i, h => by
    have ih := cnt_flatFrom_set r (d + 1) k o o' i (by simpa using h)
    simp only [List.set_cons_succ, flatFrom]
    rw [cnt_append, cnt_append]
    omega
theorem cnt_set {os : List LObj} {k : Nat} {o : LObj} (h : os[k]? = some o) (o' : LObj) (i : Int) : cnt (flat (os.set k o')) i + cntE o.kids i = cnt (flat os) i + cntE o'.kids i := cnt_flatFrom_set os 0 k o o' i h
theorem flatFrom_same : ∀ (os : List LObj) (d k : Nat) (o o' : LObj), os[k]? = some o → o'.kids = o.kids → flatFrom d (os.set k o') = flatFrom d os
  | [], _, _, _, _, h, _ => by simp at h
  | x :: r, d, 0, o, o', h, hk => by
    simp at h
    subst h
    simp only [List.set_cons_zero, flatFrom, hk]
  | x :: r, d, k + 1, o, o', h, hk => by
    have ih := flatFrom_same r (d + 1) k o o' (by simpa using h) hk
    simp only [List.set_cons_succ, flatFrom, ih]
theorem flat_same {os : List LObj} {k : Nat} {o : LObj} (h : os[k]? = some o) (o' : LObj) (hk : o'.kids = o.kids) : flat (os.set k o') = flat os := flatFrom_same os 0 k o o' h hk
theorem mem_flatE {os : List LObj} {d : Nat} {e : LEnt} : (d, e) ∈ flat os ↔ ∃ o, os[d]? = some o ∧ e ∈ o.kids := by
  constructor
  · intro h
    obtain ⟨i, o, k, h1, h2, h3⟩ := mem_flatFrom h
    simp at h3
    subst h3
    exact ⟨o, h1, List.mem_of_getElem? h2⟩
  · rintro ⟨o, h1, h2⟩
    obtain ⟨k, hk, rfl⟩ := List.getElem_of_mem h2
    obtain ⟨r, hr⟩ := flat_at (t := os) (i := d) (k := k) h1 (List.getElem?_eq_getElem hk)
    rw [hr]
    simp
theorem cntE_put (x : LEnt) (es : List LEnt) (i : Int) : cntE (putL x es) i = cntE es i + (if x.id = i then 1 else 0) := by
  unfold cntE putL
  have h : es.countP (fun e => e.id == i) = (es.take (placeL x.name es)).countP (fun e => e.id == i) + (es.drop (placeL x.name es)).countP (fun e => e.id == i) := by
    rw [← List.countP_append, List.take_append_drop]
  rw [List.countP_append, List.countP_append, h]
  simp only [List.countP_cons, List.countP_nil, beq_iff_eq]
  omega
theorem mem_put (x e : LEnt) (es : List LEnt) : e ∈ putL x es ↔ e = x ∨ e ∈ es := by
  unfold putL
  have h : e ∈ es ↔ e ∈ es.take (placeL x.name es) ∨ e ∈ es.drop (placeL x.name es) := by
    rw [← List.mem_append, List.take_append_drop]
  rw [List.mem_append, List.mem_append, h]
  simp
  constructor
  · rintro ((h | h) | h) <;> simp [h]
  · rintro (h | h | h) <;> simp [h]
theorem list_inj {a b : ByteArray} (h : a.toList = b.toList) : a = b := by
  rw [Go.ByteArray.toList_eq, Go.ByteArray.toList_eq] at h
  exact Go.WideShapes.bytes_inj h
theorem mem_out (name : ByteArray) (e : LEnt) (es : List LEnt) : e ∈ outL name es ↔ e ∈ es ∧ e.name ≠ name := by
  unfold outL
  rw [List.mem_filter]
  constructor
  · rintro ⟨h1, h2⟩
    exact ⟨h1, fun h => by rw [h] at h2; simp at h2⟩
  · rintro ⟨h1, h2⟩
    refine ⟨h1, ?_⟩
    simp only [Bool.not_eq_true', beq_eq_false_iff_ne, ne_eq]
    exact fun h => h2 (list_inj h)
theorem asc_pair {es : List LEnt} (h : Asc es) : es.Pairwise (fun x y => Op.bytesLess (nm x) (nm y) = true) := by
  rw [List.pairwise_iff_getElem]
  intro i j hi hj hij
  exact h i j _ _ hij (by simp [hi]) (by simp [hj])
theorem less_irr (a : List UInt8) : Op.bytesLess a a = false := by
  have := less_tri a a
  cases h : Op.bytesLess a a
  · rfl
  · rw [h] at this; simp at this
theorem asc_one {es : List LEnt} (h : Asc es) {x y : LEnt} (hx : x ∈ es) (hy : y ∈ es) (hn : x.name = y.name) : x = y := by
  obtain ⟨i, hi, rfl⟩ := List.getElem_of_mem hx
  obtain ⟨j, hj, rfl⟩ := List.getElem_of_mem hy
  rcases Nat.lt_trichotomy i j with k | k | k
  · have := h i j _ _ k (List.getElem?_eq_getElem hi) (List.getElem?_eq_getElem hj)
    unfold nm at this
    rw [hn, less_irr] at this
    cases this
  · subst k; rfl
  · have := h j i _ _ k (List.getElem?_eq_getElem hj) (List.getElem?_eq_getElem hi)
    unfold nm at this
    rw [hn, less_irr] at this
    cases this
/-- A name that is there is taken out alone. -/
theorem cntE_out {es : List LEnt} (ha : Asc es) {e0 : LEnt} (h0 : e0 ∈ es) (i : Int) : cntE (outL e0.name es) i + (if e0.id = i then 1 else 0) = cntE es i := by
  obtain ⟨k, hk, he⟩ := List.getElem_of_mem h0
  have e1 : es = es.take k ++ e0 :: es.drop (k + 1) := by
    rw [← he, ← List.drop_eq_getElem_cons hk, List.take_append_drop]
  have hout : outL e0.name es = es.take k ++ es.drop (k + 1) := by
    have h1 : (es.take k).filter (fun e => !(e.name.toList == e0.name.toList)) = es.take k := by
      rw [List.filter_eq_self]
      intro x hx
      obtain ⟨j, hj, hxe⟩ := List.mem_take_iff_getElem.1 hx
      have := ha j k x e0 (by omega) (by rw [List.getElem?_eq_some_iff]; exact ⟨by omega, hxe⟩) (by rw [List.getElem?_eq_some_iff]; exact ⟨hk, he⟩)
      simp only [Bool.not_eq_true', beq_eq_false_iff_ne, ne_eq]
      intro hn
      have hn := list_inj hn
      unfold nm at this
      rw [hn, less_irr] at this
      cases this
    have h2 : (es.drop (k + 1)).filter (fun e => !(e.name.toList == e0.name.toList)) = es.drop (k + 1) := by
      rw [List.filter_eq_self]
      intro x hx
      obtain ⟨j, hj, hxe⟩ := List.mem_drop_iff_getElem.1 hx
      have := ha k (k + 1 + j) e0 x (by omega) (by rw [List.getElem?_eq_some_iff]; exact ⟨hk, he⟩) (by rw [List.getElem?_eq_some_iff]; exact ⟨by omega, hxe⟩)
      simp only [Bool.not_eq_true', beq_eq_false_iff_ne, ne_eq]
      intro hn
      have hn := list_inj hn
      unfold nm at this
      rw [hn, less_irr] at this
      cases this
    conv => lhs; rw [e1]
    unfold outL
    rw [List.filter_append, List.filter_cons, h1, h2]
    simp
  rw [hout]
  conv => rhs; rw [e1]
  unfold cntE
  rw [List.countP_append, List.countP_append, List.countP_cons]
  simp only [beq_iff_eq]
  omega

/-! ## Names that ascend -/
theorem kidsB_of {es : List LEnt} (h1 : ∀ e ∈ es, entB e = true) (h2 : es.Pairwise (fun x y => Op.bytesLess (nm x) (nm y) = true)) : kidsB es = true := by
  refine kidsB_yes fun i hi => ?_
  have hx : es[i]? = some es[i] := by simp [hi]
  cases i with
  | zero => exact kidAt_zero hx (h1 _ (List.getElem_mem _))
  | succ j =>
    have hp : es[j]? = some es[j] := by simp
    rw [kidAt_succ hx hp (h1 _ (List.getElem_mem _))]
    rw [List.pairwise_iff_getElem] at h2
    have := h2 j (j + 1) (by omega) hi (by omega)
    unfold nameLess
    rw [Go.ByteArray.toList_eq, Go.ByteArray.toList_eq]
    exact this
theorem kids_ents {es : List LEnt} (h : kidsB es = true) : ∀ e ∈ es, entB e = true := by
  intro e he
  obtain ⟨i, hi, rfl⟩ := List.getElem_of_mem he
  apply Classical.byContradiction
  intro hc
  rw [kidsB_no hi (kidAt_ent (List.getElem?_eq_getElem hi) (by simpa using hc))] at h
  cases h
theorem kidsB_out {es : List LEnt} (h : kidsB es = true) (name : ByteArray) : kidsB (outL name es) = true :=
  kidsB_of (fun e he => kids_ents h e ((mem_out _ _ _).1 he).1) (asc_pair (asc_out (asc_of h) name))
theorem less_no {a b : List UInt8} (h : Op.bytesLess a b = false) (hn : a ≠ b) : Op.bytesLess b a = true := by
  have := less_tri a b
  rw [h] at this
  have hb : (a == b) = false := by simpa using hn
  rw [hb] at this
  simpa using this.symm
theorem kidsB_put {es : List LEnt} (h : kidsB es = true) {x : LEnt} (hx : entB x = true) (hn : ∀ e ∈ es, e.name ≠ x.name) : kidsB (putL x es) = true := by
  refine kidsB_of (fun e he => ?_) ?_
  · rcases (mem_put _ _ _).1 he with rfl | he
    · exact hx
    · exact kids_ents h e he
  · have hp := asc_pair (asc_of h)
    have hsplit : es = es.take (placeL x.name es) ++ es.drop (placeL x.name es) := (List.take_append_drop _ _).symm
    have hp2 := hp
    rw [hsplit, List.pairwise_append] at hp2
    have hlt : ∀ e ∈ es.take (placeL x.name es), Op.bytesLess (nm e) (nm x) = true := by
      intro e he
      have e1 : es.take (placeL x.name es) = es.takeWhile (lessN x.name) := by
        unfold placeL
        exact (List.prefix_iff_eq_take.1 (List.takeWhile_prefix _)).symm
      rw [e1] at he
      have := List.all_eq_true.1 (List.all_takeWhile (p := lessN x.name) (l := es)) e he
      unfold lessN at this
      rw [Go.ByteArray.toList_eq, Go.ByteArray.toList_eq] at this
      exact this
    have hgt : ∀ e ∈ es.drop (placeL x.name es), Op.bytesLess (nm x) (nm e) = true := by
      have e1 : es.drop (placeL x.name es) = es.dropWhile (lessN x.name) := by
        have := List.takeWhile_append_dropWhile (p := lessN x.name) (l := es)
        unfold placeL
        conv => lhs; arg 2; rw [← this]
        rw [List.drop_left]
      cases hd : es.dropWhile (lessN x.name) with
      | nil => rw [e1, hd]; intro e he; simp at he
      | cons y r =>
        have hy : lessN x.name y = false := by
          have := List.head?_dropWhile_not (lessN x.name) es
          rw [hd] at this
          simpa using this
        have hym : y ∈ es := by
          have : y ∈ es.dropWhile (lessN x.name) := by rw [hd]; simp
          exact (List.dropWhile_sublist _).subset this
        have hyx : Op.bytesLess (nm x) (nm y) = true := by
          refine less_no ?_ ?_
          · unfold lessN at hy
            rw [Go.ByteArray.toList_eq, Go.ByteArray.toList_eq] at hy
            exact hy
          · intro hne
            refine hn y hym (list_inj ?_)
            rw [Go.ByteArray.toList_eq, Go.ByteArray.toList_eq]
            exact hne
        intro e he
        rw [e1, hd] at he
        rcases List.mem_cons.1 he with rfl | he
        · exact hyx
        · have h3 := hp2.2.1
          rw [e1, hd, List.pairwise_cons] at h3
          exact less_trans _ _ _ hyx (h3.1 e he)
    unfold putL
    rw [List.append_assoc, List.pairwise_append]
    refine ⟨hp2.1, ?_, ?_⟩
    · rw [List.singleton_append, List.pairwise_cons]
      exact ⟨fun e he => hgt e he, hp2.2.1⟩
    · intro a ha b hb
      rw [List.singleton_append, List.mem_cons] at hb
      rcases hb with rfl | hb
      · exact hlt a ha
      · exact hp2.2.2 a ha b hb
end Go.Proofs.YtnolbfijcnldjaaGreatDoor
