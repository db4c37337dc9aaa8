/- Lemmas that the proofs of this seat share: TrialD, SlimM, MarkO, MarkP, KB, MarkW, MarkX, SlimX, ExactDoA, ExactDoB, AllA, LogQ, AllD, ActCode, ActTurn, ActFit, AllP, KeepP, AllC. -/
import Derived.Test.YtloopeipheklpaaGreatDoorU18
import Derived.Test.YtloopeipheklpaaGreatDoorU06
import Derived.Test.YtloopeipheklpaaGreatDoorU08
import Derived.Test.YtloopeipheklpaaGreatDoorU09
import Derived.Deep.RegionWith
import Derived.RowKitTokens
import Derived.Test.YtloopeipheklpaaGreatDoorU04
import Derived.Test.YtloopeipheklpaaGreatDoorU03
import Derived.Test.YtloopeipheklpaaGreatDoorU11
import Derived.Test.YtloopeipheklpaaGreatDoorU12
import Derived.Test.YtloopeipheklpaaGreatDoorU14
import Derived.Test.YtloopeipheklpaaGreatDoorU01
import Derived.Test.YtloopeipheklpaaGreatDoorU07
import Derived.Test.YtloopeipheklpaaGreatDoorU15
import Derived.Test.YtloopeipheklpaaGreatDoorU10
/- ActDo of the program and of the specification. -/
namespace Go.Proofs.YtloopeipheklpaaGreatDoor
open Go.RowKit

theorem turnM_len (os : List LObj) (j l : Nat) : (turnM os j l).length = os.length := by
  have h : ∀ os k, (turnL os k).length = os.length := fun os k => by unfold turnL; split <;> simp
  unfold turnM
  split <;> simp [h]
theorem actDo_len (os : List LObj) (o : LOp) : (actDo os o).1.length = os.length := by
  unfold actDo
  repeat' split
  · rfl
  · unfold actNew; repeat' split
    all_goals simp
  · unfold actGone; repeat' split
    all_goals simp
  · unfold actMove; repeat' split
    all_goals simp [turnM_len, kidsL_len]
  · unfold actText; repeat' split
    all_goals simp
/-- An answer of ActDo: no tree, or one of its own. -/
def DoAt (w : World) (r : List LObj × Int) (e : Ending) (w' : World) : Prop :=
  ((r.1 = [] ∧ e = .returned (.tuple #[.agg #[.slice none 0 0], .int .i64 r.2])) ∨ ∃ b c vs, e = .returned (.tuple #[.agg #[.slice (some ⟨b, 0, none⟩) r.1.length c], .int .i64 r.2]) ∧ OwnT w' w.heap.size b c r.1 vs) ∧ Below w.heap.size w w'
theorem ObjsAt.sizes {w : World} {L U n : Nat} {a : Option Addr} {os : List LObj} (h : ObjsAt w L U a n os) : ∀ o ∈ os, o.text.size ≤ maxLen ∧ ∀ e ∈ o.kids, e.name.size ≤ maxLen := by
  intro o ho
  obtain ⟨i, hi, rfl⟩ := List.getElem_of_mem ho
  have hn : n ≠ 0 := by have := h.len; omega
  obtain ⟨b, off, -, -, -, hc⟩ := h.at_ hn
  obtain ⟨o', ka, kn, kc, he, hs, -, -, -, -, hk⟩ := hc i (by have := h.len; omega)
  have : o' = os[i] := by simp [hi] at he; exact he.symm
  subst this
  refine ⟨hs, fun e he2 => ?_⟩
  obtain ⟨j, hj, rfl⟩ := List.getElem_of_mem he2
  have hkn : kn ≠ 0 := by have := hk.len; omega
  obtain ⟨_, _, -, -, -, hc2⟩ := hk.at_ hkn
  obtain ⟨e', h1, h2, -⟩ := hc2 j (by have := hk.len; omega)
  have : e' = (os[i].kids)[j] := by simp [hj] at h1; exact h1.symm
  rw [← this]
  exact h2

/-- The boxes of ActDo at its end: the three of the call, the trial, and the errors. -/
structure IBox (W : World) (A T U b c n : Nat) (a : Nat → Addr) (b1 c1 : Nat) (o : LOp) : Prop where
  fr : Fr A W b c n o
  se : Sents W U a
  tr : W.cell? ⟨T, 0, none⟩ = some (.slice (some ⟨b1, 0, none⟩) n c1)
  sz : T < W.heap.size
  lo : A + 1 + 1 < T
  up : U ≤ A
theorem IBox.next {W W' : World} {A T U b c n b1 c1 : Nat} {a : Nat → Addr} {o : LOp} (h : IBox W A T U b c n a b1 c1 o) (hb : Below W.heap.size W W') : IBox W' A T U b c n a b1 c1 o :=
  ⟨h.fr.next hb, h.se.below hb (by have := h.up; have := h.lo; have := h.sz; omega), by rw [hb.cell (by simpa using h.sz)]; exact h.tr, by have := h.sz; have := hb.size; omega, h.lo, h.up⟩
end Go.Proofs.YtloopeipheklpaaGreatDoor

/- Lists of what is done as answers: marked, held. -/
namespace Go.Proofs.YtloopeipheklpaaGreatDoor
open Go.RowKit

/-- A list of what is done in a row of its own. -/
def OpRow (w : World) (B : Nat) (a : Option Addr) (n g cap : Nat) (f : Nat → Value) : Prop := n ≠ 0 → a = some ⟨g, 0, none⟩ ∧ B ≤ g ∧ n ≤ cap ∧ w.rowIs g 130 (cap * 7) f
def OpCell (f : Nat → Value) (i : Nat) : Prop := ∃ o : LOp, opF f i o
theorem OwnOps.row {w : World} {B : Nat} {v : Value} {l : List LOp} (h : OwnOps w B v l) : ∃ a c g cap f, v = .slice a l.length c ∧ B ≤ g ∧ OpRow w B a l.length g cap f ∧ ∀ i, i < l.length → OpCell f i := by
  rcases h.2 with ⟨rfl, h0⟩ | ⟨g, cap, cur, rfl, hb, hg, hnc, hcm, hcs, htake⟩
  · exact ⟨none, 0, B, 0, fun _ => default, by rw [h0], Nat.le_refl _, fun hn => absurd h0 hn, fun i hi => by omega⟩
  · refine ⟨_, cap, g, cap, fun i => cur[i]?.getD default, rfl, hb, fun _ => ⟨rfl, hb, hnc, ⟨cur, hg, by omega, fun i hi => by simp [Array.getElem?_eq_getElem (show i < cur.size by omega)]⟩⟩, fun i hi => ⟨l[i], ?_⟩⟩
    have hq : ∀ t u, t < 7 → (l[i]).val[t]? = some u → cur[i * 7 + t]?.getD default = u := fun t u ht hu => by
      have h1 := opCells_at l i l[i] (by simp [hi]) t u hu
      rw [← htake, List.getElem?_take_of_lt (by omega)] at h1
      simp at h1
      simp [h1]
    exact ⟨by simpa using hq 0 _ (by omega) (by simp [LOp.val]), hq 1 _ (by omega) (by simp [LOp.val]), hq 2 _ (by omega) (by simp [LOp.val]), hq 3 _ (by omega) (by simp [LOp.val]), hq 4 _ (by omega) (by simp [LOp.val]), hq 5 _ (by omega) (by simp [LOp.val]), hq 6 _ (by omega) (by simp [LOp.val])⟩
theorem OpRow.at_ {w : World} {B : Nat} {a : Option Addr} {n g cap : Nat} {f : Nat → Value} (H : OpRow w B a n g cap f) {i : Nat} (hi : i < n) {o : LOp} (h : opF f i o) : a = some ⟨g, 0, none⟩ ∧ g < w.heap.size ∧ OpAt w g (i * 7) o := by
  obtain ⟨h1, _, h3, h4⟩ := H (by omega)
  obtain ⟨q0, q1, q2, q3, q4, q5, q6⟩ := h
  exact ⟨h1, h4.lt, by rw [h4.cell (by omega), q0], by rw [h4.cell (by omega), q1], by rw [h4.cell (by omega), q2], by rw [h4.cell (by omega), q3], by rw [h4.cell (by omega), q4], by rw [h4.cell (by omega), q5], by rw [h4.cell (by omega), q6]⟩
end Go.Proofs.YtloopeipheklpaaGreatDoor

/- A tree of one's own, written over and read again. -/
namespace Go.Proofs.YtloopeipheklpaaGreatDoor
open Go.RowKit

/-- Entries written over from a number on. -/
def mkE (k n : Nat) : List LEnt := (List.range n).map fun i => ⟨mkT (k + 2 * i), ((k + 2 * i + 1 : Nat) : Int)⟩
theorem mkE_len (k n : Nat) : (mkE k n).length = n := by simp [mkE]
theorem mkE_at (k n i : Nat) (hi : i < n) : (mkE k n)[i]? = some ⟨mkT (k + 2 * i), ((k + 2 * i + 1 : Nat) : Int)⟩ := by simp [mkE, hi]
theorem OwnEnts.cells {w : World} {B g n cap : Nat} {es : List LEnt} (h : OwnEnts w B (.slice (some ⟨g, 0, none⟩) n cap) es) {i : Nat} {e : LEnt} (he : es[i]? = some e) :
    w.cell? ⟨g, i * 2, none⟩ = some (.string e.name) ∧ w.cell? ⟨g, i * 2 + 1, none⟩ = some (.int .i64 e.id) ∧ g < w.heap.size ∧ (∀ k, w.frozen? ⟨g, k, none⟩ = false) ∧ B ≤ g := by
  obtain ⟨cur, hB, hg, hn, hnc, hcm, hcs, ht⟩ := h.open_
  obtain ⟨c0, c1⟩ := entCells_at es i e he
  have hi : i < es.length := (List.getElem?_eq_some_iff.1 he).1
  rw [← ht] at c0 c1
  have hrow : w.rowIs g 247 (cap * 2) (fun k => cur.getD k .nilIface) := ⟨cur, hg, hcs, fun k hk => by simp [hcs, hk]⟩
  refine ⟨?_, ?_, hrow.lt, hrow.frozen, hB⟩
  · rw [hrow.cell (by omega)]
    rw [List.getElem?_take_of_lt (by omega)] at c0
    simp at c0
    simp [c0]
  · rw [hrow.cell (by omega)]
    rw [List.getElem?_take_of_lt (by omega)] at c1
    simp at c1
    simp [c1]
/-- The rest of an own row while it is written over. -/
def MkdE (k : Nat) (es cur : List LEnt) (j : Nat) : Prop := cur.length = es.length ∧ (∀ i, i < j → cur[i]? = some ⟨mkT (k + 2 * i), ((k + 2 * i + 1 : Nat) : Int)⟩) ∧ ∀ i, j ≤ i → cur[i]? = es[i]?
theorem MkdE.done {k : Nat} {es cur : List LEnt} (h : MkdE k es cur es.length) : cur = mkE k es.length := by
  refine List.ext_getElem? fun i => ?_
  by_cases hi : i < es.length
  · rw [h.2.1 i hi, mkE_at k _ i hi]
  · rw [List.getElem?_eq_none (by rw [h.1]; omega), List.getElem?_eq_none (by rw [mkE_len]; omega)]
theorem MkdE.next {k : Nat} {es cur : List LEnt} {j : Nat} (h : MkdE k es cur j) (hj : j < es.length) : MkdE k es (cur.set j ⟨mkT (k + 2 * j), ((k + 2 * j + 1 : Nat) : Int)⟩) (j + 1) := by
  refine ⟨by simp [h.1], fun i hi => ?_, fun i hi => ?_⟩
  · by_cases e : i = j
    · subst e; rw [List.getElem?_set_self (by rw [h.1]; omega)]
    · rw [List.getElem?_set_ne (Ne.symm e)]; exact h.2.1 i (by omega)
  · rw [List.getElem?_set_ne (by omega)]; exact h.2.2 i (by omega)

end Go.Proofs.YtloopeipheklpaaGreatDoor

/- A tree of one's own, written over and read again: its objects. -/
namespace Go.Proofs.YtloopeipheklpaaGreatDoor
open Go.RowKit

/-- The number at which an object is written over. -/
def kAt (k0 : Nat) (os : List LObj) (i : Nat) : Nat := k0 + 3 * i + 2 * ((os.take i).map fun o => o.kids.length).sum
def KB (os : List LObj) (M : Nat) : Prop := ∀ o ∈ os, o.kids.length ≤ M
def markO (k : Nat) (o : LObj) : LObj := ⟨(k : Int), ((k + 1 : Nat) : Int), mkT (k + 2), mkE (k + 3) o.kids.length⟩
def MkdO (k0 : Nat) (os cur : List LObj) (j : Nat) : Prop := cur.length = os.length ∧ (∀ i o, i < j → os[i]? = some o → cur[i]? = some (markO (kAt k0 os i) o)) ∧ ∀ i, j ≤ i → cur[i]? = os[i]?
theorem MkdO.next {k0 j : Nat} {os cur : List LObj} {o : LObj} (h : MkdO k0 os cur j) (ho : os[j]? = some o) : MkdO k0 os (cur.set j (markO (kAt k0 os j) o)) (j + 1) := by
  have hj : j < os.length := (List.getElem?_eq_some_iff.1 ho).1
  refine ⟨by simp [h.1], fun i p hi hp => ?_, fun i hi => ?_⟩
  · by_cases e : i = j
    · subst e; rw [ho] at hp; cases hp; rw [List.getElem?_set_self (by rw [h.1]; omega)]
    · rw [List.getElem?_set_ne (Ne.symm e)]; exact h.2.1 i p (by omega) hp
  · rw [List.getElem?_set_ne (by omega)]; exact h.2.2 i (by omega)

end Go.Proofs.YtloopeipheklpaaGreatDoor

/- How many names an object of ActDo's answer has at most. -/
namespace Go.Proofs.YtloopeipheklpaaGreatDoor
theorem KB.set {os : List LObj} {M i : Nat} {y : LObj} (h : KB os M) (hy : y.kids.length ≤ M) : KB (os.set i y) M := fun o ho => by
  rcases List.mem_or_eq_of_mem_set ho with h1 | rfl
  · exact h o h1
  · exact hy
theorem KB.mono {os : List LObj} {M N : Nat} (h : KB os M) (hm : M ≤ N) : KB os N := fun o ho => Nat.le_trans (h o ho) hm
theorem KB.get {os : List LObj} {M i : Nat} {o : LObj} (h : KB os M) (ho : os[i]? = some o) : o.kids.length ≤ M := h o (List.mem_of_getElem? ho)
theorem KB.kids {os : List LObj} {M N : Nat} (h : KB os M) (hm : M ≤ N) (i : Nat) (f : List LEnt → List LEnt) (hf : ∀ es, es.length ≤ M → (f es).length ≤ N) : KB (kidsL os i f) N := by
  unfold kidsL
  split
  · next o ho => exact (h.mono hm).set (hf _ (h.get ho))
  · exact h.mono hm
end Go.Proofs.YtloopeipheklpaaGreatDoor

/- Any tree that can be written: marked. What is asked of it: it is there, and can be written; what is told: each cell keeps its sort, and nothing but the tree's blocks is changed. -/
namespace Go.Proofs.YtloopeipheklpaaGreatDoor
open Go.RowKit

/-- Each cell keeps its sort. -/
structure Keeps (w w' : World) : Prop where
  size : w.heap.size ≤ w'.heap.size
  int : ∀ p k, w.cell? p = some (.int .i64 k) → ∃ k', w'.cell? p = some (.int .i64 k')
  str : ∀ p s, w.cell? p = some (.string s) → ∃ s', w'.cell? p = some (.string s')
  sli : ∀ p a n c, w.cell? p = some (.slice a n c) → w'.cell? p = some (.slice a n c)
  fro : ∀ p, p.block < w.heap.size → w'.frozen? p = w.frozen? p
theorem Keeps.refl (w : World) : Keeps w w := ⟨Nat.le_refl _, fun _ k h => ⟨k, h⟩, fun _ s h => ⟨s, h⟩, fun _ _ _ _ h => h, fun _ _ => rfl⟩
theorem Keeps.trans {a b c : World} (h : Keeps a b) (k : Keeps b c) : Keeps a c :=
  ⟨Nat.le_trans h.size k.size, fun p x hx => by obtain ⟨y, hy⟩ := h.int p x hx; exact k.int p y hy, fun p x hx => by obtain ⟨y, hy⟩ := h.str p x hx; exact k.str p y hy, fun p x y z hx => k.sli p x y z (h.sli p x y z hx), fun p hp => (k.fro p (by have := h.size; omega)).trans (h.fro p hp)⟩
theorem Keeps.below {w w' : World} (h : Below w.heap.size w w') : Keeps w w' :=
  ⟨h.size, fun p x hx => ⟨x, by rw [h.cell (World.block_lt_of_cell? w p hx)]; exact hx⟩, fun p x hx => ⟨x, by rw [h.cell (World.block_lt_of_cell? w p hx)]; exact hx⟩, fun p x y z hx => by rw [h.cell (World.block_lt_of_cell? w p hx)]; exact hx, fun p hp => h.frozen hp⟩
/-- Nothing but blocks from L on and below U is changed. -/
def Only (L U : Nat) (w w' : World) : Prop := Below L w w' ∧ ∀ b, b < w.heap.size → U ≤ b → w'.heap[b]? = w.heap[b]?
theorem Only.refl (L U : Nat) (w : World) : Only L U w w := ⟨Below.refl _ _, fun _ _ _ => rfl⟩
theorem Only.trans {L U : Nat} {a b c : World} (h : Only L U a b) (k : Only L U b c) : Only L U a c := ⟨h.1.trans k.1, fun i hi hn => (k.2 i (by have := h.1.size; omega) hn).trans (h.2 i hi hn)⟩
theorem Only.below {L U : Nat} {w w' : World} (h : Below w.heap.size w w') (hL : L ≤ w.heap.size) : Only L U w w' := ⟨h.mono hL, fun b hb _ => h.block b hb⟩
theorem Only.set {L U : Nat} {w : World} {p : Addr} (v : Value) (hL : L ≤ p.block) (hU : p.block < U) : Only L U w (w.setCell p v) := ⟨(Below.refl _ _).setCell hL v, fun b _ hn => Below.heap_setCell w p v b (by omega)⟩

/-- Names that can be written. -/
def TypedE (w : World) (L U : Nat) (a : Option Addr) (n : Nat) : Prop := n ≠ 0 → ∃ b off, a = some ⟨b, off, none⟩ ∧ L ≤ b ∧ b < U ∧ b < w.heap.size ∧ (∀ o, w.frozen? ⟨b, o, none⟩ = false) ∧ ∀ i, i < n → (∃ s, w.cell? ⟨b, off + i * 2, none⟩ = some (.string s)) ∧ ∃ k, w.cell? ⟨b, off + i * 2 + 1, none⟩ = some (.int .i64 k)
/-- Objects that can be written. -/
def TypedO (w : World) (L U : Nat) (a : Option Addr) (n : Nat) (os : List LObj) : Prop := n ≠ 0 → ∃ b off, a = some ⟨b, off, none⟩ ∧ L ≤ b ∧ b < U ∧ b < w.heap.size ∧ (∀ o, w.frozen? ⟨b, o, none⟩ = false) ∧ ∀ i, i < n → (∃ k, w.cell? ⟨b, off + i * 4, none⟩ = some (.int .i64 k)) ∧ (∃ k, w.cell? ⟨b, off + i * 4 + 1, none⟩ = some (.int .i64 k)) ∧ (∃ s, w.cell? ⟨b, off + i * 4 + 2, none⟩ = some (.string s)) ∧ ∃ o ka kc, os[i]? = some o ∧ w.cell? ⟨b, off + i * 4 + 3, none⟩ = some (.slice ka o.kids.length kc) ∧ TypedE w L U ka o.kids.length
end Go.Proofs.YtloopeipheklpaaGreatDoor

/- Copies of any tree can be written. -/
namespace Go.Proofs.YtloopeipheklpaaGreatDoor
open Go.RowKit

/-- All blocks from B on can be written. -/
def Unf (B : Nat) (w : World) : Prop := ∀ b o, B ≤ b → w.frozen? ⟨b, o, none⟩ = false
theorem Unf.set {B : Nat} {w : World} (h : Unf B w) (p : Addr) (v : Value) : Unf B (w.setCell p v) := fun b o hb => by rw [World.frozen?_setCell]; exact h b o hb
theorem Unf.alloc {B : Nat} {w : World} (h : Unf B w) (c : Array Value) (t : TypeId) : Unf B (w.alloc (.cells c t)) := fun b o hb => by
  by_cases e : b = w.heap.size
  · subst e; exact World.frozen?_alloc_at c t _ _ rfl
  · rw [World.frozen?_alloc_old _ _ _ (by simpa using e)]; exact h b o hb
theorem Unf.next {B : Nat} {w w1 : World} (h : Unf B w) (hb : Below w.heap.size w w1) (h1 : Unf w.heap.size w1) : Unf B w1 := fun b o hB => by
  by_cases e : b < w.heap.size
  · rw [hb.frozen (by simpa using e)]; exact h b o hB
  · exact h1 b o (by omega)

end Go.Proofs.YtloopeipheklpaaGreatDoor

/- Lists of what is done as answers: what the exact laws ask. -/
namespace Go.Proofs.YtloopeipheklpaaGreatDoor
open Go.RowKit

theorem OpsAt.but {w w' : World} {L U b : Nat} {a : Option Addr} {n : Nat} {ops : List LOp} (H : OpsAt w L U a n ops) (hb : But b w w') (hU : U ≤ w.heap.size) (hne : b < L ∨ U ≤ b) : OpsAt w' L U a n ops :=
  ⟨H.len, H.bd, fun hn => by
    obtain ⟨g, off, ha, hL, hbU, hc⟩ := H.at_ hn
    refine ⟨g, off, ha, hL, hbU, fun i hi => ?_⟩
    obtain ⟨o, ho, hs, h0⟩ := hc i hi
    exact ⟨o, ho, hs, h0.of_block (hb.block g (by omega) (by omega))⟩⟩
theorem OwnOps.but {w w' : World} {B b : Nat} {v : Value} {l : List LOp} (h : OwnOps w B v l) (hb : But b w w') (hlt : b < B) : OwnOps w' B v l := by
  refine ⟨h.1, ?_⟩
  rcases h.2 with hn | ⟨g, cap, cur, rfl, hB, hgg, rest⟩
  · exact .inl hn
  · refine .inr ⟨g, cap, cur, rfl, hB, ?_, rest⟩
    rw [hb.block g (by omega) (Array.getElem?_eq_some_iff.1 hgg).1]
    exact hgg
theorem OpRow.next {w w' : World} {B : Nat} {a : Option Addr} {n g cap : Nat} {f : Nat → Value} (h : OpRow w B a n g cap f) (hb : Below w.heap.size w w') : OpRow w' B a n g cap f := fun hn => by
  obtain ⟨h1, h2, h3, h4⟩ := h hn
  exact ⟨h1, h2, h3, h4.of_block (hb.block g h4.lt)⟩
theorem But.under {B b : Nat} {w0 w w' : World} (h : Below B w0 w) (hb : But b w w') (hB : B ≤ b) : Below B w0 w' := h.trans (hb.below.mono hB)

end Go.Proofs.YtloopeipheklpaaGreatDoor

/- The law of ActDo: what stands in its boxes. -/
namespace Go.Proofs.YtloopeipheklpaaGreatDoor
open Go.RowKit

/-- The arguments' boxes. -/
structure AB (w W : World) (ta : Option Addr) (tn tc : Nat) (o : LOp) : Prop where
  below : Below w.heap.size w W
  t : W.cell? ⟨w.heap.size, 0, none⟩ = some (.slice ta tn tc)
  k0 : W.cell? ⟨w.heap.size + 1, 0, none⟩ = some (.int .i64 o.kind)
  k1 : W.cell? ⟨w.heap.size + 1, 1, none⟩ = some (.int .i64 o.dir)
  k2 : W.cell? ⟨w.heap.size + 1, 2, none⟩ = some (.string o.name)
  k3 : W.cell? ⟨w.heap.size + 1, 3, none⟩ = some (.int .i64 o.dir2)
  k4 : W.cell? ⟨w.heap.size + 1, 4, none⟩ = some (.string o.name2)
  k5 : W.cell? ⟨w.heap.size + 1, 5, none⟩ = some (.int .i64 o.id)
  k6 : W.cell? ⟨w.heap.size + 1, 6, none⟩ = some (.string o.text)
  sz : w.heap.size + 1 < W.heap.size
theorem AB.of {w W W' : World} {ta : Option Addr} {tn tc : Nat} {o : LOp} (h : AB w W ta tn tc o) (hb : Below w.heap.size w W') (h0 : W'.heap[w.heap.size]? = W.heap[w.heap.size]?) (h1 : W'.heap[w.heap.size + 1]? = W.heap[w.heap.size + 1]?) (hs : w.heap.size + 1 < W'.heap.size) : AB w W' ta tn tc o := by
  have c0 : ∀ j, W'.cell? ⟨w.heap.size, j, none⟩ = W.cell? ⟨w.heap.size, j, none⟩ := fun j => World.cell?_of_block (w := W) h0
  have c1 : ∀ j, W'.cell? ⟨w.heap.size + 1, j, none⟩ = W.cell? ⟨w.heap.size + 1, j, none⟩ := fun j => World.cell?_of_block (w := W) h1
  exact ⟨hb, by rw [c0]; exact h.t, by rw [c1]; exact h.k0, by rw [c1]; exact h.k1, by rw [c1]; exact h.k2, by rw [c1]; exact h.k3, by rw [c1]; exact h.k4, by rw [c1]; exact h.k5, by rw [c1]; exact h.k6, hs⟩
theorem AB.under {w W W' : World} {ta : Option Addr} {tn tc B : Nat} {o : LOp} (h : AB w W ta tn tc o) (hb : Below B W W') (hB : w.heap.size + 1 < B) : AB w W' ta tn tc o :=
  h.of (h.below.trans (hb.mono (by omega))) (hb.block _ (by omega)) (hb.block _ hB) (by have := hb.size; have := h.sz; omega)
theorem AB.next {w W W' : World} {ta : Option Addr} {tn tc : Nat} {o : LOp} (h : AB w W ta tn tc o) (hb : Below W.heap.size W W') : AB w W' ta tn tc o := h.under hb h.sz
theorem AB.but {w W W' : World} {ta : Option Addr} {tn tc q : Nat} {o : LOp} (h : AB w W ta tn tc o) (hb : But q W W') (hq : w.heap.size + 1 < q) : AB w W' ta tn tc o := h.under hb.below hq
/-- A box with a tree that is read. -/
structure TB (W : World) (hi g : Nat) (x : Option Addr) (c : Nat) (l : List LObj) : Prop where
  box : W.cell? ⟨g, 0, none⟩ = some (.slice x l.length c)
  obj : ObjsAt W 0 hi x l.length l
  lt : g < hi
  le : hi ≤ W.heap.size
theorem TB.under {W W' : World} {hi g : Nat} {x : Option Addr} {c B : Nat} {l : List LObj} (h : TB W hi g x c l) (hb : Below B W W') (hB : hi ≤ B) : TB W' hi g x c l :=
  ⟨by rw [hb.cell (by have := h.lt; simp; omega)]; exact h.box, h.obj.below hb hB, h.lt, by have := hb.size; have := h.le; omega⟩
theorem TB.next {W W' : World} {hi g : Nat} {x : Option Addr} {c : Nat} {l : List LObj} (h : TB W hi g x c l) (hb : Below W.heap.size W W') : TB W' hi g x c l := h.under hb h.le
theorem TypedE.under {w w' : World} {L U : Nat} {a : Option Addr} {n : Nat} (h : TypedE w L U a n) (hb : Below U w w') : TypedE w' L U a n := fun hn => by
  obtain ⟨b, off, h1, h2, h3, h4, h5, h6⟩ := h hn
  refine ⟨b, off, h1, h2, h3, by have := hb.size; omega, fun o => by rw [hb.frozen (by simpa using h3)]; exact h5 o, fun i hi => ?_⟩
  obtain ⟨⟨s, hs⟩, x, hx⟩ := h6 i hi
  exact ⟨⟨s, by rw [hb.cell (by simpa using h3)]; exact hs⟩, x, by rw [hb.cell (by simpa using h3)]; exact hx⟩
theorem TypedO.under {w w' : World} {L U : Nat} {a : Option Addr} {n : Nat} {os : List LObj} (h : TypedO w L U a n os) (hb : Below U w w') : TypedO w' L U a n os := fun hn => by
  obtain ⟨b, off, h1, h2, h3, h4, h5, h6⟩ := h hn
  refine ⟨b, off, h1, h2, h3, by have := hb.size; omega, fun o => by rw [hb.frozen (by simpa using h3)]; exact h5 o, fun i hi => ?_⟩
  obtain ⟨⟨x, hx⟩, ⟨y, hy⟩, ⟨s, hs⟩, o, ka, kc, ho, hc, he⟩ := h6 i hi
  exact ⟨⟨x, by rw [hb.cell (by simpa using h3)]; exact hx⟩, ⟨y, by rw [hb.cell (by simpa using h3)]; exact hy⟩, ⟨s, by rw [hb.cell (by simpa using h3)]; exact hs⟩, o, ka, kc, ho, by rw [hb.cell (by simpa using h3)]; exact hc, he.under hb⟩
/-- A box with a tree that is handed in; its blocks lie from L on, the box behind them. -/
structure XB (W : World) (L U b n : Nat) (os : List LObj) : Prop where
  box : W.cell? ⟨U, 0, none⟩ = some (.slice (some ⟨b, 0, none⟩) n n)
  ty : TypedO W L U (some ⟨b, 0, none⟩) n os
  obj : ObjsAt W L U (some ⟨b, 0, none⟩) n os
  lt : U < W.heap.size
theorem XB.under {W W' : World} {L U b n B : Nat} {os : List LObj} (h : XB W L U b n os) (hb : Below B W W') (hB : U < B) : XB W' L U b n os :=
  ⟨by rw [hb.cell (by simpa using hB)]; exact h.box, h.ty.under (hb.mono (by omega)), h.obj.below hb (by omega), by have := hb.size; have := h.lt; omega⟩
/-- All that stands ahead of the call of the program. -/
structure CD (w W : World) (ta : Option Addr) (tn tc : Nat) (o : LOp) (hi g : Nat) (x : Option Addr) (c : Nat) (l : List LObj) (L U b : Nat) (os : List LObj) : Prop where
  ab : AB w W ta tn tc o
  tb : TB W hi g x c l
  xb : XB W L U b tn os
  n1 : w.heap.size + 1 < hi
  n2 : hi ≤ L
  n3 : L ≤ U
theorem CD.under {w W W' : World} {ta : Option Addr} {tn tc : Nat} {o : LOp} {hi g : Nat} {x : Option Addr} {c : Nat} {l : List LObj} {L U b B : Nat} {os : List LObj} (h : CD w W ta tn tc o hi g x c l L U b os) (hb : Below B W W') (hB : U < B) : CD w W' ta tn tc o hi g x c l L U b os :=
  ⟨h.ab.under hb (by have := h.n1; have := h.n2; have := h.n3; omega), h.tb.under hb (by have := h.n2; have := h.n3; omega), h.xb.under hb hB, h.n1, h.n2, h.n3⟩
theorem CD.next {w W W' : World} {ta : Option Addr} {tn tc : Nat} {o : LOp} {hi g : Nat} {x : Option Addr} {c : Nat} {l : List LObj} {L U b : Nat} {os : List LObj} (h : CD w W ta tn tc o hi g x c l L U b os) (hb : Below W.heap.size W W') : CD w W' ta tn tc o hi g x c l L U b os := h.under hb h.xb.lt
theorem CD.but {w W W' : World} {ta : Option Addr} {tn tc : Nat} {o : LOp} {hi g : Nat} {x : Option Addr} {c : Nat} {l : List LObj} {L U b q : Nat} {os : List LObj} (h : CD w W ta tn tc o hi g x c l L U b os) (hb : But q W W') (hq : U < q) : CD w W' ta tn tc o hi g x c l L U b os := h.under hb.below hq
/-- A tree of one's own, or none. -/
def AnsAt (W : World) (lo : Nat) (x : Option Addr) (c : Nat) (vs : Nat → Value) (l : List LObj) : Prop := (l = [] ∧ x = none ∧ c = 0) ∨ ∃ b, x = some ⟨b, 0, none⟩ ∧ OwnT W lo b c l vs
theorem AnsAt.next {W W' : World} {lo : Nat} {x : Option Addr} {c : Nat} {vs : Nat → Value} {l : List LObj} (h : AnsAt W lo x c vs l) (hb : Below W.heap.size W W') : AnsAt W' lo x c vs l := by
  rcases h with h | ⟨b, rfl, h⟩
  · exact .inl h
  · exact .inr ⟨b, rfl, h.below hb⟩
theorem AnsAt.setBox {W : World} {lo q : Nat} {x : Option Addr} {c : Nat} {vs : Nat → Value} {l : List LObj} (h : AnsAt W lo x c vs l) (hq : ∃ f, W.rowIs q 26 1 f) (v : Value) : AnsAt (W.setCell ⟨q, 0, none⟩ v) lo x c vs l := by
  rcases h with h | ⟨b, rfl, h⟩
  · exact .inl h
  · exact .inr ⟨b, rfl, h.setBox hq 0 v⟩
theorem DoAt.ans {w w' : World} {r : List LObj × Int} {e : Ending} (h : DoAt w r e w') : ∃ x c vs, e = .returned (.tuple #[.agg #[.slice x r.1.length c], .int .i64 r.2]) ∧ AnsAt w' w.heap.size x c vs r.1 ∧ Below w.heap.size w w' := by
  obtain ⟨⟨h0, rfl⟩ | ⟨b, c, vs, rfl, hO⟩, hb⟩ := h
  · exact ⟨none, 0, fun _ => .nilIface, by rw [h0]; rfl, .inl ⟨h0, rfl, rfl⟩, hb⟩
  · exact ⟨_, c, vs, rfl, .inr ⟨b, rfl, hO⟩, hb⟩
/-- The box with the program's answer. -/
structure GB (W : World) (lo g : Nat) (x : Option Addr) (c : Nat) (vs : Nat → Value) (l : List LObj) : Prop where
  box : W.cell? ⟨g, 0, none⟩ = some (.slice x l.length c)
  row : ∃ f, W.rowIs g 26 1 f
  ans : AnsAt W lo x c vs l
theorem GB.next {W W' : World} {lo g : Nat} {x : Option Addr} {c : Nat} {vs : Nat → Value} {l : List LObj} (h : GB W lo g x c vs l) (hb : Below W.heap.size W W') : GB W' lo g x c vs l := by
  obtain ⟨f, hf⟩ := h.row
  exact ⟨by rw [hb.cell (by simpa using hf.lt)]; exact h.box, ⟨f, hf.of_block (hb.block g hf.lt)⟩, h.ans.next hb⟩
section
variable {ops : Array Oper} {ac : Act} {K : Act → World → Prop} {Q : Exit → Act → World → Prop} {E : Prop} {ty : TypeId} {ps : String} {af : Array Edge}
theorem st_alloc31 (W : World) (d : Nat)
    (h : ∀ q W', q = W.heap.size → Below W.heap.size W W' → W'.rowIs q 26 1 (zrow #[.slice none 0 0]) → K (ac.put (some d) (.pointer (some ⟨q, 0, none⟩))) W') :
    if Region.wanted { dst := some d, op := .alloc 26, type := ty, pos := ps, after := af, guard := none } (yielded ops ac.tmps) = true then Oper.wp Tryz.prog { dst := some d, op := .alloc 26, type := ty, pos := ps, after := af, guard := none } ac W K Q else E := by
  rw [if_pos (by simp [Region.wanted])]
  have := h W.heap.size (W.alloc (.cells #[.slice none 0 0] 26)) rfl ((Below.refl _ _).alloc (Nat.le_refl _) _) (zrow_new W _ 26)
  unfold Oper.wp
  go_simp
  exact this
theorem st_store31 (W : World) (tp tv : Nat) (q : Nat) (a : Option Addr) (n c : Nat) (hp : ac.tmps[tp]?.getD undef = .pointer (some ⟨q, 0, none⟩)) (hv : ac.tmps[tv]?.getD undef = .agg #[.slice a n c]) (hr : W.rowIs q 26 1 (zrow #[.slice none 0 0]))
    (h : ∀ W', But q W W' → W'.cell? ⟨q, 0, none⟩ = some (.slice a n c) → Hid (W' = W.setCell ⟨q, 0, none⟩ (.slice a n c)) → K ac W') :
    if Region.wanted { dst := none, op := .store 26 (.tmp tp) (.tmp tv), type := ty, pos := ps, after := af, guard := none } (yielded ops ac.tmps) = true then Oper.wp Tryz.prog { dst := none, op := .store 26 (.tmp tp) (.tmp tv), type := ty, pos := ps, after := af, guard := none } ac W K Q else E := by
  rw [if_pos (by simp [Region.wanted])]
  have c0 : W.cell? ⟨q, 0, none⟩ = some (.slice none 0 0) := by rw [hr.cell (by omega)]; rfl
  have z0 := hr.frozen 0
  have r2 := hr.set 0 (.slice a n c)
  have := h (W.setCell ⟨q, 0, none⟩ (.slice a n c)) ((But.refl q W).set _ _) (by rw [r2.cell (by omega)]; rfl) rfl
  clear h hr r2
  unfold Oper.wp
  go_simp
  exact this
end
end Go.Proofs.YtloopeipheklpaaGreatDoor

/- The law of ActDo: an answer written over and read again, or none. -/
namespace Go.Proofs.YtloopeipheklpaaGreatDoor
open Go.RowKit

theorem OwnEnts.blocks {w w' : World} {B : Nat} {v : Value} {es : List LEnt} (h : OwnEnts w B v es) (hk : ∀ q, B ≤ q → q < w.heap.size → w'.heap[q]? = w.heap[q]?) : OwnEnts w' B v es := by
  refine ⟨h.1, ?_⟩
  rcases h.2 with hn | ⟨g, cap, cur, rfl, hb, hgg, rest⟩
  · exact .inl hn
  · exact .inr ⟨g, cap, cur, rfl, hb, by rw [hk g hb (Array.getElem?_eq_some_iff.1 hgg).1]; exact hgg, rest⟩
theorem OwnT.blocks {w w' : World} {B b c : Nat} {os : List LObj} {vs : Nat → Value} (h : OwnT w B b c os vs) (hk : ∀ q, B ≤ q → q < w.heap.size → w'.heap[q]? = w.heap[q]?) : OwnT w' B b c os vs := by
  obtain ⟨cur, hr, hcs, hlc, hcm⟩ := h.row
  have hb := hk b h.lo h.lt
  have hc : ∀ j, w'.cell? ⟨b, j, none⟩ = w.cell? ⟨b, j, none⟩ := fun j => World.cell?_of_block (w := w) hb
  refine ⟨h.lo, ⟨cur, by rw [hb]; exact hr, hcs, hlc, hcm⟩, fun i o ho => ?_, h.apart⟩
  obtain ⟨h1, h2, h3, h4, h5, h6, h7⟩ := h.at_ i o ho
  exact ⟨h1, by rw [hc]; exact h2, by rw [hc]; exact h3, by rw [hc]; exact h4, by rw [hc]; exact h5, h6.blocks hk, h7⟩
theorem AnsAt.blocks {W W' : World} {lo : Nat} {x : Option Addr} {c : Nat} {vs : Nat → Value} {l : List LObj} (h : AnsAt W lo x c vs l) (hk : ∀ q, lo ≤ q → q < W.heap.size → W'.heap[q]? = W.heap[q]?) : AnsAt W' lo x c vs l := by
  rcases h with h | ⟨b, rfl, h⟩
  · exact .inl h
  · exact .inr ⟨b, rfl, h.blocks hk⟩
/-- The arguments are written over: the answer and its box stand. -/
theorem GB.only {W W' : World} {lo g L U : Nat} {x : Option Addr} {c : Nat} {vs : Nat → Value} {l : List LObj} (h : GB W lo g x c vs l) (hO : Only L U W W') (hlo : U ≤ lo) (hg : U ≤ g) : GB W' lo g x c vs l := by
  obtain ⟨f, hf⟩ := h.row
  have e := hO.2 g hf.lt hg
  exact ⟨by rw [World.cell?_of_block (w := W) e]; exact h.box, ⟨f, hf.of_block e⟩, h.ans.blocks fun q h1 h2 => hO.2 q h2 (by omega)⟩
/-- An answer that is written over: none, or the tree of one's own with other content. -/
def HeldAt (W : World) (lo : Nat) (x : Option Addr) (c : Nat) (vs : Nat → Value) (l : List LObj) : Prop := (l = [] ∧ x = none ∧ c = 0) ∨ ∃ b cur, x = some ⟨b, 0, none⟩ ∧ OwnT W lo b c cur vs ∧ MkdO 1 l cur l.length
theorem HeldAt.next {W W' : World} {lo : Nat} {x : Option Addr} {c : Nat} {vs : Nat → Value} {l : List LObj} (h : HeldAt W lo x c vs l) (hb : Below W.heap.size W W') : HeldAt W' lo x c vs l := by
  rcases h with h | ⟨b, cur, rfl, h, hm⟩
  · exact .inl h
  · exact .inr ⟨b, cur, rfl, h.below hb, hm⟩
theorem HeldAt.setBox {W : World} {lo q : Nat} {x : Option Addr} {c : Nat} {vs : Nat → Value} {l : List LObj} (h : HeldAt W lo x c vs l) (hq : ∃ f, W.rowIs q 26 1 f) (v : Value) : HeldAt (W.setCell ⟨q, 0, none⟩ v) lo x c vs l := by
  rcases h with h | ⟨b, cur, rfl, h, hm⟩
  · exact .inl h
  · exact .inr ⟨b, cur, rfl, h.setBox hq 0 v, hm⟩
end Go.Proofs.YtloopeipheklpaaGreatDoor

/- A list that is done, all of it or nothing: the plain function, and what stands in the boxes of its two loops. -/
namespace Go.Proofs.YtloopeipheklpaaGreatDoor
open Go.RowKit

def allGo (os0 : List LObj) : List LObj → List LOp → Nat → List LObj × Int × Nat
  | os, [], i => (os, 0, i)
  | os, o :: r, i => if (actDo os o).2 = 0 then allGo os0 (actDo os o).1 r (i + 1) else (os0, (actDo os o).2, i)
/-- What ActAll answers. -/
def allR (os : List LObj) (ops : List LOp) : List LObj × Int × Nat := if specOk os = true ∧ formsB ops = true then allGo os os ops 0 else ([], 8, 0)
theorem allGo_end (os0 os : List LObj) {ops : List LOp} {j : Nat} (h : ops.length ≤ j) : allGo os0 os (ops.drop j) j = (os, 0, j) := by
  rw [List.drop_of_length_le h]; rfl
theorem allGo_step (os0 os : List LObj) {ops : List LOp} {j : Nat} {o : LOp} (h : ops[j]? = some o) : allGo os0 os (ops.drop j) j = if (actDo os o).2 = 0 then allGo os0 (actDo os o).1 (ops.drop (j + 1)) (j + 1) else (os0, (actDo os o).2, j) := by
  rw [drop_cons h]; rfl
/-- An answer of ActAll: no tree, or one of its own. -/
def AllEnd (w : World) (r : List LObj × Int × Nat) (e : Ending) (w' : World) : Prop :=
  ((r.1 = [] ∧ e = .returned (.tuple #[.agg #[.slice none 0 0], .int .i64 r.2.1, .int .i64 (r.2.2 : Nat)])) ∨ ∃ b c vs, e = .returned (.tuple #[.agg #[.slice (some ⟨b, 0, none⟩) r.1.length c], .int .i64 r.2.1, .int .i64 (r.2.2 : Nat)]) ∧ OwnT w' w.heap.size b c r.1 vs) ∧ Below w.heap.size w w'
theorem forms_op {ops : List LOp} (h : formsB ops = true) {j : Nat} {o : LOp} (ho : ops[j]? = some o) : opOk o = true := by
  unfold formsB at h
  rw [Bool.and_eq_true] at h
  exact List.all_eq_true.1 h.2 o (List.mem_of_getElem? ho)
theorem ok_bd {os : List LObj} (hs : specOk os = true) : Bd os 1000000 := fun x hx => by
  obtain ⟨i, hi, rfl⟩ := List.getElem_of_mem hx
  have h9 : os[i]? = some os[i] := List.getElem?_eq_getElem hi
  have := ok_ver hs h9
  have := ok_kids hs h9
  exact ⟨by omega, by omega, by omega⟩
/-- A box of another type than a tree's rows is no part of it. -/
theorem OwnT.far {W : World} {B b c q : Nat} {X : TypeId} {os : List LObj} {vs : Nat → Value} {f : Nat → Value} (h : OwnT W B b c os vs) (hX : X ≠ 165 ∧ X ≠ 247) (hq : W.rowIs q X 1 f) : q ≠ b ∧ ∀ i, i < os.length → (vs i).ownBlock ≠ some q := by
  obtain ⟨cc, hqq, -⟩ := hq
  obtain ⟨cur, hr, -⟩ := h.row
  refine ⟨fun e => ?_, fun i hi e => ?_⟩
  · subst e; rw [hr] at hqq
    have := Option.some.inj hqq
    injection this with _ h2
    exact hX.1 h2.symm
  · have ho := (h.at_ i (os[i]'hi) (List.getElem?_eq_getElem hi)).2.2.2.2.2.1
    rcases ho.2 with ⟨hn, _⟩ | ⟨g, cap, cur2, hv, hb, hgg, _⟩
    · rw [hn] at e; cases e
    · rw [hv] at e
      simp [Value.ownBlock] at e
      subst e
      rw [hgg] at hqq
      have := Option.some.inj hqq
      injection this with _ h2
      exact hX.2 h2.symm
/-- What stands in the boxes of the loop, but for the tree. -/
structure LZ (w W : World) (T : Nat) (X : TypeId) (a : Option Addr) (n c b1 c1 : Nat) : Prop where
  below : Below w.heap.size w W
  t : W.cell? ⟨w.heap.size, 0, none⟩ = some (.slice a n c)
  r : ∃ f, W.rowIs (w.heap.size + 1) 26 1 f
  x : W.cell? ⟨T, 0, none⟩ = some (.slice (some ⟨b1, 0, none⟩) n c1)
  xr : ∃ f, W.rowIs T X 1 f
  lo : w.heap.size + 1 < T
  lt : T < W.heap.size
theorem LZ.of {w W W' : World} {T : Nat} {X : TypeId} {a : Option Addr} {n c b1 c1 : Nat} (h : LZ w W T X a n c b1 c1) (hb : Below (w.heap.size + 1 + 1) W W') (hT : W'.heap[T]? = W.heap[T]?) : LZ w W' T X a n c b1 c1 := by
  obtain ⟨f, hf⟩ := h.r
  obtain ⟨g, hg⟩ := h.xr
  exact ⟨h.below.trans (hb.mono (by omega)), by rw [hb.cell (by simp; omega)]; exact h.t, ⟨f, hf.of_block (hb.block _ (by omega))⟩, by rw [World.cell?_of_block (w := W) hT]; exact h.x, ⟨g, hg.of_block hT⟩, h.lo, by have := hb.size; have := h.lt; omega⟩
theorem LZ.next {w W W' : World} {T : Nat} {X : TypeId} {a : Option Addr} {n c b1 c1 : Nat} (h : LZ w W T X a n c b1 c1) (hb : Below W.heap.size W W') : LZ w W' T X a n c b1 c1 :=
  h.of (hb.mono (by have := h.lo; have := h.lt; omega)) (hb.block _ h.lt)
theorem LZ.but {w W W' : World} {T : Nat} {X : TypeId} {a : Option Addr} {n c b1 c1 q : Nat} (h : LZ w W T X a n c b1 c1) (hb : But q W W') (hq : T < q) : LZ w W' T X a n c b1 c1 :=
  h.of (hb.below.mono (by have := h.lo; omega)) (hb.below.block _ hq)
/-- Behind a call that writes into the tree. -/
theorem LZ.call {w W W' : World} {T : Nat} {X : TypeId} {a : Option Addr} {n c b1 c1 : Nat} {os : List LObj} {vs : Nat → Value} (h : LZ w W T X a n c b1 c1) (hX : X ≠ 165 ∧ X ≠ 247) (hn : os.length = n) (ht : OwnT W (w.heap.size + 1 + 1) b1 c1 os vs) (hb : Below (w.heap.size + 1 + 1) W W') (hk : Kt W W' b1 n vs) : LZ w W' T X a n c b1 c1 := by
  obtain ⟨g, hg⟩ := h.xr
  obtain ⟨n1, n2⟩ := ht.far hX hg
  exact h.of hb (hk T h.lt n1 fun i hi => n2 i (by omega))
/-- The loop's box written over by what it holds. -/
theorem LZ.put {w W : World} {T : Nat} {X : TypeId} {a : Option Addr} {n c b1 c1 : Nat} (h : LZ w W T X a n c b1 c1) (_ : X ≠ 165) : LZ w (W.setCell ⟨T, 0, none⟩ (.slice (some ⟨b1, 0, none⟩) n c1)) T X a n c b1 c1 := by
  obtain ⟨f, hf⟩ := h.r
  obtain ⟨g, hg⟩ := h.xr
  have hb : ∀ q, q ≠ T → (W.setCell ⟨T, 0, none⟩ (.slice (some ⟨b1, 0, none⟩) n c1)).heap[q]? = W.heap[q]? := fun q hq => Below.heap_setCell W ⟨T, 0, none⟩ _ q hq
  exact ⟨h.below.setCell (by show _ ≤ T; have := h.lo; omega) _, by rw [World.cell?_of_block (w := W) (hb _ (by show w.heap.size ≠ T; have := h.lo; omega))]; exact h.t, ⟨f, hf.of_block (hb _ (by have := h.lo; omega))⟩, World.cell?_setCell_same _ _ _ h.x, ⟨_, hg.set 0 _⟩, h.lo, by simpa using h.lt⟩
/-- The box of the loop with the tree that was answered. -/
structure YB (W : World) (q n b1 c1 : Nat) : Prop where
  box : W.cell? ⟨q, 0, none⟩ = some (.slice (some ⟨b1, 0, none⟩) n c1)
  lt : q < W.heap.size
end Go.Proofs.YtloopeipheklpaaGreatDoor

/- What is done: marked from any number on, and held. -/
namespace Go.Proofs.YtloopeipheklpaaGreatDoor
open Go.RowKit

end Go.Proofs.YtloopeipheklpaaGreatDoor

/- The law of ActAll: what stands in its boxes. -/
namespace Go.Proofs.YtloopeipheklpaaGreatDoor
open Go.RowKit

/-- The tree that came in, in its box. -/
structure AQ (w W : World) (ta : Option Addr) (tn tc : Nat) : Prop where
  below : Below w.heap.size w W
  t : W.cell? ⟨w.heap.size, 0, none⟩ = some (.slice ta tn tc)
  sz : w.heap.size < W.heap.size
theorem AQ.under {w W W' : World} {ta : Option Addr} {tn tc B : Nat} (h : AQ w W ta tn tc) (hb : Below B W W') (hB : w.heap.size < B) : AQ w W' ta tn tc :=
  ⟨h.below.trans (hb.mono (by omega)), by rw [hb.cell (by simpa using hB)]; exact h.t, by have := hb.size; have := h.sz; omega⟩
theorem AQ.next {w W W' : World} {ta : Option Addr} {tn tc : Nat} (h : AQ w W ta tn tc) (hb : Below W.heap.size W W') : AQ w W' ta tn tc := h.under hb h.sz
/-- A list that is handed in, a row of its own between lo and up. -/
structure RB (W : World) (lo up lb m : Nat) (f : Nat → Value) (ops : List LOp) : Prop where
  ge : lo ≤ lb
  lt : lb < up
  le : up ≤ W.heap.size
  row : W.rowIs lb 130 (m * 7) f
  ty : ∀ i, i < m → OpCell f i
  ops : OpsAt W lo up (some ⟨lb, 0, none⟩) m ops
theorem RB.blocks {W W' : World} {lo up lb m : Nat} {f : Nat → Value} {ops : List LOp} (h : RB W lo up lb m f ops) (hs : W.heap.size ≤ W'.heap.size) (hb : ∀ q, lo ≤ q → q < up → W'.heap[q]? = W.heap[q]?) : RB W' lo up lb m f ops :=
  ⟨h.ge, h.lt, Nat.le_trans h.le hs, h.row.of_block (hb lb h.ge h.lt), h.ty, h.ops.blocks hb⟩
theorem RB.under {W W' : World} {lo up lb m B : Nat} {f : Nat → Value} {ops : List LOp} (h : RB W lo up lb m f ops) (hb : Below B W W') (hB : up ≤ B) : RB W' lo up lb m f ops := h.blocks hb.size fun q _ h2 => hb.block q (by omega)
theorem RB.next {W W' : World} {lo up lb m : Nat} {f : Nat → Value} {ops : List LOp} (h : RB W lo up lb m f ops) (hb : Below W.heap.size W W') : RB W' lo up lb m f ops := h.under hb h.le
theorem RB.only {W W' : World} {lo up lb m L U : Nat} {f : Nat → Value} {ops : List LOp} (h : RB W lo up lb m f ops) (hO : Only L U W W') (hU : U ≤ lo) : RB W' lo up lb m f ops := h.blocks hO.1.size fun q h1 h2 => hO.2 q (by have := h.le; omega) (by omega)
theorem GB.but {W W' : World} {lo g q : Nat} {x : Option Addr} {c : Nat} {vs : Nat → Value} {l : List LObj} (h : GB W lo g x c vs l) (hO : But q W W') (hlo : q < lo) (hg : q < g) : GB W' lo g x c vs l := by
  obtain ⟨f, hf⟩ := h.row
  have e := hO.block g (by omega) hf.lt
  exact ⟨by rw [World.cell?_of_block (w := W) e]; exact h.box, ⟨f, hf.of_block e⟩, h.ans.blocks fun k h1 h2 => hO.block k (by omega) h2⟩
/-- All that stands ahead of the call of the program. -/
structure CE (w W : World) (ta : Option Addr) (tn tc hi g : Nat) (x : Option Addr) (c : Nat) (l : List LObj) (L U b : Nat) (os : List LObj) (lo up lb m : Nat) (f : Nat → Value) (ops : List LOp) : Prop where
  ab : AQ w W ta tn tc
  tb : TB W hi g x c l
  xb : XB W L U b tn os
  rb : RB W lo up lb m f ops
  n1 : w.heap.size < hi
  n2 : hi ≤ L
  n3 : L ≤ U
  n4 : U < lo
theorem CE.next {w W W' : World} {ta : Option Addr} {tn tc hi g : Nat} {x : Option Addr} {c : Nat} {l : List LObj} {L U b : Nat} {os : List LObj} {lo up lb m : Nat} {f : Nat → Value} {ops : List LOp} (h : CE w W ta tn tc hi g x c l L U b os lo up lb m f ops) (hb : Below W.heap.size W W') : CE w W' ta tn tc hi g x c l L U b os lo up lb m f ops :=
  ⟨h.ab.next hb, h.tb.next hb, h.xb.under hb h.xb.lt, h.rb.next hb, h.n1, h.n2, h.n3, h.n4⟩
theorem allGo_ok (os0 : List LObj) (h0 : specOk os0 = true) : ∀ (ops : List LOp) (os : List LObj) (i : Nat), specOk os = true → (∀ o ∈ ops, opOk o = true) → specOk (allGo os0 os ops i).1 = true
  | [], os, i, hs, _ => hs
  | o :: r, os, i, hs, ho => by
    unfold allGo
    split
    · next h => exact allGo_ok os0 h0 r _ _ (act_ok hs (ho o (by simp)) h) fun x hx => ho x (by simp [hx])
    · exact h0
theorem allR_ok (os : List LObj) (ops : List LOp) : (allR os ops).1 = [] ∨ specOk (allR os ops).1 = true := by
  unfold allR
  split
  · next h =>
    refine .inr (allGo_ok os h.1 ops os 0 h.1 fun o ho => ?_)
    obtain ⟨j, hj, rfl⟩ := List.getElem_of_mem ho
    exact forms_op h.2 (List.getElem?_eq_getElem hj)
  · exact .inl rfl
end Go.Proofs.YtloopeipheklpaaGreatDoor

/- Every refusal has a true reason: plain facts about the code of what is done. -/
namespace Go.Proofs.YtloopeipheklpaaGreatDoor

end Go.Proofs.YtloopeipheklpaaGreatDoor

/- What is done turns what it changes, and nothing else: plain facts. -/
namespace Go.Proofs.YtloopeipheklpaaGreatDoor

end Go.Proofs.YtloopeipheklpaaGreatDoor

/- What is done touches what it names, and how many it turns: plain facts. -/
namespace Go.Proofs.YtloopeipheklpaaGreatDoor

end Go.Proofs.YtloopeipheklpaaGreatDoor

/- A list is all or nothing: plain facts about ActAll. -/
namespace Go.Proofs.YtloopeipheklpaaGreatDoor

end Go.Proofs.YtloopeipheklpaaGreatDoor

/- A client: what is ok of it, plain. -/
namespace Go.Proofs.YtloopeipheklpaaGreatDoor
open Go.RowKit Go.ChangeShapes Go.WideShapes

def shelfB (s : List (List LOp)) : Bool := decide (s.length ≤ 4) && s.all (fun l => decide (l.length ≤ 120) && l.all opOk)
def midR (k : LKeep) : List LObj × Int × Nat := allGo k.base k.base k.sent 0
/-- What a client sees, of one that is ok. -/
def viewR (k : LKeep) : List LObj × Int × Nat := if (midR k).2.1 = 0 then allGo (midR k).1 (midR k).1 k.list 0 else midR k
def clientB (q : Int) : Bool := decide (0 ≤ q) && decide (q < 3)
def sentB (s : Int) (b : Bool) (n : Nat) : Bool := (b == decide (0 < n)) && ((decide (1 ≤ s) && decide (s ≤ 1000)) || ((s == 0) && !b))
def keepB (k : LKeep) : Bool := clientB k.who && sentB k.seq k.waits k.sent.length && shelfB k.shelf && specOk k.base && formsB k.sent && formsB k.list
def keepOk (k : LKeep) : Bool := keepB k && ((viewR k).2.1 == 0)
/-- The program's: what ActAll says of both lists. -/
def viewB (k : LKeep) : Bool := ((allR k.base k.sent).2.1 == 0) && ((allR (allR k.base k.sent).1 k.list).2.1 == 0)
theorem forms_all {ops : List LOp} (h : formsB ops = true) : ∀ o ∈ ops, opOk o = true := by
  unfold formsB at h
  rw [Bool.and_eq_true] at h
  exact List.all_eq_true.1 h.2
theorem mid_ok {k : LKeep} (hs : specOk k.base = true) (hf : formsB k.sent = true) : specOk (midR k).1 = true := allGo_ok k.base hs k.sent k.base 0 hs (forms_all hf)
theorem keepOk_impl (k : LKeep) : keepOk k = (clientB k.who && sentB k.seq k.waits k.sent.length && shelfB k.shelf && viewB k) := by
  unfold keepOk keepB viewB viewR
  rcases h1 : clientB k.who <;> rcases h2 : sentB k.seq k.waits k.sent.length <;> rcases h3 : shelfB k.shelf <;> simp only [Bool.false_and, Bool.and_false, Bool.true_and]
  rcases hs : specOk k.base with _ | _
  · simp [allR, hs]
  rcases hf : formsB k.sent with _ | _
  · simp [allR, hf]
  have e : allR k.base k.sent = midR k := by unfold allR midR; rw [if_pos ⟨hs, hf⟩]
  rw [e]
  by_cases hc : (midR k).2.1 = 0
  · have hm := mid_ok hs hf
    rcases hl : formsB k.list with _ | _
    · simp [allR, hl]
    · have e2 : allR (midR k).1 k.list = allGo (midR k).1 (midR k).1 k.list 0 := by unfold allR; rw [if_pos ⟨hm, hl⟩]
      simp [hc, e2]
  · have hz : ((midR k).2.1 == 0) = false := by simpa using hc
    rw [if_neg hc]
    simp only [hz, Bool.and_false, Bool.false_and]
theorem AllEnd.objsK {w w' : World} {r : List LObj × Int × Nat} {e : Ending} (h : AllEnd w r e w') : ∃ a n c, e = .returned (.tuple #[.agg #[.slice a n c], .int .i64 r.2.1, .int .i64 (r.2.2 : Nat)]) ∧ ObjsAt w' w.heap.size w'.heap.size a n r.1 ∧ Below w.heap.size w w' := by
  obtain ⟨h, hb⟩ := h
  rcases h with ⟨h0, he⟩ | ⟨b, c, vs, he, ho⟩
  · exact ⟨none, 0, 0, he, by rw [h0]; exact ⟨rfl, by simp, fun h => absurd rfl h⟩, hb⟩
  · exact ⟨_, _, c, he, ho.to_objs, hb⟩
theorem okSizes {os : List LObj} (hs : specOk os = true) : Sizes os 1048576 := fun o ho => by have := (ok_bd hs o ho).2.2; omega
theorem allR_sizes (os : List LObj) (ops : List LOp) : Sizes (allR os ops).1 1048576 := by
  rcases allR_ok os ops with h | h
  · rw [h]; intro o ho; cases ho
  · exact okSizes h
/-- A box in use. -/
structure HeldB (w wx : World) (q : Nat) (t : TypeId) (vs : List Value) : Prop where
  below : Below w.heap.size w wx
  box : BoxI wx q t vs
  lo : w.heap.size ≤ q
theorem HeldB.next {w wx wy : World} {q : Nat} {t : TypeId} {vs : List Value} (h : HeldB w wx q t vs) (hb : Below wx.heap.size wx wy) : HeldB w wy q t vs := ⟨h.below.trans (hb.mono h.below.size), h.box.next hb h.box.lt, h.lo⟩
theorem HeldB.drew {w wx : World} {q : Nat} {t : TypeId} {vs : List Value} (h : HeldB w wx q t vs) : HeldB w wx.drew q t vs := h.next (Below.refl _ _).drew
theorem HeldB.hi {w wx : World} {q : Nat} {t : TypeId} {vs : List Value} (h : HeldB w wx q t vs) : q < wx.heap.size := h.box.lt
theorem HeldB.new (w : World) (A : Array Value) (t : TypeId) : HeldB w (w.alloc (.cells A t)) w.heap.size t A.toList := ⟨(Below.refl _ _).alloc (Nat.le_refl _) _, BoxI.new rfl, Nat.le_refl _⟩
end Go.Proofs.YtloopeipheklpaaGreatDoor

/- ActAll of the program. -/
namespace Go.Proofs.YtloopeipheklpaaGreatDoor
open Go.RowKit


set_option maxHeartbeats 4000000 in
set_option maxRecDepth 20000 in
theorem implActAll (sn : Nat → Addr) (S0 : Nat) (t la : Option Addr) (n c m lc : Nat) (os : List LObj) (ops : List LOp) (L U L2 U2 : Nat) (w : World) (hS0 : S0 ≤ w.heap.size) (HS : Sents w S0 sn) (hS : Sizes os 1048576) (hU : U ≤ w.heap.size) (H : ObjsAt w L U t n os) (hU2 : U2 ≤ w.heap.size) (H2 : OpsAt w L2 U2 la m ops) :
    Calls Tryz.prog 118 #[.agg #[.slice t n c], .slice la m lc] w fun e w' => AllEnd w (allR os ops) e w' := by
  have hbd := H2.bd
  unfold maxLen at hbd
  have HLN : Hid (n = os.length) := H.len
  have HLM : Hid (m = ops.length) := H2.len
  have hHA : Hid (Below w.heap.size w ((w.alloc (.cells #[.slice t n c] 26)).alloc (.cells #[.slice none 0 0] 26))) := ((Below.refl _ _).alloc (Nat.le_refl _) _).alloc (by simp) _
  have hHX : Hid (((w.alloc (.cells #[.slice t n c] 26)).alloc (.cells #[.slice none 0 0] 26)).rowIs (w.heap.size + 1) 26 1 (zrow #[.slice none 0 0])) := by
    show World.rowIs _ _ _ _ _
    have := zrow_new (w.alloc (.cells #[.slice t n c] 26)) #[.slice none 0 0] 26
    simpa using this
  have hHT : Hid (((w.alloc (.cells #[.slice t n c] 26)).alloc (.cells #[.slice none 0 0] 26)).cell? ⟨w.heap.size, 0, none⟩ = some (.slice t n c)) := by show _ = _; simp [go_sem]
  go_enter Tryz.func118, Tryz.ntmps118
  go_wp2_with fail
  refine (implTreeOk _ _ _ os L U _ (Nat.le_trans hU hHA.out.size) (H.below hHA.out hU)).mono ?_
  rintro e w1 ⟨rfl, hb1⟩
  have hz1 := hb1.size
  simp at hz1
  have HB1 : Hid (Below w.heap.size w w1) := hHA.out.trans (hb1.mono hHA.out.size)
  have HX1 : Hid (w1.rowIs (w.heap.size + 1) 26 1 (zrow #[.slice none 0 0])) := hHX.out.of_block (hb1.block _ hHX.out.lt)
  have q1 : w1.cell? ⟨w.heap.size, 0, none⟩ = some (.slice t n c) := by rw [hb1.cell (by simp; omega)]; exact hHT.out
  have p1 := HX1.out.cell (i := 0) (by omega)
  have z1 := HX1.out.frozen 0
  clear hb1 hHA hHX hHT
  rcases ts : specOk os with _ | _
  · have HV : Hid (allR os ops = ([], 8, 0)) := by show _ = _; unfold allR; rw [if_neg (by rw [ts]; simp)]
    clear ts
    go_wp2_with fail
    refine bodyPost_ret (v := Value.tuple #[.agg #[.slice none 0 0], .int .i64 8, .int .i64 0]) (by rw [results, Tryz.results118]; simp [go_sem, World.cell?_setCell_same _ _ _ p1]) rfl ⟨.inl ⟨by rw [HV.out], by rw [HV.out]; rfl⟩, HB1.out.setCell (by show _ ≤ _ + 1; omega) _⟩
  have HOK : Hid (specOk os = true) := ts
  have HN : Hid (n = 32) := by show _ = _; rw [HLN.out]; exact ok_len ts
  clear ts
  go_wp2_with fail
  refine (listOk_any la m lc ops L2 U2 w1 (Nat.le_trans hU2 HB1.out.size) (H2.below HB1.out hU2)).mono ?_
  rintro e w2 ⟨rfl, hb2⟩
  have HB2 : Hid (Below w.heap.size w w2) := HB1.out.trans (hb2.mono HB1.out.size)
  have HX2 : Hid (w2.rowIs (w.heap.size + 1) 26 1 (zrow #[.slice none 0 0])) := HX1.out.of_block (hb2.block _ HX1.out.lt)
  have q2 : w2.cell? ⟨w.heap.size, 0, none⟩ = some (.slice t n c) := by rw [hb2.cell (by simp; omega)]; exact q1
  have p2 := HX2.out.cell (i := 0) (by omega)
  have z2 := HX2.out.frozen 0
  have hz2 := hb2.size
  clear hb2 q1 p1 z1 HB1 HX1
  rcases tf : formsB ops with _ | _
  · have HV : Hid (allR os ops = ([], 8, 0)) := by show _ = _; unfold allR; rw [if_neg (by rw [tf]; simp)]
    clear tf
    go_wp2_with fail
    refine bodyPost_ret (v := Value.tuple #[.agg #[.slice none 0 0], .int .i64 8, .int .i64 0]) (by rw [results, Tryz.results118]; simp [go_sem, World.cell?_setCell_same _ _ _ p2]) rfl ⟨.inl ⟨by rw [HV.out], by rw [HV.out]; rfl⟩, HB2.out.setCell (by show _ ≤ _ + 1; omega) _⟩
  have HV : Hid (allR os ops = allGo os os ops 0) := by show _ = _; unfold allR; rw [if_pos ⟨HOK.out, tf⟩]
  have HFM : Hid (formsB ops = true) := tf
  have HTR := fun w hU H => trialOf_any t n c os L U w (by rw [HN.out]; omega) (by rw [HN.out]; omega) hS hU H
  have HCT := fun w hU H => copyTree_any t n c os L U w (by rw [HN.out]; omega) (by rw [HN.out]; omega) hS hU H
  clear tf
  go_wp2_with fail
  refine (HTR w2 (Nat.le_trans hU HB2.out.size) (H.below HB2.out hU)).mono ?_
  rintro e w3 ⟨⟨b1, c1, vs, rfl, HOW⟩, hb3⟩
  have HX3 := HX2.out.of_block (hb3.block _ HX2.out.lt)
  have q3 : w3.cell? ⟨w.heap.size, 0, none⟩ = some (.slice t n c) := by rw [hb3.cell (by simp; omega)]; exact q2
  have HB3 := HB2.out.trans (hb3.mono HB2.out.size)
  have hz3 := hb3.size
  have hA2 : Below w3.heap.size w3 (w3.alloc (.cells #[.slice (some ⟨b1, 0, none⟩) n c1] 235)) := (Below.refl _ _).alloc (Nat.le_refl _) _
  have HZ0 : Hid (LZ w (w3.alloc (.cells #[.slice (some ⟨b1, 0, none⟩) n c1] 235)) w3.heap.size 235 t n c b1 c1) :=
    ⟨HB3.trans (hA2.mono HB3.size), by rw [hA2.cell (by simp; omega)]; exact q3, ⟨_, HX3.of_block (hA2.block _ HX3.lt)⟩, by simp [go_sem], ⟨_, zrow_new w3 #[.slice (some ⟨b1, 0, none⟩) n c1] 235⟩, by omega, by simp⟩
  have HT0 : Hid (OwnT (w3.alloc (.cells #[.slice (some ⟨b1, 0, none⟩) n c1] 235)) (w.heap.size + 1 + 1) b1 c1 os vs) := (HOW.base' (by omega)).below hA2
  obtain ⟨T, hT⟩ : ∃ T, w3.heap.size = T := ⟨_, rfl⟩
  have HZT : Hid (LZ w (w3.alloc (.cells #[.slice (some ⟨b1, 0, none⟩) n c1] 235)) T 235 t n c b1 c1) := by have h9 := HZ0.out; rw [hT] at h9; exact h9
  clear HZ0 HOW hA2 HB3 HX3 q3 hb3 q2 p2 z2 HX2 HB2
  go_wp2_with fail
  clear hT hz1 hz2 hz3
  go_loopg [24] m (fun g i wr => ∃ j : Nat, j ≤ m ∧ Hid (g = m - j) ∧ i = .int .i64 j ∧ ∃ os' vs', Hid (LZ w wr T 235 t n c b1 c1) ∧ Hid (OwnT wr (w.heap.size + 1 + 1) b1 c1 os' vs') ∧ Hid (specOk os' = true) ∧ Hid (allGo os os ops 0 = allGo os os' (ops.drop j) j))
  case atStart => exact ⟨0, Nat.zero_le _, rfl, rfl, os, vs, HZT, HT0, HOK, by show _ = _; rw [List.drop_zero]⟩
  case round =>
    obtain ⟨j, hj, hg, rfl, os1, vs1, HZ, HT, HS1, HG⟩ := hrel
    clear HZT HT0
    by_cases hlt : j < m
    · obtain ⟨lb, off, ha, hL, hlb0, hcc⟩ := H2.at_ (by omega)
      obtain ⟨o, he, hsz, hat⟩ := hcc j hlt
      have hlb : lb < w.heap.size := by omega
      obtain ⟨d0, d1, d2, d3, d4, d5, d6⟩ := hat.of_block (HZ.out.below.block lb hlb)
      have hltI : (j : Int) < (m : Int) := by omega
      have hok : opOk o = true := forms_op HFM.out he
      have HL : Hid (os1.length = n) := by show _ = _; rw [HN.out]; exact ok_len HS1.out
      have hDO := fun (w' : World) (b c : Nat) hU HS' hB H => attempt_any sn S0 (w.heap.size + 1 + 1) b c n o os1 vs1 w' hU HS' hB HS1.out HN.out hsz H hok
      obtain ⟨r, hr⟩ : ∃ r, r = actDo os1 o := ⟨_, rfl⟩
      rw [← hr] at hDO
      have HRL : Hid (r.1.length = n) := by show _ = _; rw [hr, actDo_len]; exact HL.out
      have HRO : Hid (r.2 = 0 → specOk r.1 = true) := fun h => by rw [hr]; exact act_ok HS1.out hok (by rw [← hr]; exact h)
      have HG1 : Hid (allGo os os ops 0 = if r.2 = 0 then allGo os r.1 (ops.drop (j + 1)) (j + 1) else (os, r.2, j)) := by show _ = _; rw [HG.out, allGo_step os os1 he, ← hr]
      have hal : Below wr.heap.size wr (wr.alloc (.cells #[.int .i64 o.kind, .int .i64 o.dir, .string o.name, .int .i64 o.dir2, .string o.name2, .int .i64 o.id, .string o.text] 130)) := (Below.refl _ _).alloc (Nat.le_refl _) _
      have HZ6 : Hid (LZ w (wr.alloc (.cells #[.int .i64 o.kind, .int .i64 o.dir, .string o.name, .int .i64 o.dir2, .string o.name2, .int .i64 o.id, .string o.text] 130)) T 235 t n c b1 c1) := HZ.out.next hal
      have HT6 : Hid (OwnT (wr.alloc (.cells #[.int .i64 o.kind, .int .i64 o.dir, .string o.name, .int .i64 o.dir2, .string o.name2, .int .i64 o.id, .string o.text] 130)) (w.heap.size + 1 + 1) b1 c1 os1 vs1) := HT.out.below hal
      have y0 : ∀ ob : Obj, (wr.alloc ob).cell? ⟨T, 0, none⟩ = some (.slice (some ⟨b1, 0, none⟩) n c1) := fun ob => (HZ.out.next ((Below.refl _ _).alloc (Nat.le_refl _) ob)).x
      subst ha
      clear hat hcc he hr HG hok hal
      go_wp2_with fail
      refine (hDO _ b1 c1 (by omega) (HS.below HZ6.out.below hS0) (by have := HZ6.out.lo; have := HZ6.out.lt; omega) HT6.out).mono ?_
      rintro e w4 ⟨k, vs4, hk1, hk2, rfl, hP⟩
      have HZ7 : Hid (LZ w w4 T 235 t n c b1 c1) := HZ6.out.call (by decide) HL.out HT6.out hP.below hP.kt
      have HT7 : Hid (OwnT w4 (w.heap.size + 1 + 1) b1 c1 r.1 vs4) := hP.own
      have HSE : Hid (Sents w4 S0 sn) := HS.below HZ7.out.below hS0
      clear HZ6 HT6 hP hDO HZ HT d0 d1 d2 d3 d4 d5 d6 y0
      rcases k with _ | k
      · have HG2 : Hid (allGo os os ops 0 = allGo os r.1 (ops.drop (j + 1)) (j + 1)) := by show _ = _; rw [HG1.out, if_pos (by simpa using hk1)]
        have HS2 : Hid (specOk r.1 = true) := HRO.out (by simpa using hk1)
        clear hk1 HG1 HRO
        simp only [errV]
        go_wp2_with fail
        go_roundg (m - (j + 1))
        case measure => have := hg.out; omega
        case rel => exact ⟨j + 1, by omega, rfl, by go_num, r.1, vs4, HZ7, HT7, HS2, HG2⟩
      · have HG2 : Hid (allGo os os ops 0 = (os, ((k + 1 : Nat) : Int), j)) := by show _ = _; rw [HG1.out, if_neg (by rw [hk1]; omega), hk1]
        have HAC := actCode_any sn S0 (k + 1) w4
        clear hk1 HG1 HRO HT7
        have y0 := HZ7.out.t
        have hAC := fun w' H => actCode_any sn S0 (k + 1) w' hk2 H
        simp only [errV] at hAC ⊢
        clear HAC
        go_wp2_with fail
        refine (HCT w4 (Nat.le_trans hU HZ7.out.below.size) (H.below HZ7.out.below hU)).mono ?_
        rintro e w8 ⟨⟨b8, c8, vs8, rfl, HOW⟩, hb8⟩
        obtain ⟨f8, r8⟩ := (HZ7.out.next hb8).r
        have z8 := r8.frozen 0
        have q8 := r8.cell (i := 0) (by omega)
        have hz8 := HZ7.out.below.size
        have HSE8 : Hid (Sents w8 S0 sn) := HS.below (HZ7.out.next hb8).below hS0
        go_wp2_with fail
        refine (hAC _ HSE8.out).mono ?_
        rintro e w9 ⟨rfl, rfl⟩
        go_wp2_with fail
        refine bodyPost_ret (v := Value.tuple #[.agg #[.slice (some ⟨b8, 0, none⟩) n c8], .int .i64 ((k + 1 : Nat) : Int), .int .i64 j]) (by rw [results, Tryz.results118]; simp [go_sem, World.cell?_setCell_same _ _ _ q8]) rfl ⟨.inr ⟨b8, c8, vs8, by rw [HV.out, HG2.out, HLN.out], ?_⟩, ?_⟩
        · rw [HV.out, HG2.out]; exact (HOW.setBox ⟨_, r8⟩ 0 _).base' (by omega)
        · exact ((HZ7.out.next hb8).below).setCell (by show _ ≤ _ + 1; omega) _
    · have HG2 : Hid (allGo os os ops 0 = (os1, 0, m)) := by
        show _ = _
        have : j = m := by omega
        subst this
        rw [HG.out, allGo_end _ _ (by rw [HLM.out]; exact Nat.le_refl _)]
      have HL : Hid (os1.length = n) := by show _ = _; rw [HN.out]; exact ok_len HS1.out
      have hjm : ¬ ((j : Int) < (m : Int)) := by omega
      have y0 := HZ.out.x
      obtain ⟨f8, r8⟩ := HZ.out.r
      have z8 := r8.frozen 0
      have q8 := r8.cell (i := 0) (by omega)
      clear HG
      go_wp2_with fail
      refine bodyPost_ret (v := Value.tuple #[.agg #[.slice (some ⟨b1, 0, none⟩) n c1], .int .i64 0, .int .i64 m]) (by rw [results, Tryz.results118]; simp [go_sem, World.cell?_setCell_same _ _ _ q8]) rfl ⟨.inr ⟨b1, c1, vs1, by rw [HV.out, HG2.out, HL.out], ?_⟩, ?_⟩
      · rw [HV.out, HG2.out]; exact (HT.out.setBox ⟨_, r8⟩ 0 _).base' (by omega)
      · exact (HZ.out.below).setCell (by show _ ≤ _ + 1; omega) _
end Go.Proofs.YtloopeipheklpaaGreatDoor
