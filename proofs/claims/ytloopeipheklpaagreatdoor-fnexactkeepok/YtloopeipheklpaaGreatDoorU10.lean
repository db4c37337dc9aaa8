/- Lemmas that the proofs of this seat share: MsgA2, WldBase, WldA, WldS, WldT, WldE, Path. -/
import Derived.Test.YtloopeipheklpaaGreatDoorU04
import Derived.Test.YtloopeipheklpaaGreatDoorU07
import Derived.Test.YtloopeipheklpaaGreatDoorU09
import Derived.Deep.Strs
import Derived.Lib.SmallJoins
/- Logs as arguments of a law: in a box of their own. -/
namespace Go.Proofs.YtloopeipheklpaaGreatDoor
open Go.RowKit

/-- The argument in its box, all else as it was. -/
structure Held1 (w wx : World) (q s : Int) (a : Option Addr) (n c : Nat) (a' : Option Addr) (n' c' : Nat) : Prop where
  below : Below w.heap.size w wx
  box : LogBox wx w.heap.size q s a n c a' n' c'
  size : w.heap.size < wx.heap.size
theorem Held1.next {w wx wy : World} {q s : Int} {a : Option Addr} {n c : Nat} {a' : Option Addr} {n' c' : Nat} (h : Held1 w wx q s a n c a' n' c') (hb : Below wx.heap.size wx wy) : Held1 w wy q s a n c a' n' c' :=
  ⟨h.below.trans (hb.mono h.below.size), h.box.of (hb.block _ h.size), by have := hb.size; have := h.size; omega⟩
theorem Held1.new (w : World) (q s : Int) (a : Option Addr) (n c : Nat) (a' : Option Addr) (n' c' : Nat) (t : TypeId) : Held1 w (w.alloc (Obj.cells #[.int .i64 q, .int .i64 s, .slice a n c, .slice a' n' c'] t)) q s a n c a' n' c' :=
  ⟨(Below.refl _ _).alloc (Nat.le_refl _) _, ⟨by simp [go_sem], by simp [go_sem], by simp [go_sem], by simp [go_sem]⟩, by simp⟩
theorem LogBox.new (w : World) (q s : Int) (a : Option Addr) (n c : Nat) (a' : Option Addr) (n' c' : Nat) (t : TypeId) : LogBox (w.alloc (Obj.cells #[.int .i64 q, .int .i64 s, .slice a n c, .slice a' n' c'] t)) w.heap.size q s a n c a' n' c' := ⟨by simp [go_sem], by simp [go_sem], by simp [go_sem], by simp [go_sem]⟩
theorem LogBox.drew {W : World} {q : Nat} {x y : Int} {a : Option Addr} {n c : Nat} {a' : Option Addr} {n' c' : Nat} (h : LogBox W q x y a n c a' n' c') : LogBox W.drew q x y a n c a' n' c' := h.of rfl
theorem LogAt.drew {W : World} {L U : Nat} {x y : Int} {a : Option Addr} {n : Nat} {a' : Option Addr} {n' : Nat} {l : LLog} (h : LogAt W L U x y a n a' n' l) : LogAt W.drew L U x y a n a' n' l := ⟨h.q, h.s, h.b.blocks fun _ _ _ => rfl, h.o.blocks fun _ _ _ => rfl⟩
end Go.Proofs.YtloopeipheklpaaGreatDoor

/- Messages: in memory; contracts of the law's szMsg, toMsg, eqMsg. -/
namespace Go.Proofs.YtloopeipheklpaaGreatDoor
open Go.RowKit Go.ChangeShapes Go.WideShapes

/-- What a message's log and tree are. -/
structure MsgAt (w : World) (L U : Nat) (q s : Int) (ba : Option Addr) (bn : Nat) (oa : Option Addr) (on : Nat) (ta : Option Addr) (tn : Nat) (l : LLog) (os : List LObj) : Prop where
  log : LogAt w L U q s ba bn oa on l
  tree : ObjsAt w L U ta tn os
theorem MsgAt.below {w w' : World} {L U B : Nat} {q s : Int} {ba oa ta : Option Addr} {bn on tn : Nat} {l : LLog} {os : List LObj} (h : MsgAt w L U q s ba bn oa on ta tn l os) (hb : Below B w w') (hU : U ≤ B) : MsgAt w' L U q s ba bn oa on ta tn l os := ⟨h.log.below hb hU, h.tree.below hb hU⟩
theorem MsgAt.wide {w : World} {L U L' U' : Nat} {q s : Int} {ba oa ta : Option Addr} {bn on tn : Nat} {l : LLog} {os : List LObj} (h : MsgAt w L U q s ba bn oa on ta tn l os) (hL : L' ≤ L) (hU : U ≤ U') : MsgAt w L' U' q s ba bn oa on ta tn l os := ⟨h.log.wide hL hU, h.tree.wide hL hU⟩

theorem LogAt.blocks_ {w w' : World} {L U : Nat} {q s : Int} {a a' : Option Addr} {n n' : Nat} {l : LLog} (h : LogAt w L U q s a n a' n' l) (hb : ∀ b, L ≤ b → b < U → w'.heap[b]? = w.heap[b]?) : LogAt w' L U q s a n a' n' l := ⟨h.q, h.s, h.b.blocks hb, h.o.blocks hb⟩

/-- A message in a box. -/
structure MBox (W : World) (p : Nat) (k who seq q s : Int) (ba : Option Addr) (bn bc : Nat) (oa : Option Addr) (on oc : Nat) (code : Int) (ta : Option Addr) (tn tc : Nat) : Prop where
  c0 : W.cell? ⟨p, 0, none⟩ = some (.int .i64 k)
  c1 : W.cell? ⟨p, 1, none⟩ = some (.int .i64 who)
  c2 : W.cell? ⟨p, 2, none⟩ = some (.int .i64 seq)
  c3 : W.cell? ⟨p, 3, none⟩ = some (.int .i64 q)
  c4 : W.cell? ⟨p, 4, none⟩ = some (.int .i64 s)
  c5 : W.cell? ⟨p, 5, none⟩ = some (.slice ba bn bc)
  c6 : W.cell? ⟨p, 6, none⟩ = some (.slice oa on oc)
  c7 : W.cell? ⟨p, 7, none⟩ = some (.int .i64 code)
  c8 : W.cell? ⟨p, 8, none⟩ = some (.slice ta tn tc)
theorem MBox.of {W W' : World} {p : Nat} {k who seq q s : Int} {ba : Option Addr} {bn bc : Nat} {oa : Option Addr} {on oc : Nat} {code : Int} {ta : Option Addr} {tn tc : Nat} (h : MBox W p k who seq q s ba bn bc oa on oc code ta tn tc) (hb : W'.heap[p]? = W.heap[p]?) : MBox W' p k who seq q s ba bn bc oa on oc code ta tn tc := by
  have hc : ∀ j, W'.cell? ⟨p, j, none⟩ = W.cell? ⟨p, j, none⟩ := fun j => World.cell?_of_block (w := W) hb
  exact ⟨by rw [hc]; exact h.c0, by rw [hc]; exact h.c1, by rw [hc]; exact h.c2, by rw [hc]; exact h.c3, by rw [hc]; exact h.c4, by rw [hc]; exact h.c5, by rw [hc]; exact h.c6, by rw [hc]; exact h.c7, by rw [hc]; exact h.c8⟩
/-- A message in a box that is new, all else as it was. -/
structure HeldM (w wx : World) (p : Nat) (k who seq q s : Int) (ba : Option Addr) (bn bc : Nat) (oa : Option Addr) (on oc : Nat) (code : Int) (ta : Option Addr) (tn tc : Nat) : Prop where
  below : Below w.heap.size w wx
  box : MBox wx p k who seq q s ba bn bc oa on oc code ta tn tc
  lo : w.heap.size ≤ p
  hi : p < wx.heap.size
theorem HeldM.next {w wx wy : World} {p : Nat} {k who seq q s : Int} {ba : Option Addr} {bn bc : Nat} {oa : Option Addr} {on oc : Nat} {code : Int} {ta : Option Addr} {tn tc : Nat} (h : HeldM w wx p k who seq q s ba bn bc oa on oc code ta tn tc) (hb : Below wx.heap.size wx wy) : HeldM w wy p k who seq q s ba bn bc oa on oc code ta tn tc :=
  ⟨h.below.trans (hb.mono h.below.size), h.box.of (hb.block _ h.hi), h.lo, by have := hb.size; have := h.hi; omega⟩
theorem HeldM.new (w : World) (k who seq q s : Int) (ba : Option Addr) (bn bc : Nat) (oa : Option Addr) (on oc : Nat) (code : Int) (ta : Option Addr) (tn tc : Nat) (t : TypeId) : HeldM w (w.alloc (Obj.cells #[.int .i64 k, .int .i64 who, .int .i64 seq, .int .i64 q, .int .i64 s, .slice ba bn bc, .slice oa on oc, .int .i64 code, .slice ta tn tc] t)) w.heap.size k who seq q s ba bn bc oa on oc code ta tn tc :=
  ⟨(Below.refl _ _).alloc (Nat.le_refl _) _, ⟨by simp [go_sem], by simp [go_sem], by simp [go_sem], by simp [go_sem], by simp [go_sem], by simp [go_sem], by simp [go_sem], by simp [go_sem], by simp [go_sem]⟩, Nat.le_refl _, by simp⟩
theorem HeldM.drew {w wx : World} {p : Nat} {k who seq q s : Int} {ba : Option Addr} {bn bc : Nat} {oa : Option Addr} {on oc : Nat} {code : Int} {ta : Option Addr} {tn tc : Nat} (h : HeldM w wx p k who seq q s ba bn bc oa on oc code ta tn tc) : HeldM w wx.drew p k who seq q s ba bn bc oa on oc code ta tn tc := h.next (Below.refl _ _).drew

section
variable {H : Type} {enc : TypeId × Value → H} {w : World} {spare : Nat → Bool} {held : Bool}
end

end Go.Proofs.YtloopeipheklpaaGreatDoor

/- What worlds are built on. -/

/- Lists of what has parts of its own, in memory; clients, messages, logs, what was told, worlds: read as arguments. -/
namespace Go.Proofs.YtloopeipheklpaaGreatDoor
open Go.RowKit Go.ChangeShapes Go.WideShapes

/-- A list in memory: c cells an element, E says what an element is. -/
structure RowsAt {α : Type} (c : Nat) (E : World → Nat → Nat → List Value → α → Prop) (w : World) (L U : Nat) (a : Option Addr) (n : Nat) (xs : List α) : Prop where
  len : n = xs.length
  bd : n ≤ maxLen
  at_ : n ≠ 0 → ∃ b off, a = some ⟨b, off, none⟩ ∧ L ≤ b ∧ b < U ∧ ∀ i, i < n → ∃ x vs, xs[i]? = some x ∧ (∀ k v, vs[k]? = some v → w.cell? ⟨b, off + i * c + k, none⟩ = some v) ∧ E w L U vs x
/-- What is asked of what an element is. -/
structure Elt {α : Type} (E : World → Nat → Nat → List Value → α → Prop) : Prop where
  blocks : ∀ {w w' L U vs x}, E w L U vs x → (∀ b, L ≤ b → b < U → w'.heap[b]? = w.heap[b]?) → E w' L U vs x
  wide : ∀ {w L U L' U' vs x}, E w L U vs x → L' ≤ L → U ≤ U' → E w L' U' vs x
theorem RowsAt.blocks {α : Type} {c : Nat} {E : World → Nat → Nat → List Value → α → Prop} {w w' : World} {L U : Nat} {a : Option Addr} {n : Nat} {xs : List α} (h : RowsAt c E w L U a n xs) (K : Elt E) (hb : ∀ b, L ≤ b → b < U → w'.heap[b]? = w.heap[b]?) : RowsAt c E w' L U a n xs :=
  ⟨h.len, h.bd, fun hn => by
    obtain ⟨b, off, ha, hL, hbU, hc⟩ := h.at_ hn
    refine ⟨b, off, ha, hL, hbU, fun i hi => ?_⟩
    obtain ⟨x, vs, he, h0, h1⟩ := hc i hi
    have hk := hb b hL hbU
    exact ⟨x, vs, he, fun k v hv => by rw [World.cell?_of_block (w := w) hk]; exact h0 k v hv, K.blocks h1 hb⟩⟩
theorem RowsAt.below {α : Type} {c : Nat} {E : World → Nat → Nat → List Value → α → Prop} {w w' : World} {L U B : Nat} {a : Option Addr} {n : Nat} {xs : List α} (h : RowsAt c E w L U a n xs) (K : Elt E) (hb : Below B w w') (hU : U ≤ B) : RowsAt c E w' L U a n xs :=
  h.blocks K fun b _ hbU => hb.block b (by omega)
theorem RowsAt.wide {α : Type} {c : Nat} {E : World → Nat → Nat → List Value → α → Prop} {w : World} {L U L' U' : Nat} {a : Option Addr} {n : Nat} {xs : List α} (h : RowsAt c E w L U a n xs) (K : Elt E) (hL : L' ≤ L) (hU : U ≤ U') : RowsAt c E w L' U' a n xs :=
  ⟨h.len, h.bd, fun hn => by
    obtain ⟨b, off, ha, hL, hbU, hc⟩ := h.at_ hn
    refine ⟨b, off, ha, by omega, by omega, fun i hi => ?_⟩
    obtain ⟨x, vs, he, h0, h1⟩ := hc i hi
    exact ⟨x, vs, he, h0, K.wide h1 (by omega) hU⟩⟩
theorem RowsAt.none_ {α : Type} (c : Nat) (E : World → Nat → Nat → List Value → α → Prop) (w : World) (L U : Nat) (a : Option Addr) : RowsAt c E w L U a 0 [] := ⟨rfl, by simp, fun h => absurd rfl h⟩
theorem Elt.below {α : Type} {E : World → Nat → Nat → List Value → α → Prop} (K : Elt E) {w w' : World} {L U B : Nat} {vs : List Value} {x : α} (h : E w L U vs x) (hb : Below B w w') (hU : U ≤ B) : E w' L U vs x := K.blocks h fun b _ hbU => hb.block b (by omega)
section
variable {H : Type} {enc : TypeId × Value → H} {w : World} {spare : Nat → Bool} {held : Bool}
theorem open_rows {α : Type} {E : World → Nat → Nat → List Value → α → Prop} {t e : TypeId} {c : Nat} (ht : Tryz.prog.underlying t = some (.slice e)) (ce : Tryz.prog.cellsOf e = c) (hc : 0 < c) (hel : ∀ (fuel : Nat) (cs : List Value) (x : DataW H × List MemPlace), cs.length = c → DataW.trod enc Tryz.prog w 0 spare held fuel e cs = some x → ∃ y : α, E w 0 w.heap.size cs y) {fuel : Nat} {v : Value} {x : DataW H × List MemPlace} (h : DataW.trod enc Tryz.prog w 0 spare held fuel t [v] = some x) :
    ∃ a n k es, v = .slice a n k ∧ RowsAt c E w 0 w.heap.size a n es := by
  rcases Go.Deep.open_slice ht h with ⟨hcs, _⟩ | ⟨a, len, cap, m, n, D, Pl, hcs, _, hl, hm, hmm, _, hx⟩
  · simp at hcs
    exact ⟨none, 0, 0, [], hcs, RowsAt.none_ _ _ _ _ _ _⟩
  · simp at hcs
    have hlm : len ≤ m := by rw [hmm]; split <;> omega
    obtain ⟨es, hes, hp⟩ := list_of (n := len) (p := fun i (o : α) => ∃ vs : List Value, vs.length = c ∧ (∀ k v, vs[k]? = some v → w.cell? (a.add (i * c + k)) = some v) ∧ E w 0 w.heap.size vs o) (fun i hi => by
      obtain ⟨cs', h1, h2⟩ := hx i (by omega)
      rw [ce] at h1
      obtain ⟨_, hlen, hcell⟩ := World.cells?_some h1
      obtain ⟨y, hy⟩ := hel _ cs' _ hlen h2
      refine ⟨y, cs', hlen, fun k v hv => ?_, hy⟩
      have hk : k < c := by rw [← hlen]; exact (List.getElem?_eq_some_iff.1 hv).1
      have g0 := hcell k hk
      rw [Go.Deep.add_add] at g0
      rw [g0]
      exact hv)
    refine ⟨some a, len, cap, es, hcs, hes.symm, by omega, fun hn => ?_⟩
    obtain ⟨b, off, spot⟩ := a
    obtain ⟨_, _, vs0, hl0, c0, _⟩ := hp 0 (by omega)
    have c0 := c0 0 _ (List.getElem?_eq_getElem (by omega))
    have hspot : spot = none := by simpa [Addr.add] using World.cell?_spot c0
    subst hspot
    refine ⟨b, off, rfl, Nat.zero_le _, by have := cell_lt c0; simpa [Addr.add] using this, fun i hi => ?_⟩
    obtain ⟨o, ho, vs, hlen, q0, hE⟩ := hp i hi
    exact ⟨o, vs, ho, fun k v hv => by rw [Nat.add_assoc, ← addr_add]; exact q0 k v hv, hE⟩
end

/-- A list of what is done, as an element. -/
def OpsE (w : World) (L U : Nat) (vs : List Value) (ops : List LOp) : Prop := ∃ a n c, vs = [.slice a n c] ∧ OpsAt w L U a n ops
theorem eltOps : Elt OpsE := ⟨fun ⟨a, n, c, h, H⟩ hb => ⟨a, n, c, h, H.blocks hb⟩, fun ⟨a, n, c, h, H⟩ hL hU => ⟨a, n, c, h, H.wide hL hU⟩⟩
section
variable {H : Type} {enc : TypeId × Value → H} {w : World} {spare : Nat → Bool} {held : Bool}
theorem open_opss {fuel : Nat} {v : Value} {x : DataW H × List MemPlace} (h : DataW.trod enc Tryz.prog w 0 spare held fuel 61 [v] = some x) : ∃ a n k es, v = .slice a n k ∧ RowsAt 1 OpsE w 0 w.heap.size a n es :=
  open_rows Tryz.underlying61 (by kernel_rfl) (by omega) (fun fuel cs x hl h => by
    match cs, hl with
    | [v], _ =>
      obtain ⟨a, n, c, ops, e, hO⟩ := open_ops_at h
      exact ⟨ops, a, n, c, by rw [e], hO⟩) h
end

structure LKeep where
  who : Int
  seq : Int
  base : List LObj
  waits : Bool
  sent : List LOp
  list : List LOp
  shelf : List (List LOp)
/-- What a client is. -/
structure KeepAt (w : World) (L U : Nat) (q s : Int) (a : Option Addr) (n : Nat) (b : Bool) (a1 : Option Addr) (n1 : Nat) (a2 : Option Addr) (n2 : Nat) (a3 : Option Addr) (n3 : Nat) (k : LKeep) : Prop where
  q : q = k.who
  s : s = k.seq
  b : b = k.waits
  base : ObjsAt w L U a n k.base
  sent : OpsAt w L U a1 n1 k.sent
  list : OpsAt w L U a2 n2 k.list
  shelf : RowsAt 1 OpsE w L U a3 n3 k.shelf
theorem KeepAt.blocks {w w' : World} {L U : Nat} {q s : Int} {a a1 a2 a3 : Option Addr} {n n1 n2 n3 : Nat} {b : Bool} {k : LKeep} (h : KeepAt w L U q s a n b a1 n1 a2 n2 a3 n3 k) (hb : ∀ b, L ≤ b → b < U → w'.heap[b]? = w.heap[b]?) : KeepAt w' L U q s a n b a1 n1 a2 n2 a3 n3 k :=
  ⟨h.q, h.s, h.b, h.base.blocks_ hb, h.sent.blocks hb, h.list.blocks hb, h.shelf.blocks eltOps hb⟩
theorem KeepAt.wide {w : World} {L U L' U' : Nat} {q s : Int} {a a1 a2 a3 : Option Addr} {n n1 n2 n3 : Nat} {b : Bool} {k : LKeep} (h : KeepAt w L U q s a n b a1 n1 a2 n2 a3 n3 k) (hL : L' ≤ L) (hU : U ≤ U') : KeepAt w L' U' q s a n b a1 n1 a2 n2 a3 n3 k :=
  ⟨h.q, h.s, h.b, h.base.wide hL hU, h.sent.wide hL hU, h.list.wide hL hU, h.shelf.wide eltOps hL hU⟩
theorem KeepAt.below {w w' : World} {L U B : Nat} {q s : Int} {a a1 a2 a3 : Option Addr} {n n1 n2 n3 : Nat} {b : Bool} {k : LKeep} (h : KeepAt w L U q s a n b a1 n1 a2 n2 a3 n3 k) (hb : Below B w w') (hU : U ≤ B) : KeepAt w' L U q s a n b a1 n1 a2 n2 a3 n3 k := h.blocks fun b _ hbU => hb.block b (by omega)
def KeepE (w : World) (L U : Nat) (vs : List Value) (k : LKeep) : Prop := ∃ q s a n c b a1 n1 c1 a2 n2 c2 a3 n3 c3, vs = [.int .i64 q, .int .i64 s, .slice a n c, .bool b, .slice a1 n1 c1, .slice a2 n2 c2, .slice a3 n3 c3] ∧ KeepAt w L U q s a n b a1 n1 a2 n2 a3 n3 k
theorem eltKeep : Elt KeepE := ⟨fun ⟨q, s, a, n, c, b, a1, n1, c1, a2, n2, c2, a3, n3, c3, h, H⟩ hb => ⟨q, s, a, n, c, b, a1, n1, c1, a2, n2, c2, a3, n3, c3, h, H.blocks hb⟩, fun ⟨q, s, a, n, c, b, a1, n1, c1, a2, n2, c2, a3, n3, c3, h, H⟩ hL hU => ⟨q, s, a, n, c, b, a1, n1, c1, a2, n2, c2, a3, n3, c3, h, H.wide hL hU⟩⟩
section
variable {H : Type} {enc : TypeId × Value → H} {w : World} {spare : Nat → Bool} {held : Bool}
theorem open_keep_cells {fuel : Nat} {v0 v1 v2 v3 v4 v5 v6 : Value} {x : DataW H × List MemPlace} (h : DataW.trod enc Tryz.prog w 0 spare held fuel 63 [v0, v1, v2, v3, v4, v5, v6] = some x) :
    ∃ k, KeepE w 0 w.heap.size [v0, v1, v2, v3, v4, v5, v6] k := by
  have c3 : Tryz.prog.cellsOf 3 = 1 := by kernel_rfl
  have c4 : Tryz.prog.cellsOf 4 = 1 := by kernel_rfl
  have c38 : Tryz.prog.cellsOf 38 = 1 := by kernel_rfl
  have c36 : Tryz.prog.cellsOf 36 = 1 := by kernel_rfl
  have c60 : Tryz.prog.cellsOf 60 = 1 := by kernel_rfl
  have c61 : Tryz.prog.cellsOf 61 = 1 := by kernel_rfl
  obtain ⟨y0, y1, y2, y3, y4, y5, y6, n', t0, t1, t2, t3, t4, t5, t6⟩ := trod_struct7 Tryz.underlying63 h
  simp [c3, c4, c38, c60, c61] at t0 t1 t2 t3 t4 t5 t6
  obtain ⟨q, e0, _, _⟩ := DataW.trod_int Tryz.underlying3 t0
  obtain ⟨s, e1, _, _⟩ := DataW.trod_int Tryz.underlying3 t1
  obtain ⟨z0, n2, _, _, t7⟩ := trod_struct1 Tryz.underlying38 t2
  simp [c36] at t7
  obtain ⟨a, n, c, os, e2, hO⟩ := open_objs t7
  obtain ⟨b, e3, _, _⟩ := DataW.trod_bool Tryz.underlying4 t3
  obtain ⟨a1, n1, c1, l1, e4, h1⟩ := open_ops_at t4
  obtain ⟨a2, n2, c2, l2, e5, h2⟩ := open_ops_at t5
  obtain ⟨a3, n3, c3', l3, e6, h3⟩ := open_opss t6
  simp at e0 e1 e3
  subst e0 e1 e2 e3 e4 e5 e6
  exact ⟨⟨q, s, os, b, l1, l2, l3⟩, _, _, _, _, _, _, _, _, _, _, _, _, _, _, _, rfl, rfl, rfl, rfl, hO, h1, h2, h3⟩
set_option maxRecDepth 100000 in
theorem open_keep {r : Reach} {b0 : Nat} {v : Value} {d : DataW H} {p : List MemPlace} (hv : Value.okWide Tryz.prog w r b0 63 v) (h : DataW.Trod enc Tryz.prog w 0 spare held 63 v d p) :
    ∃ q s a n c b a1 n1 c1 a2 n2 c2 a3 n3 c3 k, v = .agg #[.int .i64 q, .int .i64 s, .slice a n c, .bool b, .slice a1 n1 c1, .slice a2 n2 c2, .slice a3 n3 c3] ∧ KeepAt w 0 w.heap.size q s a n b a1 n1 a2 n2 a3 n3 k := by
  obtain ⟨cs, rfl, hsz⟩ := okWide_struct Tryz.underlying63 hv
  obtain ⟨v0, v1, v2, v3, v4, v5, v6, rfl⟩ := array7 (hsz.trans (by kernel_rfl))
  obtain ⟨fuel, hf⟩ := h
  obtain ⟨k, q, s, a, n, c, b, a1, n1, c1, a2, n2, c2, a3, n3, c3, e, hk⟩ := open_keep_cells (by simpa [Value.cells] using hf)
  simp only [List.cons.injEq, and_true] at e
  obtain ⟨rfl, rfl, rfl, rfl, rfl, rfl, rfl⟩ := e
  exact ⟨q, s, a, n, c, b, a1, n1, c1, a2, n2, c2, a3, n3, c3, k, rfl, hk⟩
end
section
variable {H : Type} {enc : TypeId × Value → H} {w : World} {spare : Nat → Bool} {held : Bool}
end

def LogE (w : World) (L U : Nat) (vs : List Value) (l : LLog) : Prop := ∃ q s a n c a' n' c', vs = [.int .i64 q, .int .i64 s, .slice a n c, .slice a' n' c'] ∧ (n' ≤ c' ∧ c' ≤ maxLen) ∧ LogAt w L U q s a n a' n' l
theorem LogAt.blocksX {w w' : World} {L U : Nat} {q s : Int} {a a' : Option Addr} {n n' : Nat} {l : LLog} (h : LogAt w L U q s a n a' n' l) (hb : ∀ b, L ≤ b → b < U → w'.heap[b]? = w.heap[b]?) : LogAt w' L U q s a n a' n' l := ⟨h.q, h.s, h.b.blocks hb, h.o.blocks hb⟩
theorem eltLog : Elt LogE := ⟨fun ⟨q, s, a, n, c, a', n', c', h, hc, H⟩ hb => ⟨q, s, a, n, c, a', n', c', h, hc, H.blocksX hb⟩, fun ⟨q, s, a, n, c, a', n', c', h, hc, H⟩ hL hU => ⟨q, s, a, n, c, a', n', c', h, hc, H.wide hL hU⟩⟩
section
variable {H : Type} {enc : TypeId × Value → H} {w : World} {spare : Nat → Bool} {held : Bool}
end

structure LMsg where
  kind : Int
  who : Int
  seq : Int
  log : LLog
  code : Int
  tree : List LObj
def MsgE (w : World) (L U : Nat) (vs : List Value) (m : LMsg) : Prop := ∃ q s ba bn bc oa on oc ta tn tc, vs = [.int .i64 m.kind, .int .i64 m.who, .int .i64 m.seq, .int .i64 q, .int .i64 s, .slice ba bn bc, .slice oa on oc, .int .i64 m.code, .slice ta tn tc] ∧ (on ≤ oc ∧ oc ≤ maxLen) ∧ MsgAt w L U q s ba bn oa on ta tn m.log m.tree
theorem eltMsg : Elt MsgE := ⟨fun ⟨q, s, ba, bn, bc, oa, on, oc, ta, tn, tc, h, hc, H⟩ hb => ⟨q, s, ba, bn, bc, oa, on, oc, ta, tn, tc, h, hc, H.log.blocks_ hb, H.tree.blocks_ hb⟩, fun ⟨q, s, ba, bn, bc, oa, on, oc, ta, tn, tc, h, hc, H⟩ hL hU => ⟨q, s, ba, bn, bc, oa, on, oc, ta, tn, tc, h, hc, H.wide hL hU⟩⟩
section
variable {H : Type} {enc : TypeId × Value → H} {w : World} {spare : Nat → Bool} {held : Bool}
end

structure LTold where
  who : Int
  seq : Int
  code : Int
def ToldE (_ : World) (_ _ : Nat) (vs : List Value) (t : LTold) : Prop := vs = [.int .i64 t.who, .int .i64 t.seq, .int .i64 t.code]
theorem eltTold : Elt ToldE := ⟨fun h _ => h, fun h _ _ => h⟩
section
variable {H : Type} {enc : TypeId × Value → H} {w : World} {spare : Nat → Bool} {held : Bool}
end

structure LWorld where
  tree : List LObj
  dones : List LDone
  keeps : List LKeep
  net : List LMsg
  past : List LLog
  told : List LTold
/-- What a world is. -/
structure WorldAt (w : World) (L U : Nat) (a0 : Option Addr) (n0 : Nat) (a1 : Option Addr) (n1 : Nat) (a2 : Option Addr) (n2 : Nat) (a3 : Option Addr) (n3 : Nat) (a4 : Option Addr) (n4 : Nat) (a5 : Option Addr) (n5 : Nat) (x : LWorld) : Prop where
  tree : ObjsAt w L U a0 n0 x.tree
  dones : DonesAt w L U a1 n1 x.dones
  keeps : RowsAt 7 KeepE w L U a2 n2 x.keeps
  net : RowsAt 9 MsgE w L U a3 n3 x.net
  past : RowsAt 4 LogE w L U a4 n4 x.past
  told : RowsAt 3 ToldE w L U a5 n5 x.told
theorem WorldAt.blocks {w w' : World} {L U : Nat} {a0 a1 a2 a3 a4 a5 : Option Addr} {n0 n1 n2 n3 n4 n5 : Nat} {x : LWorld} (h : WorldAt w L U a0 n0 a1 n1 a2 n2 a3 n3 a4 n4 a5 n5 x) (hb : ∀ b, L ≤ b → b < U → w'.heap[b]? = w.heap[b]?) : WorldAt w' L U a0 n0 a1 n1 a2 n2 a3 n3 a4 n4 a5 n5 x :=
  ⟨h.tree.blocks_ hb, h.dones.blocks hb, h.keeps.blocks eltKeep hb, h.net.blocks eltMsg hb, h.past.blocks eltLog hb, h.told.blocks eltTold hb⟩
theorem WorldAt.wide {w : World} {L U L' U' : Nat} {a0 a1 a2 a3 a4 a5 : Option Addr} {n0 n1 n2 n3 n4 n5 : Nat} {x : LWorld} (h : WorldAt w L U a0 n0 a1 n1 a2 n2 a3 n3 a4 n4 a5 n5 x) (hL : L' ≤ L) (hU : U ≤ U') : WorldAt w L' U' a0 n0 a1 n1 a2 n2 a3 n3 a4 n4 a5 n5 x :=
  ⟨h.tree.wide hL hU, h.dones.wide hL hU, h.keeps.wide eltKeep hL hU, h.net.wide eltMsg hL hU, h.past.wide eltLog hL hU, h.told.wide eltTold hL hU⟩
theorem WorldAt.below {w w' : World} {L U B : Nat} {a0 a1 a2 a3 a4 a5 : Option Addr} {n0 n1 n2 n3 n4 n5 : Nat} {x : LWorld} (h : WorldAt w L U a0 n0 a1 n1 a2 n2 a3 n3 a4 n4 a5 n5 x) (hb : Below B w w') (hU : U ≤ B) : WorldAt w' L U a0 n0 a1 n1 a2 n2 a3 n3 a4 n4 a5 n5 x := h.blocks fun b _ hbU => hb.block b (by omega)
section
variable {H : Type} {enc : TypeId × Value → H} {w : World} {spare : Nat → Bool} {held : Bool}
end
end Go.Proofs.YtloopeipheklpaaGreatDoor

/- Sizes of lists of what has parts of its own, of clients, messages, logs, worlds. -/
namespace Go.Proofs.YtloopeipheklpaaGreatDoor
open Go.RowKit Go.ChangeShapes Go.WideShapes

def OpsSm (l : List LOp) : Prop := l.length ≤ 1048576
theorem szOpsE (a : Option Addr) (n c : Nat) (l : List LOp) (L U : Nat) (left : Int) (w : World) (h0 : 0 ≤ left) (h1 : left ≤ 1048576) (hU : U ≤ w.heap.size) (H : OpsAt w L U a n l) :
    Calls Tryz.prog 76 #[.slice a n c, .int .i64 left] w fun e w' => (∃ r : Int, e = .returned (.int .i64 r) ∧ (r = -1 ∨ (0 ≤ r ∧ r ≤ left ∧ OpsSm l))) ∧ Below w.heap.size w w' :=
  (szOpS_any a n c l L U left w h0 h1 hU H).mono fun e w' ⟨⟨r, h, h2⟩, hb⟩ => ⟨⟨r, h, by
    have := H.len
    unfold OpsSm
    omega⟩, hb⟩

set_option maxHeartbeats 1000000 in
theorem szOpSS_any (a : Option Addr) (n c : Nat) (xs : List (List LOp)) (L U : Nat) (left : Int) (w : World) (h0 : 0 ≤ left) (h1 : left ≤ 1048576) (hU : U ≤ w.heap.size) (H : RowsAt 1 OpsE w L U a n xs) :
    Calls Tryz.prog 77 #[.slice a n c, .int .i64 left] w fun e w' => (∃ r : Int, e = .returned (.int .i64 r) ∧ (r = -1 ∨ (0 ≤ r ∧ r ≤ left ∧ n ≤ 1048576 ∧ ∀ x ∈ xs, OpsSm x))) ∧ Below w.heap.size w w' := by
  have hbd := H.bd
  unfold maxLen at hbd
  by_cases h : left - n < 0
  · go_enter Tryz.func77, Tryz.ntmps77
    go_wp2
    go_ret
    exact ⟨⟨-1, rfl, .inl rfl⟩, Below.refl _ _⟩
  · go_enter Tryz.func77, Tryz.ntmps77
    go_wp2
    go_loopg [1, 5] n (fun k l i wr => ∃ j : Nat, j ≤ n ∧ Hid (k = n - j) ∧ i = .int .i64 j ∧ (∃ r : Int, l = .int .i64 r ∧ 0 ≤ r ∧ r ≤ 1048576 ∧ Hid (r ≤ left) ∧ Hid (∀ x ∈ xs.take j, OpsSm x)) ∧ Below w.heap.size w wr)
    case atStart => exact ⟨0, Nat.zero_le _, by show _ = _; omega, rfl, ⟨_, rfl, by omega, by omega, by show _ ≤ _; omega, by show ∀ _, _; simp⟩, Below.refl _ _⟩
    case round =>
      obtain ⟨j, hj, hk, rfl, ⟨r, rfl, hr0, hr1, hrl, hsm⟩, hb⟩ := hrel
      by_cases hlt : j < n
      · obtain ⟨b, off, ha, hL, hbU, hc⟩ := H.at_ (by omega)
        subst ha
        obtain ⟨x, vs, he, hc, hE⟩ := hc j hlt
        have HE : Hid (xs[j]? = some x) := he
        clear he
        obtain ⟨oa, on, oc, rfl, hO⟩ := hE
        have c0 := hc 0 _ rfl
        simp only [Nat.add_zero, Nat.mul_one] at c0
        rw [← hb.cell (by simp; omega)] at c0
        clear hc
        go_wp2_with fail
        refine (szOpsE _ _ _ _ L U _ _ hr0 hr1 (by have := hb.size; omega) (hO.below hb hU)).mono ?_
        rintro y w1 ⟨⟨r1, rfl, hr1'⟩, hb1⟩
        have HR : Hid (r1 = -1 ∨ 0 ≤ r1 ∧ r1 ≤ r ∧ OpsSm x) := hr1'
        clear hr1'
        by_cases hneg : r1 < 0
        · go_wp2_with fail
          go_ret
          exact ⟨⟨-1, rfl, .inl rfl⟩, hb.trans (hb1.mono hb.size)⟩
        · go_wp2_with fail
          go_roundg (n - (j + 1))
          case measure => have := hk.out; omega
          case rel =>
            have h2 := HR.out
            have h4 := hrl.out
            refine ⟨j + 1, by omega, rfl, by go_num, ⟨r1, rfl, by omega, by omega, by show _ ≤ _; omega, ?_⟩, hb.trans (hb1.mono hb.size)⟩
            show ∀ z ∈ xs.take (j + 1), OpsSm z
            intro z hz
            have hjl : j < xs.length := (List.getElem?_eq_some_iff.1 HE.out).1
            rw [List.take_succ_eq_append_getElem hjl] at hz
            rcases List.mem_append.1 hz with hz | hz
            · exact hsm.out z hz
            · obtain rfl : z = xs[j] := by simpa using hz
              have e : xs[j] = x := (List.getElem?_eq_some_iff.1 HE.out).2
              rw [e]
              rcases h2 with h2 | h2
              · omega
              · exact h2.2.2
      · go_wp2_with fail
        go_ret
        have h4 := hrl.out
        have h5 := hsm.out
        rw [List.take_of_length_le (by have := H.len; omega)] at h5
        exact ⟨⟨r, rfl, .inr ⟨hr0, h4, by omega, h5⟩⟩, hb⟩

/-- What of a client is small enough to be copied. -/
structure KeepSm (k : LKeep) : Prop where
  n : k.base.length ≤ 1048576
  base : Sizes k.base 1048576
  sent : OpsSm k.sent
  list : OpsSm k.list
  n3 : k.shelf.length ≤ 1048576
  shelf : ∀ l ∈ k.shelf, OpsSm l
theorem szTreeE (a : Option Addr) (n c : Nat) (os : List LObj) (L U : Nat) (left : Int) (w : World) (h0 : 0 ≤ left) (h1 : left ≤ 1048576) (hU : U ≤ w.heap.size) (H : ObjsAt w L U a n os) :
    Calls Tryz.prog 75 #[.agg #[.slice a n c], .int .i64 left] w fun e w' => (∃ r : Int, e = .returned (.int .i64 r) ∧ (r = -1 ∨ (0 ≤ r ∧ r ≤ left ∧ os.length ≤ 1048576 ∧ Sizes os 1048576))) ∧ Below w.heap.size w w' :=
  (szTree_any a n c os L U left w h0 h1 hU H).mono fun e w' ⟨⟨r, h, h2⟩, hb⟩ => ⟨⟨r, h, by
    rcases h2 with h2 | h2
    · exact .inl h2
    · have hl := H.len
      refine .inr ⟨h2.1, by omega, by omega, fun o ho => ?_⟩
      have : totO o ≤ totT os := totO_le ho
      unfold totO at this
      omega⟩, hb⟩
set_option maxHeartbeats 1000000 in
theorem szKeep_any (q s : Int) (a : Option Addr) (n c : Nat) (b : Bool) (a1 : Option Addr) (n1 c1 : Nat) (a2 : Option Addr) (n2 c2 : Nat) (a3 : Option Addr) (n3 c3 : Nat) (k : LKeep) (L U : Nat) (left : Int) (w : World) (h0 : 0 ≤ left) (h1 : left ≤ 1048576) (hU : U ≤ w.heap.size) (H : KeepAt w L U q s a n b a1 n1 a2 n2 a3 n3 k) :
    Calls Tryz.prog 29 #[.agg #[.int .i64 q, .int .i64 s, .slice a n c, .bool b, .slice a1 n1 c1, .slice a2 n2 c2, .slice a3 n3 c3], .int .i64 left] w fun e w' => (∃ r : Int, e = .returned (.int .i64 r) ∧ (r = -1 ∨ (0 ≤ r ∧ r ≤ left ∧ KeepSm k))) ∧ Below w.heap.size w w' := by
  have H0 := H.base
  have H1 := H.sent
  have H2 := H.list
  have H3 := H.shelf
  clear H
  go_enter Tryz.func29, Tryz.ntmps29
  go_wp2_with fail
  have hA : Below w.heap.size w (w.alloc (Obj.cells #[.int .i64 q, .int .i64 s, .slice a n c, .bool b, .slice a1 n1 c1, .slice a2 n2 c2, .slice a3 n3 c3] 63)) := (Below.refl _ _).alloc (Nat.le_refl _) _
  refine (szTreeE _ _ _ _ L U _ _ h0 h1 (by have := hA.size; omega) (H0.below hA hU)).mono ?_
  rintro x w1 ⟨⟨r, rfl, hr⟩, hb⟩
  have HR : Hid (r = -1 ∨ 0 ≤ r ∧ r ≤ left ∧ k.base.length ≤ 1048576 ∧ Sizes k.base 1048576) := hr
  clear hr
  have hb1 : Below w.heap.size w w1 := hA.trans (hb.mono (by simp))
  have g4 : w1.cell? ⟨w.heap.size, 4, none⟩ = some (.slice a1 n1 c1) := by rw [hb.cell (by simp)]; simp [go_sem]
  have g5 : w1.cell? ⟨w.heap.size, 5, none⟩ = some (.slice a2 n2 c2) := by rw [hb.cell (by simp)]; simp [go_sem]
  have g6 : w1.cell? ⟨w.heap.size, 6, none⟩ = some (.slice a3 n3 c3) := by rw [hb.cell (by simp)]; simp [go_sem]
  have hz : w.heap.size + 1 ≤ w1.heap.size := by have := hb.size; simp at this; omega
  clear hA hb
  by_cases hneg : r < 0
  · go_wp2_with fail
    go_ret
    exact ⟨⟨-1, rfl, .inl rfl⟩, hb1⟩
  go_wp2_with fail
  refine (szOpsE _ _ _ _ L U _ _ (by omega) (by have := HR.out; omega) (by have := hb1.size; omega) (H1.below hb1 hU)).mono ?_
  rintro x w2 ⟨⟨r2, rfl, hr2⟩, hb2⟩
  have HR2 : Hid (r2 = -1 ∨ 0 ≤ r2 ∧ r2 ≤ r ∧ OpsSm k.sent) := hr2
  clear hr2
  have hB2 : Below w.heap.size w w2 := hb1.trans (hb2.mono hb1.size)
  rw [← hb2.cell (by simp; omega)] at g5 g6
  have hz2 : w.heap.size + 1 ≤ w2.heap.size := by have := hb2.size; omega
  clear hb1 hb2 g4
  by_cases hneg2 : r2 < 0
  · go_wp2_with fail
    go_ret
    exact ⟨⟨-1, rfl, .inl rfl⟩, hB2⟩
  go_wp2_with fail
  refine (szOpsE _ _ _ _ L U _ _ (by omega) (by have := HR.out; have := HR2.out; omega) (by have := hB2.size; omega) (H2.below hB2 hU)).mono ?_
  rintro x w3 ⟨⟨r3, rfl, hr3⟩, hb3⟩
  have HR3 : Hid (r3 = -1 ∨ 0 ≤ r3 ∧ r3 ≤ r2 ∧ OpsSm k.list) := hr3
  clear hr3
  have hB3 : Below w.heap.size w w3 := hB2.trans (hb3.mono hB2.size)
  rw [← hb3.cell (by simp; omega)] at g6
  clear hB2 hb3 g5
  by_cases hneg3 : r3 < 0
  · go_wp2_with fail
    go_ret
    exact ⟨⟨-1, rfl, .inl rfl⟩, hB3⟩
  go_wp2_with fail
  refine (szOpSS_any _ _ _ _ L U _ _ (by omega) (by have := HR.out; have := HR2.out; have := HR3.out; omega) (by have := hB3.size; omega) (H3.below eltOps hB3 hU)).mono ?_
  rintro x w4 ⟨⟨r4, rfl, hr4⟩, hb4⟩
  have HR4 : Hid (r4 = -1 ∨ 0 ≤ r4 ∧ r4 ≤ r3 ∧ n3 ≤ 1048576 ∧ ∀ x ∈ k.shelf, OpsSm x) := hr4
  clear hr4
  have hB4 : Below w.heap.size w w4 := hB3.trans (hb4.mono hB3.size)
  clear hB3 hb4 g6
  by_cases hneg4 : r4 < 0
  · go_wp2_with fail
    go_ret
    exact ⟨⟨-1, rfl, .inl rfl⟩, hB4⟩
  go_wp2_with fail
  go_ret
  refine ⟨⟨r4, rfl, .inr ?_⟩, hB4⟩
  have q1 := HR.out.resolve_left (by omega)
  have q2 := HR2.out.resolve_left (by omega)
  have q3 := HR3.out.resolve_left (by omega)
  have q4 := HR4.out.resolve_left (by omega)
  exact ⟨by omega, by omega, q1.2.2.1, q1.2.2.2, q2.2.2, q3.2.2, by have := H3.len; omega, q4.2.2.2⟩

end Go.Proofs.YtloopeipheklpaaGreatDoor

/- Copies of lists of what has parts of its own, of clients, messages, logs, worlds. -/
namespace Go.Proofs.YtloopeipheklpaaGreatDoor
open Go.RowKit Go.ChangeShapes Go.WideShapes

theorem hidMk {p : Prop} (h : p) : Hid p := h
/-- A box of one's own: its cells one by one. -/
def BoxI (W : World) (p : Nat) (t : TypeId) (vs : List Value) : Prop := W.rowIs p t vs.length fun i => vs[i]?.getD default
theorem BoxI.new {W : World} {A : Array Value} {t : TypeId} {p : Nat} (hp : p = W.heap.size) : BoxI (W.alloc (.cells A t)) p t A.toList := by
  subst hp
  have h := World.rowIs_alloc W A t (fun i => A.toList[i]?.getD default) (fun i hi => by simp [hi])
  exact h
theorem BoxI.lt {W : World} {p : Nat} {t : TypeId} {vs : List Value} (h : BoxI W p t vs) : p < W.heap.size := World.rowIs.lt h
theorem BoxI.next {W W' : World} {p B : Nat} {t : TypeId} {vs : List Value} (h : BoxI W p t vs) (hb : Below B W W') (hp : p < B) : BoxI W' p t vs := World.rowIs.of_block h (hb.block p hp)
theorem BoxI.alloc {W : World} {p : Nat} {t : TypeId} {vs : List Value} (h : BoxI W p t vs) (o : Obj) : BoxI (W.alloc o) p t vs := World.rowIs.alloc h o
theorem BoxI.other {W : World} {p : Nat} {t : TypeId} {vs : List Value} (h : BoxI W p t vs) (a : Addr) (v : Value) (ha : p ≠ a.block) : BoxI (W.setCell a v) p t vs := World.rowIs.setOther h ha v
theorem BoxI.set {W : World} {p : Nat} {t : TypeId} {vs : List Value} (h : BoxI W p t vs) (k : Nat) (v : Value) : BoxI (W.setCell ⟨p, k, none⟩ v) p t (vs.set k v) := by
  unfold BoxI
  rw [List.length_set]
  refine (World.rowIs.set h k v).congr fun i hi => ?_
  rw [List.getElem?_set]
  by_cases e : i = k
  · subst e
    simp [hi]
  · rw [if_neg e, if_neg (fun h => e h.symm)]
theorem BoxI.get {W : World} {p : Nat} {t : TypeId} {vs : List Value} (h : BoxI W p t vs) (k : Nat) (v : Value) (hk : vs[k]? = some v) : W.cell? ⟨p, k, none⟩ = some v := by
  have hl : k < vs.length := (List.getElem?_eq_some_iff.1 hk).1
  have := World.rowIs.cell h hl
  rw [hk] at this
  exact this
theorem BoxI.fro {W : World} {p : Nat} {t : TypeId} {vs : List Value} (h : BoxI W p t vs) : ∀ k, W.frozen? ⟨p, k, none⟩ = false := World.rowIs.frozen h

theorem infoOpSS : (Tryz.prog.info? 66).map (fun i => (i.zero.map (·.cells), i.size, i.bytes)) = some (some #[.slice none 0 0], 1, 24) := by kernel_rfl
set_option maxHeartbeats 2000000 in
theorem toOpSS_any (a : Option Addr) (n c : Nat) (xs : List (List LOp)) (L U : Nat) (w : World) (hn : n ≤ 1048576) (hS : ∀ x ∈ xs, OpsSm x) (hU : U ≤ w.heap.size) (H : RowsAt 1 OpsE w L U a n xs) :
    Calls Tryz.prog 84 #[.slice a n c] w fun e w' => (∃ b, e = .returned (.slice (some ⟨b, 0, none⟩) n n) ∧ RowsAt 1 OpsE w' w.heap.size w'.heap.size (some ⟨b, 0, none⟩) n xs) ∧ Below w.heap.size w w' := by
  have hmk := run_make_many 67 66 _ 1 24 Tryz.underlying67 infoOpSS n (by omega) (by omega)
  obtain ⟨f0, hf0⟩ := rowIs_many w #[.slice none 0 0] n 66
  have HF0 : Hid ((w.alloc (.cells (madeCells #[.slice none 0 0] n) 66)).rowIs w.heap.size 66 n f0) := hf0
  clear hf0
  go_enter Tryz.func84, Tryz.ntmps84
  go_wp2
  go_loopg [4] n (fun k i wr => ∃ j : Nat, j ≤ n ∧ Hid (k = n - j) ∧ i = .int .i64 j ∧ (∃ f, Hid (wr.rowIs w.heap.size 66 n f ∧ ∀ i, i < j → ∃ x vs, xs[i]? = some x ∧ vs.length = 1 ∧ (∀ k v, vs[k]? = some v → f (i * 1 + k) = v) ∧ OpsE wr (w.heap.size + 1) wr.heap.size vs x)) ∧ Below w.heap.size w wr)
  case atStart => exact ⟨0, Nat.zero_le _, by show _ = _; omega, rfl, ⟨f0, HF0.out, fun i hi => by omega⟩, (Below.refl _ _).alloc (Nat.le_refl _) _⟩
  case round =>
    obtain ⟨j, hj, hk, rfl, ⟨f, hf⟩, hb⟩ := hrel
    by_cases hlt : j < n
    · obtain ⟨b, off, ha, hL, hbU, hc⟩ := H.at_ (by omega)
      subst ha
      obtain ⟨x, vs, he, hc, hE⟩ := hc j hlt
      have hsx : OpsSm x := hS x (List.mem_of_getElem? he)
      have HE : Hid (xs[j]? = some x) := he
      clear he
      obtain ⟨oa, on, oc, rfl, hO⟩ := hE
      have c0 := hc 0 _ rfl
      simp only [Nat.add_zero, Nat.mul_one] at c0
      rw [← hb.cell (by simp; omega)] at c0
      clear hc
      have hrl := hf.out.1.lt
      go_wp2_with fail
      refine (toOpS_any _ _ _ _ L U _ (by have := hO.len; have := hsx; unfold OpsSm at this; omega) (by have := hb.size; omega) (hO.below hb hU)).mono ?_
      rintro y w1 ⟨⟨ob, rfl, hke⟩, hb1⟩
      have hrow := hf.out.1.of_block (hb1.block w.heap.size hf.out.1.lt)
      have g0 := hrow.cell (i := j) (by omega)
      have z0 := hrow.frozen (j)
      have HR : Hid (w1.rowIs w.heap.size 66 n f) := hrow
      clear hrow
      go_wp2_with fail
      go_roundg (n - (j + 1))
      case measure => have := hk.out; omega
      case rel =>
        have hbs := hb1.size
        refine ⟨j + 1, by omega, rfl, by go_num, ⟨_, (HR.out.set (j) (.slice (some ⟨ob, 0, none⟩) on on)), fun i hi => ?_⟩, ((hb.trans (hb1.mono hb.size)).setCell (by simp) _)⟩
        by_cases hij : i = j
        · subst hij
          refine ⟨x, [.slice (some ⟨ob, 0, none⟩) on on], HE.out, rfl, fun k v hv => ?_, ?_⟩
          · have hkk : k < 1 := (List.getElem?_eq_some_iff.1 hv).1
            have hcase : k = 0 := by omega
            subst hcase
            simp at hv ⊢; exact hv
          · refine eltOps.blocks (w := w1) (⟨_, _, _, rfl, hke.wide (by omega) (by simp)⟩) fun b h1 h2 => ?_
            iterate 1 refine (Below.heap_setCell _ _ _ b (by simp; omega)).trans ?_
            rfl
        · obtain ⟨x', vs', he', hl', q0, qk⟩ := hf.out.2 i (by omega)
          refine ⟨x', vs', he', hl', fun k v hv => ?_, ?_⟩
          · have hkk : k < 1 := by rw [← hl']; exact (List.getElem?_eq_some_iff.1 hv).1
            have hd := q0 k v hv
            show (if i * 1 + k = j then _ else f (i * 1 + k)) = v
            rw [if_neg (by omega)]
            exact hd
          · refine eltOps.wide (eltOps.blocks (eltOps.below qk hb1 (Nat.le_refl _)) fun b h1 h2 => ?_) (Nat.le_refl _) (by simp <;> omega)
            iterate 1 refine (Below.heap_setCell _ _ _ b (by simp; omega)).trans ?_
            rfl
    · go_wp2_with fail
      go_ret
      refine ⟨⟨w.heap.size, rfl, H.len, H.bd, fun hn0 => ⟨w.heap.size, 0, rfl, Nat.le_refl _, hf.out.1.lt, fun i hi => ?_⟩⟩, hb⟩
      obtain ⟨x', vs', he', hl', q0, qk⟩ := hf.out.2 i (by omega)
      refine ⟨x', vs', he', fun k v hv => ?_, eltOps.wide qk (by omega) (Nat.le_refl _)⟩
      have hkk : k < 1 := by rw [← hl']; exact (List.getElem?_eq_some_iff.1 hv).1
      rw [Nat.zero_add, hf.out.1.cell (by omega), q0 k v hv]

theorem BoxI.c7 {W : World} {p : Nat} {t : TypeId} {v0 v1 v2 v3 v4 v5 v6 : Value} (h : BoxI W p t [v0, v1, v2, v3, v4, v5, v6]) : W.cell? ⟨p, 0, none⟩ = some v0 ∧ W.cell? ⟨p, 1, none⟩ = some v1 ∧ W.cell? ⟨p, 2, none⟩ = some v2 ∧ W.cell? ⟨p, 3, none⟩ = some v3 ∧ W.cell? ⟨p, 4, none⟩ = some v4 ∧ W.cell? ⟨p, 5, none⟩ = some v5 ∧ W.cell? ⟨p, 6, none⟩ = some v6 :=
  ⟨h.get 0 _ rfl, h.get 1 _ rfl, h.get 2 _ rfl, h.get 3 _ rfl, h.get 4 _ rfl, h.get 5 _ rfl, h.get 6 _ rfl⟩
set_option maxHeartbeats 2000000 in
theorem toKeep_any (q s : Int) (a : Option Addr) (n c : Nat) (b : Bool) (a1 : Option Addr) (n1 c1 : Nat) (a2 : Option Addr) (n2 c2 : Nat) (a3 : Option Addr) (n3 c3 : Nat) (k : LKeep) (L U : Nat) (w : World) (hs : KeepSm k) (hU : U ≤ w.heap.size) (H : KeepAt w L U q s a n b a1 n1 a2 n2 a3 n3 k) :
    Calls Tryz.prog 31 #[.agg #[.int .i64 q, .int .i64 s, .slice a n c, .bool b, .slice a1 n1 c1, .slice a2 n2 c2, .slice a3 n3 c3]] w fun e w' => (∃ x0 x1 x2 x3, e = .returned (.agg #[.int .i64 q, .int .i64 s, .slice (some ⟨x0, 0, none⟩) n n, .bool b, .slice (some ⟨x1, 0, none⟩) n1 n1, .slice (some ⟨x2, 0, none⟩) n2 n2, .slice (some ⟨x3, 0, none⟩) n3 n3]) ∧ KeepAt w' w.heap.size w'.heap.size q s (some ⟨x0, 0, none⟩) n b (some ⟨x1, 0, none⟩) n1 (some ⟨x2, 0, none⟩) n2 (some ⟨x3, 0, none⟩) n3 k) ∧ Below w.heap.size w w' := by
  have H0 := H.base
  have H1 := H.sent
  have H2 := H.list
  have H3 := H.shelf
  have hq := hidMk H.q
  have hqs := hidMk H.s
  have hqb := hidMk H.b
  clear H
  have hA : ∀ o1 o2 o3 : Obj, Below w.heap.size w (((w.alloc o1).alloc o2).alloc o3) := fun o1 o2 o3 => (((Below.refl _ _).alloc (Nat.le_refl _) _).alloc (by simp) _).alloc (by simp <;> omega) _
  have A0 : BoxI (((w.alloc (.cells #[.int .i64 q, .int .i64 s, .slice a n c, .bool b, .slice a1 n1 c1, .slice a2 n2 c2, .slice a3 n3 c3] 63)).alloc (.cells #[.int .i64 0, .int .i64 0, .slice none 0 0, .bool false, .slice none 0 0, .slice none 0 0, .slice none 0 0] 69)).alloc (.cells #[.int .i64 q, .int .i64 s, .slice none 0 0, .bool false, .slice none 0 0, .slice none 0 0, .slice none 0 0] 69)) w.heap.size 63 [.int .i64 q, .int .i64 s, .slice a n c, .bool b, .slice a1 n1 c1, .slice a2 n2 c2, .slice a3 n3 c3] := ((BoxI.new rfl).alloc _).alloc _
  have A1 : BoxI (((w.alloc (.cells #[.int .i64 q, .int .i64 s, .slice a n c, .bool b, .slice a1 n1 c1, .slice a2 n2 c2, .slice a3 n3 c3] 63)).alloc (.cells #[.int .i64 0, .int .i64 0, .slice none 0 0, .bool false, .slice none 0 0, .slice none 0 0, .slice none 0 0] 69)).alloc (.cells #[.int .i64 q, .int .i64 s, .slice none 0 0, .bool false, .slice none 0 0, .slice none 0 0, .slice none 0 0] 69)) (w.heap.size + 1) 69 [.int .i64 0, .int .i64 0, .slice none 0 0, .bool false, .slice none 0 0, .slice none 0 0, .slice none 0 0] := (BoxI.new (by simp)).alloc _
  have A2 : BoxI (((w.alloc (.cells #[.int .i64 q, .int .i64 s, .slice a n c, .bool b, .slice a1 n1 c1, .slice a2 n2 c2, .slice a3 n3 c3] 63)).alloc (.cells #[.int .i64 0, .int .i64 0, .slice none 0 0, .bool false, .slice none 0 0, .slice none 0 0, .slice none 0 0] 69)).alloc (.cells #[.int .i64 q, .int .i64 s, .slice none 0 0, .bool false, .slice none 0 0, .slice none 0 0, .slice none 0 0] 69)) (w.heap.size + 1 + 1) 69 [.int .i64 q, .int .i64 s, .slice none 0 0, .bool false, .slice none 0 0, .slice none 0 0, .slice none 0 0] := BoxI.new (by simp)
  have HA0 := hidMk A0
  have HA1 := hidMk A1
  have HA2 := hidMk A2
  clear A0 A1 A2
  go_enter Tryz.func31, Tryz.ntmps31
  go_wp2_with fail
  have hB0 := hA (.cells #[.int .i64 q, .int .i64 s, .slice a n c, .bool b, .slice a1 n1 c1, .slice a2 n2 c2, .slice a3 n3 c3] 63) (.cells #[.int .i64 0, .int .i64 0, .slice none 0 0, .bool false, .slice none 0 0, .slice none 0 0, .slice none 0 0] 69) (.cells #[.int .i64 q, .int .i64 s, .slice none 0 0, .bool false, .slice none 0 0, .slice none 0 0, .slice none 0 0] 69)
  refine (toTree_any _ _ _ _ L U _ (by have := H0.len; have := hs.n; omega) hs.base (by have := hB0.size; omega) (H0.below hB0 hU)).mono ?_
  rintro y w1 ⟨⟨x0, rfl, hk1⟩, hb1⟩
  have hB1 : Below w.heap.size w w1 := hB0.trans (hb1.mono hB0.size)
  have B0 : BoxI w1 w.heap.size 63 [.int .i64 q, .int .i64 s, .slice a n c, .bool b, .slice a1 n1 c1, .slice a2 n2 c2, .slice a3 n3 c3] := HA0.out.next hb1 (by simp <;> omega)
  have B1 : BoxI w1 (w.heap.size + 1) 69 [.int .i64 0, .int .i64 0, .slice none 0 0, .bool false, .slice none 0 0, .slice none 0 0, .slice none 0 0] := HA1.out.next hb1 (by simp <;> omega)
  have B2 : BoxI w1 (w.heap.size + 1 + 1) 69 [.int .i64 q, .int .i64 s, .slice none 0 0, .bool false, .slice none 0 0, .slice none 0 0, .slice none 0 0] := HA2.out.next hb1 (by simp <;> omega)
  have hz1 : w.heap.size + 3 ≤ w1.heap.size := by have := hb1.size; simp at this; omega
  have K0 : ObjsAt w1 (w.heap.size + 3) w1.heap.size (some ⟨x0, 0, none⟩) n k.base := hk1.wide (by simp <;> omega) (Nat.le_refl _)
  have HB0 := hidMk B0
  have HB1 := hidMk B1
  have HB2 := hidMk B2
  clear HA0 HA1 HA2 hB0 hb1 hk1 hA
  obtain ⟨_, _, _, p3, p4, _, _⟩ := B0.c7
  obtain ⟨_, _, g2, g3, g4, _, _⟩ := B2.c7
  have z2 := B2.fro
  clear B0 B1 B2
  go_wp2_with fail
  have hB1' : Below w.heap.size w ((w1.setCell ⟨w.heap.size + 1 + 1, 2, none⟩ (.slice (some ⟨x0, 0, none⟩) n n)).setCell ⟨w.heap.size + 1 + 1, 3, none⟩ (.bool b)) := (hB1.setCell (by simp <;> omega) _).setCell (by simp <;> omega) _
  refine (toOpS_any _ _ _ _ L U _ (by have := H1.len; have := hs.sent; unfold OpsSm at this; omega) (by have := hB1'.size; omega) (H1.below hB1' hU)).mono ?_
  rintro y w2 ⟨⟨x1, rfl, hk2⟩, hb2⟩
  have hB2 : Below w.heap.size w w2 := hB1'.trans (hb2.mono hB1'.size)
  have B0 : BoxI w2 w.heap.size 63 [.int .i64 q, .int .i64 s, .slice a n c, .bool b, .slice a1 n1 c1, .slice a2 n2 c2, .slice a3 n3 c3] := ((HB0.out.other _ _ (by simp <;> omega)).other _ _ (by simp <;> omega)).next hb2 (by simp <;> omega)
  have B1 : BoxI w2 (w.heap.size + 1) 69 [.int .i64 0, .int .i64 0, .slice none 0 0, .bool false, .slice none 0 0, .slice none 0 0, .slice none 0 0] := ((HB1.out.other _ _ (by simp)).other _ _ (by simp)).next hb2 (by simp <;> omega)
  have B2 : BoxI w2 (w.heap.size + 1 + 1) 69 [.int .i64 q, .int .i64 s, .slice (some ⟨x0, 0, none⟩) n n, .bool b, .slice none 0 0, .slice none 0 0, .slice none 0 0] := ((HB2.out.set 2 (.slice (some ⟨x0, 0, none⟩) n n)).set 3 (.bool b)).next hb2 (by simp <;> omega)
  have hz2 : w1.heap.size ≤ w2.heap.size := by have := hb2.size; simp at this; omega
  have K0' : ObjsAt w2 (w.heap.size + 3) w1.heap.size (some ⟨x0, 0, none⟩) n k.base := K0.blocks_ fun b h1 h2 => (hb2.block b (by simp; omega)).trans (((Below.heap_setCell _ _ _ b (by simp; omega)).trans (Below.heap_setCell _ _ _ b (by simp; omega))))
  have K1 : OpsAt w2 (w.heap.size + 3) w2.heap.size (some ⟨x1, 0, none⟩) n1 k.sent := hk2.wide (by simp <;> omega) (Nat.le_refl _)
  have HB0' := hidMk B0
  have HB1' := hidMk B1
  have HB2' := hidMk B2
  clear HB0 HB1 HB2 hB1 hB1' hb2 hk2 K0 p3 p4 g2 g3 g4 z2
  obtain ⟨_, _, _, _, _, p5, _⟩ := B0.c7
  obtain ⟨_, _, _, _, g4, g5, _⟩ := B2.c7
  have z2 := B2.fro
  clear B0 B1 B2
  go_wp2_with fail
  have hB2' : Below w.heap.size w (w2.setCell ⟨w.heap.size + 1 + 1, 4, none⟩ (.slice (some ⟨x1, 0, none⟩) n1 n1)) := hB2.setCell (by simp <;> omega) _
  refine (toOpS_any _ _ _ _ L U _ (by have := H2.len; have := hs.list; unfold OpsSm at this; omega) (by have := hB2'.size; omega) (H2.below hB2' hU)).mono ?_
  rintro y w3 ⟨⟨x2, rfl, hk3⟩, hb3⟩
  have hB3 : Below w.heap.size w w3 := hB2'.trans (hb3.mono hB2'.size)
  have B0 : BoxI w3 w.heap.size 63 [.int .i64 q, .int .i64 s, .slice a n c, .bool b, .slice a1 n1 c1, .slice a2 n2 c2, .slice a3 n3 c3] := (HB0'.out.other _ _ (by simp <;> omega)).next hb3 (by simp <;> omega)
  have B1 : BoxI w3 (w.heap.size + 1) 69 [.int .i64 0, .int .i64 0, .slice none 0 0, .bool false, .slice none 0 0, .slice none 0 0, .slice none 0 0] := (HB1'.out.other _ _ (by simp)).next hb3 (by simp <;> omega)
  have B2 : BoxI w3 (w.heap.size + 1 + 1) 69 [.int .i64 q, .int .i64 s, .slice (some ⟨x0, 0, none⟩) n n, .bool b, .slice (some ⟨x1, 0, none⟩) n1 n1, .slice none 0 0, .slice none 0 0] := (HB2'.out.set 4 (.slice (some ⟨x1, 0, none⟩) n1 n1)).next hb3 (by simp <;> omega)
  have hz3 : w2.heap.size ≤ w3.heap.size := by have := hb3.size; simp at this; omega
  have K0 : ObjsAt w3 (w.heap.size + 3) w1.heap.size (some ⟨x0, 0, none⟩) n k.base := K0'.blocks_ fun b h1 h2 => (hb3.block b (by simp; omega)).trans (Below.heap_setCell _ _ _ b (by simp; omega))
  have K1' : OpsAt w3 (w.heap.size + 3) w2.heap.size (some ⟨x1, 0, none⟩) n1 k.sent := K1.blocks fun b h1 h2 => (hb3.block b (by simp; omega)).trans (Below.heap_setCell _ _ _ b (by simp; omega))
  have K2 : OpsAt w3 (w.heap.size + 3) w3.heap.size (some ⟨x2, 0, none⟩) n2 k.list := hk3.wide (by simp <;> omega) (Nat.le_refl _)
  have HB0 := hidMk B0
  have HB1 := hidMk B1
  have HB2 := hidMk B2
  clear HB0' HB1' HB2' hB2 hB2' hb3 hk3 K0' K1 p5 g4 g5 z2
  obtain ⟨_, _, _, _, _, _, p6⟩ := B0.c7
  obtain ⟨_, _, _, _, _, g5, g6⟩ := B2.c7
  have z2 := B2.fro
  clear B0 B1 B2
  go_wp2_with fail
  have hB3' : Below w.heap.size w (w3.setCell ⟨w.heap.size + 1 + 1, 5, none⟩ (.slice (some ⟨x2, 0, none⟩) n2 n2)) := hB3.setCell (by simp <;> omega) _
  refine (toOpSS_any _ _ _ _ L U _ (by have := H3.len; have := hs.n3; omega) hs.shelf (by have := hB3'.size; omega) (H3.below eltOps hB3' hU)).mono ?_
  rintro y w4 ⟨⟨x3, rfl, hk4⟩, hb4⟩
  have hB4 : Below w.heap.size w w4 := hB3'.trans (hb4.mono hB3'.size)
  have B1 : BoxI w4 (w.heap.size + 1) 69 [.int .i64 0, .int .i64 0, .slice none 0 0, .bool false, .slice none 0 0, .slice none 0 0, .slice none 0 0] := (HB1.out.other _ _ (by simp)).next hb4 (by simp <;> omega)
  have B2 : BoxI w4 (w.heap.size + 1 + 1) 69 [.int .i64 q, .int .i64 s, .slice (some ⟨x0, 0, none⟩) n n, .bool b, .slice (some ⟨x1, 0, none⟩) n1 n1, .slice (some ⟨x2, 0, none⟩) n2 n2, .slice none 0 0] := (HB2.out.set 5 (.slice (some ⟨x2, 0, none⟩) n2 n2)).next hb4 (by simp <;> omega)
  have hz4 : w3.heap.size ≤ w4.heap.size := by have := hb4.size; simp at this; omega
  have K0' : ObjsAt w4 (w.heap.size + 3) w1.heap.size (some ⟨x0, 0, none⟩) n k.base := K0.blocks_ fun b h1 h2 => (hb4.block b (by simp; omega)).trans (Below.heap_setCell _ _ _ b (by simp; omega))
  have K1 : OpsAt w4 (w.heap.size + 3) w2.heap.size (some ⟨x1, 0, none⟩) n1 k.sent := K1'.blocks fun b h1 h2 => (hb4.block b (by simp; omega)).trans (Below.heap_setCell _ _ _ b (by simp; omega))
  have K2' : OpsAt w4 (w.heap.size + 3) w3.heap.size (some ⟨x2, 0, none⟩) n2 k.list := K2.blocks fun b h1 h2 => (hb4.block b (by simp; omega)).trans (Below.heap_setCell _ _ _ b (by simp; omega))
  have K3 : RowsAt 1 OpsE w4 (w.heap.size + 3) w4.heap.size (some ⟨x3, 0, none⟩) n3 k.shelf := hk4.wide eltOps (by simp <;> omega) (Nat.le_refl _)
  have hAll : KeepAt w4 (w.heap.size + 3) w4.heap.size q s (some ⟨x0, 0, none⟩) n b (some ⟨x1, 0, none⟩) n1 (some ⟨x2, 0, none⟩) n2 (some ⟨x3, 0, none⟩) n3 k := ⟨hq.out, hqs.out, hqb.out, K0'.wide (Nat.le_refl _) (by omega), K1.wide (Nat.le_refl _) (by omega), K2'.wide (Nat.le_refl _) (by omega), K3⟩
  clear HB0 HB1 HB2 hB3 hB3' hb4 hk4 K0 K0' K1 K1' K2 K2' K3 p6 g5 g6 z2
  obtain ⟨e0, e1, e2, e3, e4, e5, e6⟩ := B1.c7
  obtain ⟨d0, d1, d2, d3, d4, d5, d6⟩ := B2.c7
  have y1 := B1.fro
  have y2 := B2.fro
  clear B1 B2
  go_wp2_with fail
  refine bodyPost_ret (v := .agg #[.int .i64 q, .int .i64 s, .slice (some ⟨x0, 0, none⟩) n n, .bool b, .slice (some ⟨x1, 0, none⟩) n1 n1, .slice (some ⟨x2, 0, none⟩) n2 n2, .slice (some ⟨x3, 0, none⟩) n3 n3]) (by simp [results, Tryz.results31, go_sem, e0, e1, e2, e3, e4, e5, e6]) rfl ⟨⟨x0, x1, x2, x3, rfl, ?_⟩, ?_⟩
  · refine KeepAt.wide (L := w.heap.size + 3) (U := w4.heap.size) (hAll.blocks fun b h1 h2 => ?_) (by omega) (by simp)
    iterate 8 refine (Below.heap_setCell _ _ _ b (by simp <;> omega)).trans ?_
    rfl
  · iterate 8 refine Below.setCell ?_ (by simp <;> omega) _
    exact hB4

end Go.Proofs.YtloopeipheklpaaGreatDoor

/- Lists of what has parts of its own, clients, messages, logs, worlds: told as one. -/
namespace Go.Proofs.YtloopeipheklpaaGreatDoor
open Go.RowKit Go.ChangeShapes Go.WideShapes

set_option maxHeartbeats 2000000 in
theorem eqOpSS_same (a a' : Option Addr) (n c c' : Nat) (xs : List (List LOp)) (L U L' U' : Nat) (w : World) (hU : U ≤ w.heap.size) (hU' : U' ≤ w.heap.size) (H : RowsAt 1 OpsE w L U a n xs) (H' : RowsAt 1 OpsE w L' U' a' n xs) :
    Calls Tryz.prog 90 #[.slice a n c, .slice a' n c'] w fun e w' => e = .returned (.bool true) ∧ Below w.heap.size w w' := by
  have hbd := H.bd
  unfold maxLen at hbd
  go_enter Tryz.func90, Tryz.ntmps90
  go_wp2_with fail
  go_loopg [5] n (fun k i wr => ∃ j : Nat, j ≤ n ∧ Hid (k = n - j) ∧ i = .int .i64 j ∧ Below w.heap.size w wr)
  case atStart => exact ⟨0, Nat.zero_le _, by show _ = _; omega, rfl, Below.refl _ _⟩
  case round =>
    obtain ⟨j, hj, hk, rfl, hb⟩ := hrel
    by_cases hlt : j < n
    · obtain ⟨b, off, ha, hL, hbU, hc⟩ := H.at_ (by omega)
      obtain ⟨b', off', ha', hL', hbU', hc'⟩ := H'.at_ (by omega)
      subst ha ha'
      obtain ⟨x, vs, he, hc, hE⟩ := hc j hlt
      obtain ⟨x', vs', he2, hc', hE'⟩ := hc' j hlt
      obtain rfl : x = x' := by rw [he] at he2; simpa using he2
      obtain ⟨oa, on, oc, rfl, hO⟩ := hE
      obtain ⟨oa', on', oc', rfl, hO2⟩ := hE'
      obtain rfl : on = on' := by rw [hO.len, hO2.len]
      have c0 := hc 0 _ rfl
      simp only [Nat.add_zero, Nat.mul_one] at c0
      rw [← hb.cell (by simp; omega)] at c0
      have d0 := hc' 0 _ rfl
      simp only [Nat.add_zero, Nat.mul_one] at d0
      rw [← hb.cell (by simp; omega)] at d0
      have hlt' : (j : Int) < (n : Int) := by omega
      have hs1 := hb.size
      have hO := hO.below hb hU
      have hO2 := hO2.below hb hU'
      clear he he2 hc hc'
      go_wp2_with fail
      go_region_with (go_at_call 89; go_must (refine (eqOpS_same _ _ _ _ _ _ L U L' U' _ (by simp; omega) (by simp; omega) (hO.below (by repeat (first | exact Below.refl _ _ | refine Below.drew ?_)) (Nat.le_trans hU hs1)) (hO2.below (by repeat (first | exact Below.refl _ _ | refine Below.drew ?_)) (Nat.le_trans hU' hs1))).mono ?_; rintro e w1 ⟨rfl, hb1⟩))
      all_goals
        go_wp2_with fail
        go_roundg (n - (j + 1))
        case measure => have := hk.out; omega
        case rel => exact ⟨j + 1, by omega, rfl, by go_num, hb.trans (Below.trans (by repeat (first | exact Below.refl _ _ | refine Below.drew ?_)) (hb1.mono hb.size))⟩
    · obtain rfl : j = n := by omega
      go_wp2_with fail
      go_ret
      exact ⟨rfl, hb⟩

set_option maxHeartbeats 2000000 in
theorem eqKeep_same (q s : Int) (a : Option Addr) (n c : Nat) (b : Bool) (a1 : Option Addr) (n1 c1 : Nat) (a2 : Option Addr) (n2 c2 : Nat) (a3 : Option Addr) (n3 c3 : Nat) (x : Option Addr) (y : Nat) (x1 : Option Addr) (y1 : Nat) (x2 : Option Addr) (y2 : Nat) (x3 : Option Addr) (y3 : Nat) (k : LKeep) (L U L' U' : Nat) (w : World) (hU : U ≤ w.heap.size) (hU' : U' ≤ w.heap.size) (H : KeepAt w L U q s a n b a1 n1 a2 n2 a3 n3 k) (H' : KeepAt w L' U' q s x n b x1 n1 x2 n2 x3 n3 k) :
    Calls Tryz.prog 33 #[.agg #[.int .i64 q, .int .i64 s, .slice a n c, .bool b, .slice a1 n1 c1, .slice a2 n2 c2, .slice a3 n3 c3], .agg #[.int .i64 q, .int .i64 s, .slice x n y, .bool b, .slice x1 n1 y1, .slice x2 n2 y2, .slice x3 n3 y3]] w fun e w' => e = .returned (.bool true) ∧ Below w.heap.size w w' := by
  have A0 : BoxI ((w.alloc (.cells #[.int .i64 q, .int .i64 s, .slice a n c, .bool b, .slice a1 n1 c1, .slice a2 n2 c2, .slice a3 n3 c3] 69)).alloc (.cells #[.int .i64 q, .int .i64 s, .slice x n y, .bool b, .slice x1 n1 y1, .slice x2 n2 y2, .slice x3 n3 y3] 69)) w.heap.size 69 [.int .i64 q, .int .i64 s, .slice a n c, .bool b, .slice a1 n1 c1, .slice a2 n2 c2, .slice a3 n3 c3] := (BoxI.new rfl).alloc _
  have A1 : BoxI ((w.alloc (.cells #[.int .i64 q, .int .i64 s, .slice a n c, .bool b, .slice a1 n1 c1, .slice a2 n2 c2, .slice a3 n3 c3] 69)).alloc (.cells #[.int .i64 q, .int .i64 s, .slice x n y, .bool b, .slice x1 n1 y1, .slice x2 n2 y2, .slice x3 n3 y3] 69)) (w.heap.size + 1) 69 [.int .i64 q, .int .i64 s, .slice x n y, .bool b, .slice x1 n1 y1, .slice x2 n2 y2, .slice x3 n3 y3] := BoxI.new (by simp)
  have hB0 : Below w.heap.size w ((w.alloc (.cells #[.int .i64 q, .int .i64 s, .slice a n c, .bool b, .slice a1 n1 c1, .slice a2 n2 c2, .slice a3 n3 c3] 69)).alloc (.cells #[.int .i64 q, .int .i64 s, .slice x n y, .bool b, .slice x1 n1 y1, .slice x2 n2 y2, .slice x3 n3 y3] 69)) := ((Below.refl _ _).alloc (Nat.le_refl _) _).alloc (by simp) _
  have HB0 := hidMk A0
  have HB1 := hidMk A1
  have HH := hidMk H
  have HH' := hidMk H'
  clear A0 A1 H H'
  go_enter Tryz.func33, Tryz.ntmps33
  go_wp2_with fail
  refine (eqTree_same _ _ _ _ _ _ L U L' U' _ (by have := hB0.size; omega) (by have := hB0.size; omega) (HH.out.base.below hB0 hU) (HH'.out.base.below hB0 hU')).mono ?_
  rintro e w1 ⟨rfl, hb1⟩
  have hB1 : Below w.heap.size w w1 := hB0.trans (hb1.mono hB0.size)
  have B0 := HB0.out.next hb1 HB0.out.lt
  have B1 := HB1.out.next hb1 HB1.out.lt
  clear HB0 HB1 hb1
  have HB0 := hidMk B0
  have HB1 := hidMk B1
  obtain ⟨_, _, _, f3, f4, _, _⟩ := B0.c7
  obtain ⟨_, _, _, g3, g4, _, _⟩ := B1.c7
  clear B0 B1
  go_wp2_with fail
  refine (eqOpS_same _ _ _ _ _ _ L U L' U' _ (by have := hB1.size; omega) (by have := hB1.size; omega) (HH.out.sent.below hB1 hU) (HH'.out.sent.below hB1 hU')).mono ?_
  rintro e w2 ⟨rfl, hb2⟩
  clear f3 f4 g3 g4
  have hB2 : Below w.heap.size w w2 := hB1.trans (hb2.mono hB1.size)
  have B0 := HB0.out.next hb2 HB0.out.lt
  have B1 := HB1.out.next hb2 HB1.out.lt
  clear HB0 HB1 hb2
  have HB0 := hidMk B0
  have HB1 := hidMk B1
  obtain ⟨_, _, _, _, _, f5, _⟩ := B0.c7
  obtain ⟨_, _, _, _, _, g5, _⟩ := B1.c7
  clear B0 B1
  go_wp2_with fail
  refine (eqOpS_same _ _ _ _ _ _ L U L' U' _ (by have := hB2.size; omega) (by have := hB2.size; omega) (HH.out.list.below hB2 hU) (HH'.out.list.below hB2 hU')).mono ?_
  rintro e w3 ⟨rfl, hb3⟩
  clear f5 g5
  have hB3 : Below w.heap.size w w3 := hB2.trans (hb3.mono hB2.size)
  have B0 := HB0.out.next hb3 HB0.out.lt
  have B1 := HB1.out.next hb3 HB1.out.lt
  clear HB0 HB1 hb3
  have HB0 := hidMk B0
  have HB1 := hidMk B1
  obtain ⟨_, _, _, _, _, _, f6⟩ := B0.c7
  obtain ⟨_, _, _, _, _, _, g6⟩ := B1.c7
  clear B0 B1
  go_wp2_with fail
  refine (eqOpSS_same _ _ _ _ _ _ L U L' U' _ (by have := hB3.size; omega) (by have := hB3.size; omega) (HH.out.shelf.below eltOps hB3 hU) (HH'.out.shelf.below eltOps hB3 hU')).mono ?_
  rintro e w4 ⟨rfl, hb4⟩
  clear f6 g6 HB0 HB1
  go_wp2_with fail
  go_ret
  exact ⟨rfl, hB3.trans (hb4.mono hB3.size)⟩

theorem BoxI.c6 {W : World} {p : Nat} {t : TypeId} {v0 v1 v2 v3 v4 v5 : Value} (h : BoxI W p t [v0, v1, v2, v3, v4, v5]) : W.cell? ⟨p, 0, none⟩ = some v0 ∧ W.cell? ⟨p, 1, none⟩ = some v1 ∧ W.cell? ⟨p, 2, none⟩ = some v2 ∧ W.cell? ⟨p, 3, none⟩ = some v3 ∧ W.cell? ⟨p, 4, none⟩ = some v4 ∧ W.cell? ⟨p, 5, none⟩ = some v5 :=
  ⟨h.get 0 _ rfl, h.get 1 _ rfl, h.get 2 _ rfl, h.get 3 _ rfl, h.get 4 _ rfl, h.get 5 _ rfl⟩
end Go.Proofs.YtloopeipheklpaaGreatDoor

/- Paths: contracts of the program and of the specification. -/
namespace Go.Proofs.YtloopeipheklpaaGreatDoor
open Go.RowKit

end Go.Proofs.YtloopeipheklpaaGreatDoor
