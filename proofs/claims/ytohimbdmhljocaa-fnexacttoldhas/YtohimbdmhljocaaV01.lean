/- Lemmas that the proofs of this seat share: Word, Mem, Eq, Open, SameAll, Kids12, Obj, OpsAll, OpSame, LogA, Reader, Mark, Drawers. -/
import Derived.Test.YtohimbdmhljocaaRows
import Derived.WalkKit
import Derived.ProofKit
import Derived.WalkSpells
import Derived.WalkLawsBesides
import Derived.Below
import Derived.Deep.QuietTactic
import Derived.BigQuiet
import Derived.Deep.RegionWith
import Derived.Deep.LoopGhost
import Derived.Deep.OwnRows
import Derived.Outline
import Derived.Deep.SlicePairs
import Derived.Lib.SmallJoins
import Derived.Deep.DeepCutAuto
import Derived.Laws.BitsAllLaws
import Derived.Laws.IdiomStrings
import Derived.OwnWalk
import Derived.Deep.AppendLies
import Derived.Deep.Onto
/- Contracts of isLetter, isFigure, TreeWord and TreeBody, of the program and of the specification: each returns the same plain function of the text, at every text. -/
namespace Go.Proofs.Ytohimbdmhljocaa
open Go.RowKit

theorem ret_bool {a b : Bool} (h : a = b) : Ending.returned (.bool a) = .returned (.bool b) := by rw [h]

end Go.Proofs.Ytohimbdmhljocaa

/- What trees, objects and names are in memory; contracts of the law's szTree and toTree. -/
namespace Go.Proofs.Ytohimbdmhljocaa
open Go.RowKit

structure LEnt where
  name : ByteArray
  id : Int
structure LObj where
  kind : Int
  ver : Int
  text : ByteArray
  kids : List LEnt

/-- What a slice of names is: its length; if there is one, an address, and at it the names. All of it lies in blocks from L on and below U. -/
structure EntsAt (w : World) (L U : Nat) (a : Option Addr) (n : Nat) (es : List LEnt) : Prop where
  len : n = es.length
  bd : n ≤ maxLen
  at_ : n ≠ 0 → ∃ b off, a = some ⟨b, off, none⟩ ∧ L ≤ b ∧ b < U ∧ ∀ i, i < n → ∃ e, es[i]? = some e ∧ e.name.size ≤ maxLen ∧ w.cell? ⟨b, off + i * 2, none⟩ = some (.string e.name) ∧ w.cell? ⟨b, off + i * 2 + 1, none⟩ = some (.int .i64 e.id)

theorem EntsAt.below {w w' : World} {L U B : Nat} {a : Option Addr} {n : Nat} {es : List LEnt} (h : EntsAt w L U a n es) (hb : Below B w w') (hU : U ≤ B) : EntsAt w' L U a n es :=
  ⟨h.len, h.bd, fun hn => by
    obtain ⟨b, off, ha, hL, hbU, hc⟩ := h.at_ hn
    refine ⟨b, off, ha, hL, hbU, fun i hi => ?_⟩
    obtain ⟨e, he, hs, h0, h1⟩ := hc i hi
    exact ⟨e, he, hs, by rw [hb.cell (by simp; omega)]; exact h0, by rw [hb.cell (by simp; omega)]; exact h1⟩⟩
theorem EntsAt.wide {w : World} {L U L' U' : Nat} {a : Option Addr} {n : Nat} {es : List LEnt} (h : EntsAt w L U a n es) (hL' : L' ≤ L) (hU : U ≤ U') : EntsAt w L' U' a n es :=
  ⟨h.len, h.bd, fun hn => by
    obtain ⟨b, off, ha, hL, hbU, hc⟩ := h.at_ hn
    exact ⟨b, off, ha, by omega, by omega, hc⟩⟩
theorem EntsAt.setCell {w : World} {L U : Nat} {a : Option Addr} {n : Nat} {es : List LEnt} (h : EntsAt w L U a n es) (p : Addr) (v : Value) (hp : p.block < L) : EntsAt (w.setCell p v) L U a n es :=
  ⟨h.len, h.bd, fun hn => by
    obtain ⟨b, off, ha, hL, hbU, hc⟩ := h.at_ hn
    refine ⟨b, off, ha, hL, hbU, fun i hi => ?_⟩
    obtain ⟨e, he, hs, h0, h1⟩ := hc i hi
    have hk := Below.heap_setCell w p v b (by omega)
    exact ⟨e, he, hs, by rw [World.cell?_of_block (w := w) hk]; exact h0, by rw [World.cell?_of_block (w := w) hk]; exact h1⟩⟩

theorem bcell {W w1 : World} (hb : Below W.heap.size W w1) : (∀ b o, b < W.heap.size → w1.cell? ⟨b, o, none⟩ = W.cell? ⟨b, o, none⟩) ∧ (∀ b o, b < W.heap.size → w1.frozen? ⟨b, o, none⟩ = W.frozen? ⟨b, o, none⟩) :=
  ⟨fun b o h => hb.cell (p := ⟨b, o, none⟩) h, fun b o h => hb.frozen (p := ⟨b, o, none⟩) h⟩

theorem run_make_many (t e : TypeId) (zs : Array Value) (size bytes : Nat) (ht : Try.prog.underlying t = some (.slice e)) (hinfo : (Try.prog.info? e).map (fun i => (i.zero.map (·.cells), i.size, i.bytes)) = some (some zs, size, bytes))
    (n : Nat) (hbytes : bytes * n ≤ 281474976710656) (h63 : n ≤ 9223372036854775807) (w : World) :
    (Instr.makeSlice t (.int .i64 (n : Int)) (.int .i64 (n : Int))).run Try.prog w = .ok (.slice (some ⟨w.heap.size, 0, none⟩) n n) (w.alloc (.cells (madeCells zs (n * size)) e)) := by
  obtain ⟨i, hi, hq⟩ := Option.map_eq_some_iff.1 hinfo
  simp only [Prod.mk.injEq, Option.map_eq_some_iff] at hq
  obtain ⟨⟨z, hz, hzc⟩, hsz, hby⟩ := hq
  have hb' : (i.bytes : Int) * (n : Int) ≤ 281474976710656 := by
    rw [hby]
    have h : ((bytes * n : Nat) : Int) ≤ 281474976710656 := by omega
    rwa [Int.natCast_mul] at h
  have hr := run_make (P := Try.prog) w t e i z ht hi hz .i64 .i64 n n (by omega) (Int.le_refl _) hb' (by omega)
  simp only [Int.toNat_natCast, hsz, hzc] at hr
  exact hr

theorem rowIs_many (w : World) (zs : Array Value) (n : Nat) (t : TypeId) : ∃ f, (w.alloc (.cells (madeCells zs n) t)).rowIs w.heap.size t n f := by
  refine ⟨fun i => (madeCells zs n)[i]?.getD default, ?_⟩
  have := World.rowIs_alloc w (madeCells zs n) t (fun i => (madeCells zs n)[i]?.getD default) (fun i hi => by simp [hi])
  rwa [size_madeCells] at this

/-- What a slice of objects is. -/
structure ObjsAt (w : World) (L U : Nat) (a : Option Addr) (n : Nat) (os : List LObj) : Prop where
  len : n = os.length
  bd : n ≤ maxLen
  at_ : n ≠ 0 → ∃ b off, a = some ⟨b, off, none⟩ ∧ L ≤ b ∧ b < U ∧ ∀ i, i < n → ∃ o ka kn kc, os[i]? = some o ∧ o.text.size ≤ maxLen ∧ w.cell? ⟨b, off + i * 4, none⟩ = some (.int .i64 o.kind) ∧ w.cell? ⟨b, off + i * 4 + 1, none⟩ = some (.int .i64 o.ver) ∧ w.cell? ⟨b, off + i * 4 + 2, none⟩ = some (.string o.text) ∧ w.cell? ⟨b, off + i * 4 + 3, none⟩ = some (.slice ka kn kc) ∧ EntsAt w L U ka kn o.kids

theorem ObjsAt.below {w w' : World} {L U B : Nat} {a : Option Addr} {n : Nat} {os : List LObj} (h : ObjsAt w L U a n os) (hb : Below B w w') (hU : U ≤ B) : ObjsAt w' L U a n os :=
  ⟨h.len, h.bd, fun hn => by
    obtain ⟨b, off, ha, hL, hbU, hc⟩ := h.at_ hn
    refine ⟨b, off, ha, hL, hbU, fun i hi => ?_⟩
    obtain ⟨o, ka, kn, kc, he, hs, h0, h1, h2, h3, hk⟩ := hc i hi
    exact ⟨o, ka, kn, kc, he, hs, by rw [hb.cell (by simp; omega)]; exact h0, by rw [hb.cell (by simp; omega)]; exact h1, by rw [hb.cell (by simp; omega)]; exact h2, by rw [hb.cell (by simp; omega)]; exact h3, hk.below hb hU⟩⟩
theorem ObjsAt.wide {w : World} {L U L' U' : Nat} {a : Option Addr} {n : Nat} {os : List LObj} (h : ObjsAt w L U a n os) (hL' : L' ≤ L) (hU : U ≤ U') : ObjsAt w L' U' a n os :=
  ⟨h.len, h.bd, fun hn => by
    obtain ⟨b, off, ha, hL, hbU, hc⟩ := h.at_ hn
    refine ⟨b, off, ha, by omega, by omega, fun i hi => ?_⟩
    obtain ⟨o, ka, kn, kc, he, hs, h0, h1, h2, h3, hk⟩ := hc i hi
    exact ⟨o, ka, kn, kc, he, hs, h0, h1, h2, h3, hk.wide hL' hU⟩⟩

theorem ObjsAt.setCell {w : World} {L U : Nat} {a : Option Addr} {n : Nat} {os : List LObj} (h : ObjsAt w L U a n os) (p : Addr) (v : Value) (hp : p.block < L) : ObjsAt (w.setCell p v) L U a n os :=
  ⟨h.len, h.bd, fun hn => by
    obtain ⟨b, off, ha, hL, hbU, hc⟩ := h.at_ hn
    refine ⟨b, off, ha, hL, hbU, fun i hi => ?_⟩
    obtain ⟨o, ka, kn, kc, he, hs, h0, h1, h2, h3, hk⟩ := hc i hi
    have hk' := Below.heap_setCell w p v b (by omega)
    exact ⟨o, ka, kn, kc, he, hs, by rw [World.cell?_of_block (w := w) hk']; exact h0, by rw [World.cell?_of_block (w := w) hk']; exact h1, by rw [World.cell?_of_block (w := w) hk']; exact h2, by rw [World.cell?_of_block (w := w) hk']; exact h3, hk.setCell p v hp⟩⟩

end Go.Proofs.Ytohimbdmhljocaa

/- Contracts of the law eqTree, at two readings of one tree. -/
namespace Go.Proofs.Ytohimbdmhljocaa
open Go.RowKit

end Go.Proofs.Ytohimbdmhljocaa

/- A tree that came in as an argument, read as data: its objects and their names as lists. -/
namespace Go.Proofs.Ytohimbdmhljocaa
open Go.RowKit Go.ChangeShapes Go.WideShapes

theorem list_of {α : Type} {n : Nat} {p : Nat → α → Prop} (h : ∀ i, i < n → ∃ x, p i x) : ∃ l : List α, l.length = n ∧ ∀ i, i < n → ∃ x, l[i]? = some x ∧ p i x := by
  induction n with
  | zero => exact ⟨[], rfl, fun i hi => by omega⟩
  | succ n ih =>
    obtain ⟨l, hl, hp⟩ := ih (fun i hi => h i (by omega))
    obtain ⟨x, hx⟩ := h n (by omega)
    refine ⟨l ++ [x], by simp [hl], fun i hi => ?_⟩
    by_cases e : i = n
    · subst e
      exact ⟨x, by rw [List.getElem?_append_right (by omega)]; simp [hl], hx⟩
    · obtain ⟨y, hy, hq⟩ := hp i (by omega)
      exact ⟨y, by rw [List.getElem?_append_left (by omega)]; exact hy, hq⟩

theorem cell_lt {w : World} {p : Addr} {v : Value} (h : w.cell? p = some v) : p.block < w.heap.size := by
  apply Classical.byContradiction
  intro hn
  unfold World.cell? at h
  rw [Array.getElem?_eq_none (by omega)] at h
  simp at h

theorem addr_add (b off k : Nat) : (⟨b, off, none⟩ : Addr).add k = ⟨b, off + k, none⟩ := by
  unfold Addr.add
  by_cases h : k = 0 <;> simp [h]
section
variable {H : Type} {enc : TypeId × Value → H} {w : World} {spare : Nat → Bool} {held : Bool}

end
end Go.Proofs.Ytohimbdmhljocaa

/- The program and the specification compare names, objects and trees: contracts. -/
namespace Go.Proofs.Ytohimbdmhljocaa
open Go.RowKit

end Go.Proofs.Ytohimbdmhljocaa

/- The specification compares trees: contracts. -/
namespace Go.Proofs.Ytohimbdmhljocaa
open Go.RowKit

end Go.Proofs.Ytohimbdmhljocaa

/- Small words for the laws' walks. -/
namespace Go.Proofs.Ytohimbdmhljocaa
open Go.RowKit

theorem ObjsAt.drew {w : World} {L U : Nat} {a : Option Addr} {n : Nat} {os : List LObj} (h : ObjsAt w L U a n os) : ObjsAt w.drew L U a n os := h.below (B := U) (Below.refl _ _).drew (Nat.le_refl _)
theorem EntsAt.drew {w : World} {L U : Nat} {a : Option Addr} {n : Nat} {es : List LEnt} (h : EntsAt w L U a n es) : EntsAt w.drew L U a n es := h.below (B := U) (Below.refl _ _).drew (Nat.le_refl _)

/-- The two arguments lie boxed behind what was there. -/
structure Two (w wx : World) (v v' : Value) : Prop where
  below : Below w.heap.size w wx
  c0 : wx.cell? ⟨w.heap.size, 0, none⟩ = some v
  c1 : wx.cell? ⟨w.heap.size + 1, 0, none⟩ = some v'
  size : w.heap.size + 2 ≤ wx.heap.size
theorem Two.next {w wx wy : World} {v v' : Value} (h : Two w wx v v') (k : Below wx.heap.size wx wy) : Two w wy v v' :=
  ⟨h.below.trans (k.mono h.below.size), by rw [k.cell (by have := h.size; simp; omega)]; exact h.c0, by rw [k.cell (by have := h.size; simp; omega)]; exact h.c1, by have := k.size; have := h.size; omega⟩
theorem Two.drew {w wx : World} {v v' : Value} (h : Two w wx v v') : Two w wx.drew v v' := h.next (Below.refl _ _).drew

end Go.Proofs.Ytohimbdmhljocaa

/- Names of a directory, and what is ok of an object: contracts of the program's functions. -/
namespace Go.Proofs.Ytohimbdmhljocaa
open Go.RowKit

end Go.Proofs.Ytohimbdmhljocaa

/- Names of a directory: contracts of the functions of the specification. -/
namespace Go.Proofs.Ytohimbdmhljocaa
open Go.RowKit

end Go.Proofs.Ytohimbdmhljocaa

/- What is ok of one object: contracts of the program and of the specification. -/
namespace Go.Proofs.Ytohimbdmhljocaa
open Go.RowKit

def nil? (n : Nat) : Bool := decide (n = 0)
end Go.Proofs.Ytohimbdmhljocaa

/- What is done: whether it can be done at all. -/
namespace Go.Proofs.Ytohimbdmhljocaa
open Go.RowKit

structure LOp where
  kind : Int
  dir : Int
  name : ByteArray
  dir2 : Int
  name2 : ByteArray
  id : Int
  text : ByteArray
def LOp.val (o : LOp) : Array Value := #[.int .i64 o.kind, .int .i64 o.dir, .string o.name, .int .i64 o.dir2, .string o.name2, .int .i64 o.id, .string o.text]
end Go.Proofs.Ytohimbdmhljocaa

/- What is done, as an argument: read as data, its size, its copy. -/
namespace Go.Proofs.Ytohimbdmhljocaa
open Go.RowKit Go.ChangeShapes Go.WideShapes

structure OpSz (o : LOp) : Prop where
  name : o.name.size ≤ maxLen
  name2 : o.name2.size ≤ maxLen
  text : o.text.size ≤ maxLen
section
variable {H : Type} {enc : TypeId × Value → H} {w : World} {spare : Nat → Bool} {held : Bool}
theorem trod_struct7 {P : Program} {base : Nat} {t : TypeId} {f0 f1 f2 f3 f4 f5 f6 : Field} {fuel : Nat} {cs : List Value} {x : DataW H × List MemPlace} (ht : P.underlying t = some (.struct #[f0, f1, f2, f3, f4, f5, f6])) (h : DataW.trod enc P w base spare held fuel t cs = some x) :
    ∃ y0 y1 y2 y3 y4 y5 y6 n, DataW.trod enc P w base spare held n f0.type ((cs.drop f0.offset).take (P.cellsOf f0.type)) = some y0 ∧ DataW.trod enc P w base spare held n f1.type ((cs.drop f1.offset).take (P.cellsOf f1.type)) = some y1 ∧
      DataW.trod enc P w base spare held n f2.type ((cs.drop f2.offset).take (P.cellsOf f2.type)) = some y2 ∧ DataW.trod enc P w base spare held n f3.type ((cs.drop f3.offset).take (P.cellsOf f3.type)) = some y3 ∧
      DataW.trod enc P w base spare held n f4.type ((cs.drop f4.offset).take (P.cellsOf f4.type)) = some y4 ∧ DataW.trod enc P w base spare held n f5.type ((cs.drop f5.offset).take (P.cellsOf f5.type)) = some y5 ∧
      DataW.trod enc P w base spare held n f6.type ((cs.drop f6.offset).take (P.cellsOf f6.type)) = some y6 := by
  obtain ⟨xs, n, _, rfl, hl, hlen, hf⟩ := DataW.trod_struct ht h
  match xs, hlen with
  | [y0, y1, y2, y3, y4, y5, y6], _ => exact ⟨y0, y1, y2, y3, y4, y5, y6, n, by simpa using hf 0 f0 rfl, by simpa using hf 1 f1 rfl, by simpa using hf 2 f2 rfl, by simpa using hf 3 f3 rfl, by simpa using hf 4 f4 rfl, by simpa using hf 5 f5 rfl, by simpa using hf 6 f6 rfl⟩

theorem open_op_cells {fuel : Nat} {v0 v1 v2 v3 v4 v5 v6 : Value} {x : DataW H × List MemPlace} (h : DataW.trod enc Try.prog w 0 spare held fuel 148 [v0, v1, v2, v3, v4, v5, v6] = some x) :
    ∃ o : LOp, [v0, v1, v2, v3, v4, v5, v6] = o.val.toList ∧ OpSz o := by
  have c3 : Try.prog.cellsOf 3 = 1 := by kernel_rfl
  have c9 : Try.prog.cellsOf 9 = 1 := by kernel_rfl
  obtain ⟨y0, y1, y2, y3, y4, y5, y6, n, t0, t1, t2, t3, t4, t5, t6⟩ := trod_struct7 Try.underlying148 h
  simp [c3, c9] at t0 t1 t2 t3 t4 t5 t6
  obtain ⟨k0, e0, _, _⟩ := DataW.trod_int Try.underlying3 t0
  obtain ⟨k1, e1, _, _⟩ := DataW.trod_int Try.underlying3 t1
  obtain ⟨k2, e2, _, h2⟩ := DataW.trod_string Try.underlying9 t2
  obtain ⟨k3, e3, _, _⟩ := DataW.trod_int Try.underlying3 t3
  obtain ⟨k4, e4, _, h4⟩ := DataW.trod_string Try.underlying9 t4
  obtain ⟨k5, e5, _, _⟩ := DataW.trod_int Try.underlying3 t5
  obtain ⟨k6, e6, _, h6⟩ := DataW.trod_string Try.underlying9 t6
  simp at e0 e1 e2 e3 e4 e5 e6
  exact ⟨⟨k0, k1, k2, k3, k4, k5, k6⟩, by simp [LOp.val, e0, e1, e2, e3, e4, e5, e6], h2, h4, h6⟩
end

theorem szOp_any (o : LOp) (left : Int) (w : World) (h0 : 0 ≤ left) (h1 : left ≤ 1048576) (hs : OpSz o) :
    Calls Try.prog 107 #[.agg o.val, .int .i64 left] w fun e w' => (∃ r : Int, e = .returned (.int .i64 r) ∧ (r = -1 ∨ 0 ≤ r ∧ r = left - o.name.size - o.name2.size - o.text.size)) ∧ Below w.heap.size w w' := by
  obtain ⟨hn, hn2, ht⟩ := hs
  unfold maxLen at hn hn2 ht
  simp only [LOp.val]
  by_cases c1 : left - o.name.size < 0
  · go_enter Try.func107, Try.ntmps107
    go_wp2
    go_ret
    exact ⟨⟨-1, rfl, .inl rfl⟩, (Below.refl _ _).alloc (Nat.le_refl _) _⟩
  by_cases c2 : left - o.name.size - o.name2.size < 0
  · go_enter Try.func107, Try.ntmps107
    go_wp2
    go_ret
    exact ⟨⟨-1, rfl, .inl rfl⟩, (Below.refl _ _).alloc (Nat.le_refl _) _⟩
  by_cases c3 : left - o.name.size - o.name2.size - o.text.size < 0
  · go_enter Try.func107, Try.ntmps107
    go_wp2
    go_ret
    exact ⟨⟨-1, rfl, .inl rfl⟩, (Below.refl _ _).alloc (Nat.le_refl _) _⟩
  · go_enter Try.func107, Try.ntmps107
    go_wp2
    go_ret
    exact ⟨⟨_, rfl, .inr ⟨by omega, rfl⟩⟩, (Below.refl _ _).alloc (Nat.le_refl _) _⟩

theorem toOp_any (o : LOp) (w : World) :
    Calls Try.prog 109 #[.agg o.val] w fun e w' => e = .returned (.agg o.val) ∧ Below w.heap.size w w' := by
  simp only [LOp.val]
  go_enter Try.func109, Try.ntmps109
  go_wp2
  exact bodyPost_ret (v := .agg o.val) (by simp [results, Try.results109, go_sem, LOp.val]) rfl ⟨rfl, (((Below.refl _ _).alloc (Nat.le_refl _) _).alloc (by simp) _).alloc (by simp; omega) _⟩
end Go.Proofs.Ytohimbdmhljocaa

/- What is done: the program's OpOk. -/
namespace Go.Proofs.Ytohimbdmhljocaa
open Go.RowKit

end Go.Proofs.Ytohimbdmhljocaa

/- Lists of what is done: in memory, their sizes, their copies, compared. -/
namespace Go.Proofs.Ytohimbdmhljocaa
open Go.RowKit Go.ChangeShapes Go.WideShapes

structure OpAt (w : World) (b k : Nat) (o : LOp) : Prop where
  c0 : w.cell? ⟨b, k, none⟩ = some (.int .i64 o.kind)
  c1 : w.cell? ⟨b, k + 1, none⟩ = some (.int .i64 o.dir)
  c2 : w.cell? ⟨b, k + 2, none⟩ = some (.string o.name)
  c3 : w.cell? ⟨b, k + 3, none⟩ = some (.int .i64 o.dir2)
  c4 : w.cell? ⟨b, k + 4, none⟩ = some (.string o.name2)
  c5 : w.cell? ⟨b, k + 5, none⟩ = some (.int .i64 o.id)
  c6 : w.cell? ⟨b, k + 6, none⟩ = some (.string o.text)
theorem OpAt.of_block {w w' : World} {b k : Nat} {o : LOp} (h : OpAt w b k o) (e : w'.heap[b]? = w.heap[b]?) : OpAt w' b k o := by
  have hc : ∀ j, w'.cell? ⟨b, j, none⟩ = w.cell? ⟨b, j, none⟩ := fun j => World.cell?_of_block (w := w) e
  exact ⟨by rw [hc]; exact h.c0, by rw [hc]; exact h.c1, by rw [hc]; exact h.c2, by rw [hc]; exact h.c3, by rw [hc]; exact h.c4, by rw [hc]; exact h.c5, by rw [hc]; exact h.c6⟩
structure OpsAt (w : World) (L U : Nat) (a : Option Addr) (n : Nat) (ops : List LOp) : Prop where
  len : n = ops.length
  bd : n ≤ maxLen
  at_ : n ≠ 0 → ∃ b off, a = some ⟨b, off, none⟩ ∧ L ≤ b ∧ b < U ∧ ∀ i, i < n → ∃ o, ops[i]? = some o ∧ OpSz o ∧ OpAt w b (off + i * 7) o
theorem OpsAt.below {w w' : World} {L U B : Nat} {a : Option Addr} {n : Nat} {ops : List LOp} (h : OpsAt w L U a n ops) (hb : Below B w w') (hU : U ≤ B) : OpsAt w' L U a n ops :=
  ⟨h.len, h.bd, fun hn => by
    obtain ⟨b, off, ha, hL, hbU, hc⟩ := h.at_ hn
    refine ⟨b, off, ha, hL, hbU, fun i hi => ?_⟩
    obtain ⟨o, ho, hs, h0⟩ := hc i hi
    exact ⟨o, ho, hs, h0.of_block (hb.block b (by omega))⟩⟩
theorem OpsAt.wide {w : World} {L U L' U' : Nat} {a : Option Addr} {n : Nat} {ops : List LOp} (h : OpsAt w L U a n ops) (hL' : L' ≤ L) (hU : U ≤ U') : OpsAt w L' U' a n ops :=
  ⟨h.len, h.bd, fun hn => by
    obtain ⟨b, off, ha, hL, hbU, hc⟩ := h.at_ hn
    exact ⟨b, off, ha, by omega, by omega, hc⟩⟩

/-! Read as data. -/
section
variable {H : Type} {enc : TypeId × Value → H} {w : World} {spare : Nat → Bool} {held : Bool}
theorem list7 {α : Type} {l : List α} (h : l.length = 7) : ∃ a b c d e f g, l = [a, b, c, d, e, f, g] := by
  match l, h with
  | [a, b, c, d, e, f, g], _ => exact ⟨a, b, c, d, e, f, g, rfl⟩
theorem open_ops_at {fuel : Nat} {v : Value} {x : DataW H × List MemPlace} (h : DataW.trod enc Try.prog w 0 spare held fuel 60 [v] = some x) :
    ∃ a n c ops, v = .slice a n c ∧ OpsAt w 0 w.heap.size a n ops := by
  have ce : Try.prog.cellsOf 148 = 7 := by kernel_rfl
  rcases Go.Deep.open_slice Try.underlying60 h with ⟨hcs, _⟩ | ⟨a, len, cap, m, n, D, Pl, hcs, _, hl, hm, hmm, _, hx⟩
  · simp at hcs
    exact ⟨none, 0, 0, [], hcs, rfl, by simp, fun h => absurd rfl h⟩
  · simp at hcs
    have hlm : len ≤ m := by rw [hmm]; split <;> omega
    obtain ⟨ops, hos, hp⟩ := list_of (n := len) (p := fun i (o : LOp) => OpSz o ∧ w.cell? (a.add (i * 7)) = some (.int .i64 o.kind) ∧ w.cell? (a.add (i * 7 + 1)) = some (.int .i64 o.dir) ∧ w.cell? (a.add (i * 7 + 2)) = some (.string o.name) ∧ w.cell? (a.add (i * 7 + 3)) = some (.int .i64 o.dir2) ∧ w.cell? (a.add (i * 7 + 4)) = some (.string o.name2) ∧ w.cell? (a.add (i * 7 + 5)) = some (.int .i64 o.id) ∧ w.cell? (a.add (i * 7 + 6)) = some (.string o.text)) (fun i hi => by
      obtain ⟨cs', h1, h2⟩ := hx i (by omega)
      rw [ce] at h1
      obtain ⟨_, hlen, hcell⟩ := World.cells?_some h1
      obtain ⟨v0, v1, v2, v3, v4, v5, v6, rfl⟩ := list7 hlen
      obtain ⟨o, ho, hs⟩ := open_op_cells h2
      simp [LOp.val] at ho
      obtain ⟨rfl, rfl, rfl, rfl, rfl, rfl, rfl⟩ := ho
      have g0 := hcell 0 (by omega)
      have g1 := hcell 1 (by omega)
      have g2 := hcell 2 (by omega)
      have g3 := hcell 3 (by omega)
      have g4 := hcell 4 (by omega)
      have g5 := hcell 5 (by omega)
      have g6 := hcell 6 (by omega)
      rw [Go.Deep.add_add] at g0 g1 g2 g3 g4 g5 g6
      exact ⟨o, hs, by simpa using g0, by simpa using g1, by simpa using g2, by simpa using g3, by simpa using g4, by simpa using g5, by simpa using g6⟩)
    refine ⟨some a, len, cap, ops, hcs, hos.symm, by omega, fun hn => ?_⟩
    obtain ⟨b, off, spot⟩ := a
    obtain ⟨_, _, _, c0, _⟩ := hp 0 (by omega)
    have hspot : spot = none := by simpa [Addr.add] using World.cell?_spot c0
    subst hspot
    refine ⟨b, off, rfl, Nat.zero_le _, by have := cell_lt c0; simpa [Addr.add] using this, fun i hi => ?_⟩
    obtain ⟨o, ho, hs, q0, q1, q2, q3, q4, q5, q6⟩ := hp i hi
    exact ⟨o, ho, hs, by rw [← addr_add]; exact q0, by rw [Nat.add_assoc, ← addr_add]; exact q1, by rw [Nat.add_assoc, ← addr_add]; exact q2, by rw [Nat.add_assoc, ← addr_add]; exact q3, by rw [Nat.add_assoc, ← addr_add]; exact q4, by rw [Nat.add_assoc, ← addr_add]; exact q5, by rw [Nat.add_assoc, ← addr_add]; exact q6⟩
end

/-! Sizes. -/
def totOp (o : LOp) : Nat := o.name.size + o.name2.size + o.text.size
def totOps (ops : List LOp) : Nat := (ops.map totOp).sum
theorem totOps_take {ops : List LOp} {j : Nat} {o : LOp} (h : ops[j]? = some o) : totOps (ops.take (j + 1)) = totOps (ops.take j) + totOp o := by
  have hj : j < ops.length := (List.getElem?_eq_some_iff.1 h).1
  rw [List.take_succ_eq_append_getElem hj]
  have : ops[j] = o := (List.getElem?_eq_some_iff.1 h).2
  simp [totOps, this]

set_option maxHeartbeats 400000 in
theorem szOpS_any (a : Option Addr) (n c : Nat) (ops : List LOp) (L U : Nat) (left : Int) (w : World) (h0 : 0 ≤ left) (h1 : left ≤ 1048576) (hU : U ≤ w.heap.size) (H : OpsAt w L U a n ops) :
    Calls Try.prog 64 #[.slice a n c, .int .i64 left] w fun e w' => (∃ r : Int, e = .returned (.int .i64 r) ∧ (r = -1 ∨ (0 ≤ r ∧ r = left - n - totOps ops))) ∧ Below w.heap.size w w' := by
  have hbd := H.bd
  unfold maxLen at hbd
  by_cases h : left - n < 0
  · go_enter Try.func64, Try.ntmps64
    go_wp2
    go_ret
    exact ⟨⟨-1, rfl, .inl rfl⟩, Below.refl _ _⟩
  · go_enter Try.func64, Try.ntmps64
    go_wp2
    go_loopg [1, 5] n (fun k l i wr => ∃ j : Nat, j ≤ n ∧ Hid (k = n - j) ∧ i = .int .i64 j ∧ (∃ r : Int, l = .int .i64 r ∧ 0 ≤ r ∧ r ≤ 1048576 ∧ Hid (r = left - n - totOps (ops.take j))) ∧ Below w.heap.size w wr)
    case atStart => exact ⟨0, Nat.zero_le _, by show _ = _; omega, rfl, ⟨_, rfl, by omega, by omega, by show _ = _; simp [totOps]⟩, Below.refl _ _⟩
    case round =>
      obtain ⟨j, hj, hk, rfl, ⟨r, rfl, hr0, hr1, hr⟩, hb⟩ := hrel
      by_cases hlt : j < n
      · obtain ⟨b, off, ha, hL, hbU, hc⟩ := H.at_ (by omega)
        subst ha
        obtain ⟨o, he, hsz, hat⟩ := hc j hlt
        obtain ⟨d0, d1, d2, d3, d4, d5, d6⟩ := hat.of_block (hb.block b (by omega))
        have HE : Hid (ops[j]? = some o) := he
        have HSZ := fun l w h0 h1 => szOp_any o l w h0 h1 hsz
        simp only [LOp.val] at HSZ
        have hlt' : (j : Int) < (n : Int) := by omega
        clear he hc hat
        go_wp2_with fail
        refine (HSZ _ _ hr0 hr1).mono ?_
        rintro x w1 ⟨⟨r1, rfl, hr1'⟩, hb1⟩
        have HR : Hid (r1 = -1 ∨ 0 ≤ r1 ∧ r1 = r - o.name.size - o.name2.size - o.text.size) := hr1'
        clear hr1' HSZ
        by_cases hneg : r1 < 0
        · go_wp2_with fail
          go_ret
          exact ⟨⟨-1, rfl, .inl rfl⟩, hb.trans (hb1.mono hb.size)⟩
        · go_wp2_with fail
          go_roundg (n - (j + 1))
          case measure => have := hk.out; omega
          case rel =>
            have := HR.out
            have h3 := totOps_take HE.out
            have h4 := hr.out
            unfold totOp at h3
            exact ⟨j + 1, by omega, rfl, by go_num, ⟨r1, rfl, by omega, by omega, by show _ = _; omega⟩, hb.trans (hb1.mono hb.size)⟩
      · go_wp2_with fail
        go_ret
        have h4 := hr.out
        rw [List.take_of_length_le (by have := H.len; omega)] at h4
        exact ⟨⟨r, rfl, .inr ⟨hr0, h4⟩⟩, hb⟩

/-! Copies. -/
theorem info65 : (Try.prog.info? 151).map (fun i => (i.zero.map (·.cells), i.size, i.bytes)) = some (some #[.int .i64 0, .int .i64 0, .string ByteArray.empty, .int .i64 0, .string ByteArray.empty, .int .i64 0, .string ByteArray.empty], 7, 80) := by kernel_rfl
def opF (f : Nat → Value) (i : Nat) (o : LOp) : Prop := f (i * 7) = .int .i64 o.kind ∧ f (i * 7 + 1) = .int .i64 o.dir ∧ f (i * 7 + 2) = .string o.name ∧ f (i * 7 + 3) = .int .i64 o.dir2 ∧ f (i * 7 + 4) = .string o.name2 ∧ f (i * 7 + 5) = .int .i64 o.id ∧ f (i * 7 + 6) = .string o.text

set_option maxHeartbeats 1000000 in
theorem toOpS_any (a : Option Addr) (n c : Nat) (ops : List LOp) (L U : Nat) (w : World) (hn : n ≤ 1048576) (hU : U ≤ w.heap.size) (H : OpsAt w L U a n ops) :
    Calls Try.prog 66 #[.slice a n c] w fun e w' => (∃ b, e = .returned (.slice (some ⟨b, 0, none⟩) n n) ∧ OpsAt w' w.heap.size w'.heap.size (some ⟨b, 0, none⟩) n ops) ∧ Below w.heap.size w w' := by
  have hmk := run_make_many 64 151 _ 7 80 Try.underlying64 info65 n (by omega) (by omega)
  obtain ⟨f0, hf0⟩ := rowIs_many w #[.int .i64 0, .int .i64 0, .string ByteArray.empty, .int .i64 0, .string ByteArray.empty, .int .i64 0, .string ByteArray.empty] (n * 7) 151
  have HF0 : Hid ((w.alloc (.cells (madeCells #[.int .i64 0, .int .i64 0, .string ByteArray.empty, .int .i64 0, .string ByteArray.empty, .int .i64 0, .string ByteArray.empty] (n * 7)) 151)).rowIs w.heap.size 151 (n * 7) f0) := hf0
  clear hf0
  go_enter Try.func66, Try.ntmps66
  go_wp2
  go_loopg [4] n (fun k i wr => ∃ j : Nat, j ≤ n ∧ Hid (k = n - j) ∧ i = .int .i64 j ∧ (∃ f, Hid (wr.rowIs w.heap.size 151 (n * 7) f ∧ ∀ i, i < j → ∃ o, ops[i]? = some o ∧ opF f i o)) ∧ Below w.heap.size w wr)
  case atStart => exact ⟨0, Nat.zero_le _, by show _ = _; omega, rfl, ⟨f0, HF0.out, fun i hi => by omega⟩, (Below.refl _ _).alloc (Nat.le_refl _) _⟩
  case round =>
    obtain ⟨j, hj, hk, rfl, ⟨f, hf⟩, hb⟩ := hrel
    by_cases hlt : j < n
    · obtain ⟨b, off, ha, hL, hbU, hc⟩ := H.at_ (by omega)
      subst ha
      obtain ⟨o, he, hsz, hat⟩ := hc j hlt
      obtain ⟨d0, d1, d2, d3, d4, d5, d6⟩ := hat.of_block (hb.block b (by omega))
      have HE : Hid (ops[j]? = some o) := he
      have HTO := toOp_any o
      simp only [LOp.val] at HTO
      have hlt' : (j : Int) < (n : Int) := by omega
      have hrl := hf.out.1.lt
      clear he hc hat
      go_wp2_with fail
      refine (HTO _).mono ?_
      rintro x w1 ⟨rfl, hb1⟩
      have hrow := hf.out.1.of_block (hb1.block w.heap.size hf.out.1.lt)
      have g0 := hrow.cell (i := j * 7) (by omega)
      have g1 := hrow.cell (i := j * 7 + 1) (by omega)
      have g2 := hrow.cell (i := j * 7 + 2) (by omega)
      have g3 := hrow.cell (i := j * 7 + 3) (by omega)
      have g4 := hrow.cell (i := j * 7 + 4) (by omega)
      have g5 := hrow.cell (i := j * 7 + 5) (by omega)
      have g6 := hrow.cell (i := j * 7 + 6) (by omega)
      have z0 := hrow.frozen (j * 7)
      have z1 := hrow.frozen (j * 7 + 1)
      have z2 := hrow.frozen (j * 7 + 2)
      have z3 := hrow.frozen (j * 7 + 3)
      have z4 := hrow.frozen (j * 7 + 4)
      have z5 := hrow.frozen (j * 7 + 5)
      have z6 := hrow.frozen (j * 7 + 6)
      have HR : Hid (w1.rowIs w.heap.size 151 (n * 7) f) := hrow
      clear hrow HTO d0 d1 d2 d3 d4 d5 d6
      go_wp2_with fail
      go_roundg (n - (j + 1))
      case measure => have := hk.out; omega
      case rel =>
        have hbs := hb1.size
        refine ⟨j + 1, by omega, rfl, by go_num, ⟨_, (((((((HR.out.set (j * 7) (.int .i64 o.kind)).set (j * 7 + 1) (.int .i64 o.dir)).set (j * 7 + 2) (.string o.name)).set (j * 7 + 3) (.int .i64 o.dir2)).set (j * 7 + 4) (.string o.name2)).set (j * 7 + 5) (.int .i64 o.id)).set (j * 7 + 6) (.string o.text)), fun i hi => ?_⟩, ((((((((hb.trans (hb1.mono hb.size)).setCell (by simp) _).setCell (by simp) _).setCell (by simp) _).setCell (by simp) _).setCell (by simp) _).setCell (by simp) _).setCell (by simp) _)⟩
        by_cases hij : i = j
        · subst hij
          exact ⟨o, HE.out, by simp, by simp, by simp, by simp, by simp, by simp, by simp⟩
        · obtain ⟨o', he', q0, q1, q2, q3, q4, q5, q6⟩ := hf.out.2 i (by omega)
          refine ⟨o', he', ?_, ?_, ?_, ?_, ?_, ?_, ?_⟩ <;> dsimp only <;> rw [if_neg (by omega), if_neg (by omega), if_neg (by omega), if_neg (by omega), if_neg (by omega), if_neg (by omega), if_neg (by omega)] <;> assumption
    · go_wp2_with fail
      go_ret
      refine ⟨⟨w.heap.size, rfl, H.len, H.bd, fun hn0 => ⟨w.heap.size, 0, rfl, Nat.le_refl _, hf.out.1.lt, fun i hi => ?_⟩⟩, hb⟩
      obtain ⟨o', he', q0, q1, q2, q3, q4, q5, q6⟩ := hf.out.2 i (by omega)
      obtain ⟨b, off, ha, hL, hbU, hc⟩ := H.at_ hn0
      obtain ⟨o2, he2, hsz, _⟩ := hc i hi
      rw [he'] at he2
      cases he2
      refine ⟨o', he', hsz, by rw [← q0, Nat.zero_add]; exact hf.out.1.cell (by omega), by rw [← q1, Nat.zero_add]; exact hf.out.1.cell (by omega), by rw [← q2, Nat.zero_add]; exact hf.out.1.cell (by omega), by rw [← q3, Nat.zero_add]; exact hf.out.1.cell (by omega), by rw [← q4, Nat.zero_add]; exact hf.out.1.cell (by omega), by rw [← q5, Nat.zero_add]; exact hf.out.1.cell (by omega), by rw [← q6, Nat.zero_add]; exact hf.out.1.cell (by omega)⟩

end Go.Proofs.Ytohimbdmhljocaa

/- Lists of what is done: compared. -/
namespace Go.Proofs.Ytohimbdmhljocaa
open Go.RowKit

theorem eqOp_same (o : LOp) (w : World) : Calls Try.prog 111 #[.agg o.val, .agg o.val] w fun e w' => e = .returned (.bool true) ∧ Below w.heap.size w w' := by
  simp only [LOp.val]
  go_enter Try.func111, Try.ntmps111
  go_wp2
  go_ret
  exact ⟨rfl, ((Below.refl _ _).alloc (Nat.le_refl _) _).alloc (by simp) _⟩

set_option maxHeartbeats 800000 in
theorem eqOpS_same (a a' : Option Addr) (n c c' : Nat) (ops : List LOp) (L U L' U' : Nat) (w : World) (hU : U ≤ w.heap.size) (hU' : U' ≤ w.heap.size) (H : OpsAt w L U a n ops) (H' : OpsAt w L' U' a' n ops) :
    Calls Try.prog 69 #[.slice a n c, .slice a' n c'] w fun e w' => e = .returned (.bool true) ∧ Below w.heap.size w w' := by
  have hbd := H.bd
  unfold maxLen at hbd
  go_enter Try.func69, Try.ntmps69
  go_wp2_with fail
  go_loopg [5] n (fun k i wr => ∃ j : Nat, j ≤ n ∧ Hid (k = n - j) ∧ i = .int .i64 j ∧ Below w.heap.size w wr)
  case atStart => exact ⟨0, Nat.zero_le _, rfl, rfl, Below.refl _ _⟩
  case round =>
    obtain ⟨j, hj, hk, rfl, hb⟩ := hrel
    by_cases hlt : j < n
    · obtain ⟨b, off, ha, hL, hbU, hc⟩ := H.at_ (by omega)
      obtain ⟨b', off', ha', hL', hbU', hc'⟩ := H'.at_ (by omega)
      subst ha ha'
      obtain ⟨x, he, hsz, hat⟩ := hc j hlt
      obtain ⟨y, he2, hsz2, hat2⟩ := hc' j hlt
      obtain rfl : x = y := by rw [he] at he2; simpa using he2
      obtain ⟨c0, c1, c2, c3, c4, c5, c6⟩ := hat.of_block (hb.block b (by omega))
      obtain ⟨d0, d1, d2, d3, d4, d5, d6⟩ := hat2.of_block (hb.block b' (by omega))
      have hlt' : (j : Int) < (n : Int) := by omega
      have HEQ := eqOp_same x
      simp only [LOp.val] at HEQ
      clear he he2 hc hc' hat hat2
      go_wp2_with fail
      go_region_with (go_at_call 111; go_must (refine (HEQ _).mono ?_; rintro e w1 ⟨rfl, hb1⟩))
      all_goals
        go_wp2_with fail
        go_roundg (n - (j + 1))
        case measure => have := hk.out; omega
        case rel => exact ⟨j + 1, by omega, rfl, by go_num, hb.trans ((Below.refl _ _).drew.trans (hb1.mono (by simp)) |>.mono hb.size)⟩
    · obtain rfl : j = n := by omega
      go_wp2_with fail
      go_ret
      exact ⟨rfl, hb⟩
end Go.Proofs.Ytohimbdmhljocaa

/- Logs: on what they lean, in memory; contracts of the law's szLog, toLog, eqLog. -/
namespace Go.Proofs.Ytohimbdmhljocaa
open Go.RowKit Go.ChangeShapes Go.WideShapes

structure LBase where
  id : Int
  ver : Int
/-- What a slice of bases is. -/
structure BasesAt (w : World) (L U : Nat) (a : Option Addr) (n : Nat) (bs : List LBase) : Prop where
  len : n = bs.length
  bd : n ≤ maxLen
  at_ : n ≠ 0 → ∃ b off, a = some ⟨b, off, none⟩ ∧ L ≤ b ∧ b < U ∧ ∀ i, i < n → ∃ e, bs[i]? = some e ∧ w.cell? ⟨b, off + i * 2, none⟩ = some (.int .i64 e.id) ∧ w.cell? ⟨b, off + i * 2 + 1, none⟩ = some (.int .i64 e.ver)
theorem BasesAt.below {w w' : World} {L U B : Nat} {a : Option Addr} {n : Nat} {es : List LBase} (h : BasesAt w L U a n es) (hb : Below B w w') (hU : U ≤ B) : BasesAt w' L U a n es :=
  ⟨h.len, h.bd, fun hn => by
    obtain ⟨b, off, ha, hL, hbU, hc⟩ := h.at_ hn
    refine ⟨b, off, ha, hL, hbU, fun i hi => ?_⟩
    obtain ⟨e, he, h0, h1⟩ := hc i hi
    exact ⟨e, he, by rw [hb.cell (by simp; omega)]; exact h0, by rw [hb.cell (by simp; omega)]; exact h1⟩⟩
theorem BasesAt.wide {w : World} {L U L' U' : Nat} {a : Option Addr} {n : Nat} {es : List LBase} (h : BasesAt w L U a n es) (hL' : L' ≤ L) (hU : U ≤ U') : BasesAt w L' U' a n es :=
  ⟨h.len, h.bd, fun hn => by
    obtain ⟨b, off, ha, hL, hbU, hc⟩ := h.at_ hn
    exact ⟨b, off, ha, by omega, by omega, hc⟩⟩
theorem BasesAt.blocks {w w' : World} {L U : Nat} {a : Option Addr} {n : Nat} {es : List LBase} (h : BasesAt w L U a n es) (hb : ∀ b, L ≤ b → b < U → w'.heap[b]? = w.heap[b]?) : BasesAt w' L U a n es :=
  ⟨h.len, h.bd, fun hn => by
    obtain ⟨b, off, ha, hL, hbU, hc⟩ := h.at_ hn
    refine ⟨b, off, ha, hL, hbU, fun i hi => ?_⟩
    obtain ⟨e, he, h0, h1⟩ := hc i hi
    have hk := hb b hL hbU
    exact ⟨e, he, by rw [World.cell?_of_block (w := w) hk]; exact h0, by rw [World.cell?_of_block (w := w) hk]; exact h1⟩⟩
theorem OpsAt.blocks {w w' : World} {L U : Nat} {a : Option Addr} {n : Nat} {ops : List LOp} (h : OpsAt w L U a n ops) (hb : ∀ b, L ≤ b → b < U → w'.heap[b]? = w.heap[b]?) : OpsAt w' L U a n ops :=
  ⟨h.len, h.bd, fun hn => by
    obtain ⟨b, off, ha, hL, hbU, hc⟩ := h.at_ hn
    refine ⟨b, off, ha, hL, hbU, fun i hi => ?_⟩
    obtain ⟨o, ho, hs, h0⟩ := hc i hi
    exact ⟨o, ho, hs, h0.of_block (hb b hL hbU)⟩⟩

structure LLog where
  who : Int
  seq : Int
  bases : List LBase
  list : List LOp
/-- What a log is. -/
structure LogAt (w : World) (L U : Nat) (q s : Int) (a : Option Addr) (n : Nat) (a' : Option Addr) (n' : Nat) (l : LLog) : Prop where
  q : q = l.who
  s : s = l.seq
  b : BasesAt w L U a n l.bases
  o : OpsAt w L U a' n' l.list
theorem LogAt.below {w w' : World} {L U B : Nat} {q s : Int} {a a' : Option Addr} {n n' : Nat} {l : LLog} (h : LogAt w L U q s a n a' n' l) (hb : Below B w w') (hU : U ≤ B) : LogAt w' L U q s a n a' n' l := ⟨h.q, h.s, h.b.below hb hU, h.o.below hb hU⟩
theorem LogAt.wide {w : World} {L U L' U' : Nat} {q s : Int} {a a' : Option Addr} {n n' : Nat} {l : LLog} (h : LogAt w L U q s a n a' n' l) (hL : L' ≤ L) (hU : U ≤ U') : LogAt w L' U' q s a n a' n' l := ⟨h.q, h.s, h.b.wide hL hU, h.o.wide hL hU⟩

section
variable {H : Type} {enc : TypeId × Value → H} {w : World} {spare : Nat → Bool} {held : Bool}
theorem open_bases {fuel : Nat} {v : Value} {x : DataW H × List MemPlace} (h : DataW.trod enc Try.prog w 0 spare held fuel 59 [v] = some x) :
    ∃ a n c es, v = .slice a n c ∧ BasesAt w 0 w.heap.size a n es := by
  rcases Go.Deep.open_slice_pairs Try.underlying59 Try.underlying150 (by kernel_rfl) rfl rfl (by kernel_rfl) (by kernel_rfl) h with ⟨hcs, _⟩ | ⟨a, len, cap, m, n, V0, V1, D0, D1, P0, P1, hcs, _, hl, hm, hmm, _, hx⟩
  · simp at hcs
    exact ⟨none, 0, 0, [], hcs, rfl, by simp, fun h => absurd rfl h⟩
  · simp at hcs
    have hlm : len ≤ m := by rw [hmm]; split <;> omega
    obtain ⟨es, hes, hp⟩ := list_of (n := len) (p := fun i (e : LBase) => V0 i = .int .i64 e.id ∧ V1 i = .int .i64 e.ver) (fun i hi => by
      obtain ⟨_, _, h0, h1⟩ := hx i (by omega)
      obtain ⟨s, e0, _, _⟩ := DataW.trod_int Try.underlying3 h0
      obtain ⟨k, e1, _, _⟩ := DataW.trod_int Try.underlying3 h1
      simp at e0 e1
      exact ⟨⟨s, k⟩, e0, e1⟩)
    refine ⟨some a, len, cap, es, hcs, hes.symm, by omega, fun hn => ?_⟩
    obtain ⟨b, off, spot⟩ := a
    have c0 := (hx 0 (by omega)).1
    have hspot : spot = none := by simpa [Addr.add] using World.cell?_spot c0
    subst hspot
    refine ⟨b, off, rfl, Nat.zero_le _, by have := cell_lt c0; simpa [Addr.add] using this, fun i hi => ?_⟩
    obtain ⟨e, he, q0, q1⟩ := hp i hi
    obtain ⟨h0, h1, _, _⟩ := hx i (by omega)
    exact ⟨e, he, by rw [← q0, ← addr_add]; exact h0, by rw [← q1, Nat.add_assoc, ← addr_add]; exact h1⟩
end

theorem szBaseS_any (a : Option Addr) (n c : Nat) (es : List LBase) (L U : Nat) (left : Int) (w : World) (h0 : 0 ≤ left) (h1 : left ≤ 1048576) (H : BasesAt w L U a n es) :
    Calls Try.prog 63 #[.slice a n c, .int .i64 left] w fun e w' => (∃ r : Int, e = .returned (.int .i64 r) ∧ (r = -1 ∨ (0 ≤ r ∧ r = left - n))) ∧ Below w.heap.size w w' := by
  have hbd := H.bd
  unfold maxLen at hbd
  by_cases h : left - n < 0
  · go_enter Try.func63, Try.ntmps63
    go_wp2
    go_ret
    exact ⟨⟨-1, rfl, .inl rfl⟩, Below.refl _ _⟩
  · go_enter Try.func63, Try.ntmps63
    go_wp2
    go_ret
    exact ⟨⟨_, rfl, .inr ⟨by omega, rfl⟩⟩, Below.refl _ _⟩

set_option maxHeartbeats 400000 in
theorem szLog_any (q s : Int) (a : Option Addr) (n c : Nat) (a' : Option Addr) (n' c' : Nat) (l : LLog) (L U : Nat) (left : Int) (w : World) (h0 : 0 ≤ left) (h1 : left ≤ 1048576) (hU : U ≤ w.heap.size) (H : LogAt w L U q s a n a' n' l) :
    Calls Try.prog 20 #[.agg #[.int .i64 q, .int .i64 s, .slice a n c, .slice a' n' c'], .int .i64 left] w fun e w' => (∃ r : Int, e = .returned (.int .i64 r) ∧ (r = -1 ∨ (0 ≤ r ∧ r = left - n - n' - totOps l.list))) ∧ Below w.heap.size w w' := by
  have HB := H.b
  have HO := H.o
  clear H
  go_enter Try.func20, Try.ntmps20
  go_wp2_with fail
  have hA : Below w.heap.size w (w.alloc (Obj.cells #[.int .i64 q, .int .i64 s, .slice a n c, .slice a' n' c'] 62)) := (Below.refl _ _).alloc (Nat.le_refl _) _
  refine (szBaseS_any _ _ _ _ L U _ _ h0 h1 (HB.below hA hU)).mono ?_
  rintro x w1 ⟨⟨r, rfl, hr⟩, hb⟩
  have HR : Hid (r = -1 ∨ 0 ≤ r ∧ r = left - n) := hr
  clear hr
  have hb' : Below w.heap.size w w1 := hA.trans (hb.mono (by simp))
  have c3 : w1.cell? ⟨w.heap.size, 3, none⟩ = some (.slice a' n' c') := by rw [hb.cell (by simp)]; simp [go_sem]
  have hs1 := hb'.size
  by_cases hneg : r < 0
  · go_wp2_with fail
    go_ret
    exact ⟨⟨-1, rfl, .inl rfl⟩, hb'⟩
  · go_wp2_with fail
    refine (szOpS_any _ _ _ _ L U _ _ (by omega) (by have := HR.out; omega) (by omega) (HO.below hb' hU)).mono ?_
    rintro x w2 ⟨⟨r2, rfl, hr2⟩, hb2⟩
    have HR2 : Hid (r2 = -1 ∨ 0 ≤ r2 ∧ r2 = r - n' - totOps l.list) := hr2
    clear hr2
    have hb2' : Below w.heap.size w w2 := hb'.trans (hb2.mono hs1)
    by_cases hneg2 : r2 < 0
    · go_wp2_with fail
      go_ret
      exact ⟨⟨-1, rfl, .inl rfl⟩, hb2'⟩
    · go_wp2_with fail
      go_ret
      exact ⟨⟨r2, rfl, by have := HR.out; have := HR2.out; omega⟩, hb2'⟩

theorem toBase_any (i j : Int) (w : World) :
    Calls Try.prog 108 #[.agg #[.int .i64 i, .int .i64 j]] w fun e w' => e = .returned (.agg #[.int .i64 i, .int .i64 j]) ∧ Below w.heap.size w w' := by
  go_enter Try.func108, Try.ntmps108
  go_wp2
  exact bodyPost_ret (v := .agg #[.int .i64 i, .int .i64 j]) (by simp [results, Try.results108, go_sem]) rfl ⟨rfl, by
    repeat (first | exact Below.refl _ _ | refine Below.setCell ?_ (by simp <;> omega) _ | refine Below.alloc ?_ (by simp <;> omega) _)⟩

theorem infoB : (Try.prog.info? 137).map (fun i => (i.zero.map (·.cells), i.size, i.bytes)) = some (some #[.int .i64 0, .int .i64 0], 2, 16) := by kernel_rfl

/-- Bases in a row of one's own, from its first cell on. -/
def BaseRow (w : World) (B : Nat) (a : Option Addr) (n g cap : Nat) (f : Nat → Value) : Prop := n ≠ 0 → a = some ⟨g, 0, none⟩ ∧ B ≤ g ∧ n * 2 ≤ cap ∧ w.rowIs g 137 cap f
def baseF (f : Nat → Value) (es : List LBase) : Prop := ∀ i e, es[i]? = some e → f (i * 2) = .int .i64 e.id ∧ f (i * 2 + 1) = .int .i64 e.ver
theorem BaseRow.at_ {w : World} {B : Nat} {a : Option Addr} {n g cap : Nat} {f : Nat → Value} {es : List LBase} (h : BaseRow w B a n g cap f) (hf : baseF f es) (hn : n = es.length) (hbd : n ≤ maxLen) : BasesAt w B w.heap.size a n es :=
  ⟨hn, hbd, fun h0 => by
    obtain ⟨h1, h2, h3, h4⟩ := h h0
    refine ⟨g, 0, h1, h2, h4.lt, fun i hi => ?_⟩
    have hl : es[i]? = some (es[i]'(by omega)) := by simp [show i < es.length by omega]
    obtain ⟨q0, q1⟩ := hf i _ hl
    exact ⟨_, hl, by rw [Nat.zero_add, h4.cell (by omega), q0], by rw [Nat.zero_add, h4.cell (by omega), q1]⟩⟩
theorem BaseRow.kept {w w' : World} {B : Nat} {a : Option Addr} {n g cap : Nat} {f : Nat → Value} (h : BaseRow w B a n g cap f) (hb : ∀ k, k = g → k < w.heap.size → w'.heap[k]? = w.heap[k]?) : BaseRow w' B a n g cap f := fun hn => by
  obtain ⟨h1, h2, h3, h4⟩ := h hn
  exact ⟨h1, h2, h3, h4.of_block (hb g rfl h4.lt)⟩

set_option maxHeartbeats 400000 in
theorem toBaseS_any (a : Option Addr) (n c : Nat) (es : List LBase) (L U : Nat) (w : World) (hn : n ≤ 1048576) (hU : U ≤ w.heap.size) (H : BasesAt w L U a n es) :
    Calls Try.prog 65 #[.slice a n c] w fun e w' => (∃ b, e = .returned (.slice (some ⟨b, 0, none⟩) n n) ∧ BasesAt w' w.heap.size w'.heap.size (some ⟨b, 0, none⟩) n es) ∧ Below w.heap.size w w' := by
  have hmk := run_make_many 63 137 _ 2 16 Try.underlying63 infoB n (by omega) (by omega)
  obtain ⟨f0, hf0⟩ := rowIs_many w #[.int .i64 0, .int .i64 0] (n * 2) 137
  have HF0 : Hid ((w.alloc (.cells (madeCells #[.int .i64 0, .int .i64 0] (n * 2)) 137)).rowIs w.heap.size 137 (n * 2) f0) := hf0
  clear hf0
  go_enter Try.func65, Try.ntmps65
  go_wp2
  go_loopg [4] n (fun k i wr => ∃ j : Nat, j ≤ n ∧ Hid (k = n - j) ∧ i = .int .i64 j ∧ (∃ f, Hid (wr.rowIs w.heap.size 137 (n * 2) f ∧ ∀ i, i < j → ∃ e, es[i]? = some e ∧ f (i * 2) = .int .i64 e.id ∧ f (i * 2 + 1) = .int .i64 e.ver)) ∧ Below w.heap.size w wr)
  case atStart => exact ⟨0, Nat.zero_le _, by show _ = _; omega, rfl, ⟨f0, HF0.out, fun i hi => by omega⟩, (Below.refl _ _).alloc (Nat.le_refl _) _⟩
  case round =>
    obtain ⟨j, hj, hk, rfl, ⟨f, hf⟩, hb⟩ := hrel
    by_cases hlt : j < n
    · obtain ⟨b, off, ha, hL, hbU, hc⟩ := H.at_ (by omega)
      subst ha
      obtain ⟨e, he, hc0, hc1⟩ := hc j hlt
      rw [← hb.cell (by simp; omega)] at hc0 hc1
      have HE : Hid (es[j]? = some e) := he
      clear he hc
      go_wp2_with fail
      refine (toBase_any _ _ _).mono ?_
      rintro x w1 ⟨rfl, hb1⟩
      have hrow := hf.out.1.of_block (hb1.block w.heap.size hf.out.1.lt)
      have g0 := hrow.cell (i := j * 2) (by omega)
      have g1 := hrow.cell (i := j * 2 + 1) (by omega)
      have z0 := hrow.frozen (j * 2)
      have z1 := hrow.frozen (j * 2 + 1)
      have HR : Hid (w1.rowIs w.heap.size 137 (n * 2) f) := hrow
      clear hrow
      go_wp2_with fail
      go_roundg (n - (j + 1))
      case measure => have := hk.out; omega
      case rel =>
        refine ⟨j + 1, by omega, rfl, by go_num, ⟨_, (HR.out.set (j * 2) (.int .i64 e.id)).set (j * 2 + 1) (.int .i64 e.ver), fun i hi => ?_⟩, ((hb.trans (hb1.mono hb.size)).setCell (by simp) _).setCell (by simp) _⟩
        by_cases hij : i = j
        · subst hij
          exact ⟨e, HE.out, by simp, by simp⟩
        · obtain ⟨e', he', q0, q1⟩ := hf.out.2 i (by omega)
          refine ⟨e', he', ?_, ?_⟩
          · show (if i * 2 = j * 2 + 1 then _ else if i * 2 = j * 2 then _ else f (i * 2)) = _
            rw [if_neg (by omega), if_neg (by omega)]; exact q0
          · show (if i * 2 + 1 = j * 2 + 1 then _ else if i * 2 + 1 = j * 2 then _ else f (i * 2 + 1)) = _
            rw [if_neg (by omega), if_neg (by omega)]; exact q1
    · go_wp2_with fail
      go_ret
      refine ⟨⟨w.heap.size, rfl, H.len, H.bd, fun hn0 => ⟨w.heap.size, 0, rfl, Nat.le_refl _, hf.out.1.lt, fun i hi => ?_⟩⟩, hb⟩
      obtain ⟨e', he', q0, q1⟩ := hf.out.2 i (by omega)
      exact ⟨e', he', by rw [← q0, Nat.zero_add]; exact hf.out.1.cell (by omega), by rw [← q1, Nat.zero_add]; exact hf.out.1.cell (by omega)⟩

set_option maxHeartbeats 400000 in
theorem toLog_any (q s : Int) (a : Option Addr) (n c : Nat) (a' : Option Addr) (n' c' : Nat) (l : LLog) (L U : Nat) (w : World) (hn : n ≤ 1048576) (hn' : n' ≤ 1048576) (hU : U ≤ w.heap.size) (H : LogAt w L U q s a n a' n' l) :
    Calls Try.prog 21 #[.agg #[.int .i64 q, .int .i64 s, .slice a n c, .slice a' n' c']] w fun e w' => (∃ b b', e = .returned (.agg #[.int .i64 q, .int .i64 s, .slice (some ⟨b, 0, none⟩) n n, .slice (some ⟨b', 0, none⟩) n' n']) ∧ LogAt w' w.heap.size w'.heap.size q s (some ⟨b, 0, none⟩) n (some ⟨b', 0, none⟩) n' l) ∧ Below w.heap.size w w' := by
  have HH := H
  have HB := H.b
  have HO := H.o
  clear H
  go_enter Try.func21, Try.ntmps21
  go_wp2_with fail
  refine (toBaseS_any _ _ _ _ L U _ hn (by simp <;> omega) (HB.below ((((Below.refl _ _).alloc (Nat.le_refl _) _).alloc (by simp) _).alloc (by simp <;> omega) _) hU)).mono ?_
  rintro x w1 ⟨⟨b, rfl, hk⟩, hb⟩
  have hz : w.heap.size + 3 ≤ w1.heap.size := by have := hb.size; simp at this; omega
  have hb0 : Below w.heap.size w w1 := ((((Below.refl _ _).alloc (Nat.le_refl _) _).alloc (by simp) _).alloc (by simp <;> omega) _).trans (hb.mono (by simp <;> omega))
  have hk1 : BasesAt w1 (w.heap.size + 3) w1.heap.size (some ⟨b, 0, none⟩) n l.bases := hk.wide (by simp) (Nat.le_refl _)
  obtain ⟨hc, hf⟩ := bcell hb
  have p3 : w1.cell? ⟨w.heap.size, 3, none⟩ = some (.slice a' n' c') := by rw [hc _ _ (by simp <;> omega)]; simp [go_sem]
  have r0 : w1.cell? ⟨w.heap.size + 1, 0, none⟩ = some (.int .i64 0) := by rw [hc _ _ (by simp <;> omega)]; simp [go_sem]
  have r1 : w1.cell? ⟨w.heap.size + 1, 1, none⟩ = some (.int .i64 0) := by rw [hc _ _ (by simp <;> omega)]; simp [go_sem]
  have r2 : w1.cell? ⟨w.heap.size + 1, 2, none⟩ = some (.slice none 0 0) := by rw [hc _ _ (by simp <;> omega)]; simp [go_sem]
  have r3 : w1.cell? ⟨w.heap.size + 1, 3, none⟩ = some (.slice none 0 0) := by rw [hc _ _ (by simp <;> omega)]; simp [go_sem]
  have q0 : w1.cell? ⟨w.heap.size + 1 + 1, 0, none⟩ = some (.int .i64 q) := by rw [hc _ _ (by simp)]; simp [go_sem]
  have q1 : w1.cell? ⟨w.heap.size + 1 + 1, 1, none⟩ = some (.int .i64 s) := by rw [hc _ _ (by simp)]; simp [go_sem]
  have q2 : w1.cell? ⟨w.heap.size + 1 + 1, 2, none⟩ = some (.slice none 0 0) := by rw [hc _ _ (by simp)]; simp [go_sem]
  have q3 : w1.cell? ⟨w.heap.size + 1 + 1, 3, none⟩ = some (.slice none 0 0) := by rw [hc _ _ (by simp)]; simp [go_sem]
  have y1 : ∀ o, w1.frozen? ⟨w.heap.size + 1, o, none⟩ = false := fun o => by rw [hf _ _ (by simp <;> omega)]; simp [go_sem]
  have y2 : ∀ o, w1.frozen? ⟨w.heap.size + 1 + 1, o, none⟩ = false := fun o => by rw [hf _ _ (by simp)]; simp [go_sem]
  clear hc hf hb hk
  go_wp2_with fail
  refine (toOpS_any _ _ _ _ L U _ hn' (by simp <;> omega) (HO.below (hb0.setCell (by simp <;> omega) _) hU)).mono ?_
  rintro x w2 ⟨⟨b', rfl, hk2⟩, hb2⟩
  obtain ⟨hc, hf⟩ := bcell hb2
  have hz2 : w1.heap.size ≤ w2.heap.size := by have := hb2.size; simp at this; omega
  have e0 := hc (w.heap.size + 1) 0 (by simp <;> omega)
  have e1 := hc (w.heap.size + 1) 1 (by simp <;> omega)
  have e2 := hc (w.heap.size + 1) 2 (by simp <;> omega)
  have e3 := hc (w.heap.size + 1) 3 (by simp <;> omega)
  have d0 := hc (w.heap.size + 1 + 1) 0 (by simp <;> omega)
  have d1 := hc (w.heap.size + 1 + 1) 1 (by simp <;> omega)
  have d2 := hc (w.heap.size + 1 + 1) 2 (by simp <;> omega)
  have d3 := hc (w.heap.size + 1 + 1) 3 (by simp <;> omega)
  have x1 : ∀ o, w2.frozen? ⟨w.heap.size + 1, o, none⟩ = false := fun o => by rw [hf _ _ (by simp <;> omega)]; simp [go_sem, y1]
  have x2 : ∀ o, w2.frozen? ⟨w.heap.size + 1 + 1, o, none⟩ = false := fun o => by rw [hf _ _ (by simp <;> omega)]; simp [go_sem, y2]
  simp [go_sem, r0, r1, r2, r3, q0, q1, q2, q3] at e0 e1 e2 e3 d0 d1 d2 d3
  have hb3 : Below w.heap.size w w2 := (hb0.setCell (p := ⟨w.heap.size + 1 + 1, 2, none⟩) (by simp <;> omega) (.slice (some ⟨b, 0, none⟩) n n)).trans (hb2.mono (by simp <;> omega))
  have hk3 : BasesAt w2 (w.heap.size + 3) w1.heap.size (some ⟨b, 0, none⟩) n l.bases := hk1.blocks fun k h1 h2 => by
    rw [hb2.block k (by simp <;> omega)]
    exact Below.heap_setCell _ _ _ k (by simp <;> omega)
  have hk4 : OpsAt w2 (w.heap.size + 3) w2.heap.size (some ⟨b', 0, none⟩) n' l.list := hk2.wide (by simp <;> omega) (Nat.le_refl _)
  clear hc hf hb2 hk1 hk2 p3 r0 r1 r2 r3 q0 q1 q2 q3 y1 y2
  go_wp2_with fail
  refine bodyPost_ret (v := .agg #[.int .i64 q, .int .i64 s, .slice (some ⟨b, 0, none⟩) n n, .slice (some ⟨b', 0, none⟩) n' n']) (by simp [results, Try.results21, go_sem, e0, e1, e2, e3]) rfl ⟨⟨b, b', rfl, HH.q, HH.s, ?_, ?_⟩, ?_⟩
  · refine BasesAt.wide (L := w.heap.size + 3) (U := w1.heap.size) ?_ (by omega) (by simp <;> omega)
    refine hk3.blocks fun k h1 h2 => ?_
    iterate 5 refine (Below.heap_setCell _ _ _ k (by simp <;> omega)).trans ?_
    rfl
  · refine OpsAt.wide (L := w.heap.size + 3) (U := w2.heap.size) ?_ (by omega) (by simp)
    refine hk4.blocks fun k h1 h2 => ?_
    iterate 5 refine (Below.heap_setCell _ _ _ k (by simp <;> omega)).trans ?_
    rfl
  · repeat (first | exact hb3 | refine Below.setCell ?_ (by simp <;> omega) _)

theorem eqBase_same (i j : Int) (w : World) :
    Calls Try.prog 110 #[.agg #[.int .i64 i, .int .i64 j], .agg #[.int .i64 i, .int .i64 j]] w fun e w' => e = .returned (.bool true) ∧ Below w.heap.size w w' := by
  go_enter Try.func110, Try.ntmps110
  go_wp2
  go_ret
  exact ⟨by simp, ((Below.refl _ _).alloc (Nat.le_refl _) _).alloc (by simp) _⟩

set_option maxHeartbeats 800000 in
theorem eqBaseS_same (a a' : Option Addr) (n c c' : Nat) (es : List LBase) (L U L' U' : Nat) (w : World) (hU : U ≤ w.heap.size) (hU' : U' ≤ w.heap.size) (H : BasesAt w L U a n es) (H' : BasesAt w L' U' a' n es) :
    Calls Try.prog 68 #[.slice a n c, .slice a' n c'] w fun e w' => e = .returned (.bool true) ∧ Below w.heap.size w w' := by
  have hbd := H.bd
  unfold maxLen at hbd
  go_enter Try.func68, Try.ntmps68
  go_wp2_with fail
  go_loopg [5] n (fun k i wr => ∃ j : Nat, j ≤ n ∧ Hid (k = n - j) ∧ i = .int .i64 j ∧ Below w.heap.size w wr)
  case atStart => exact ⟨0, Nat.zero_le _, rfl, rfl, Below.refl _ _⟩
  case round =>
    obtain ⟨j, hj, hk, rfl, hb⟩ := hrel
    by_cases hlt : j < n
    · obtain ⟨b, off, ha, hL, hbU, hc⟩ := H.at_ (by omega)
      obtain ⟨b', off', ha', hL', hbU', hc'⟩ := H'.at_ (by omega)
      subst ha ha'
      obtain ⟨x, he, c0, c1⟩ := hc j hlt
      obtain ⟨y, he2, d0, d1⟩ := hc' j hlt
      obtain rfl : x = y := by rw [he] at he2; simpa using he2
      rw [← hb.cell (by simp <;> omega)] at c0 c1 d0 d1
      have hlt' : (j : Int) < (n : Int) := by omega
      have HEQ := eqBase_same x.id x.ver
      clear he he2 hc hc'
      go_wp2_with fail
      go_region_with (go_at_call 110; go_must (refine (HEQ _).mono ?_; rintro e w1 ⟨rfl, hb1⟩))
      all_goals
        go_wp2_with fail
        go_roundg (n - (j + 1))
        case measure => have := hk.out; omega
        case rel => exact ⟨j + 1, by omega, rfl, by go_num, hb.trans ((Below.refl _ _).drew.trans (hb1.mono (by simp)) |>.mono hb.size)⟩
    · obtain rfl : j = n := by omega
      go_wp2_with fail
      go_ret
      exact ⟨rfl, hb⟩

set_option maxHeartbeats 800000 in
theorem eqLog_same (q s : Int) (a : Option Addr) (n c : Nat) (a' : Option Addr) (n' c' : Nat) (a2 : Option Addr) (c2 : Nat) (a2' : Option Addr) (c2' : Nat) (l : LLog) (L U L' U' : Nat) (w : World) (hU : U ≤ w.heap.size) (hU' : U' ≤ w.heap.size) (H : LogAt w L U q s a n a' n' l) (H' : LogAt w L' U' q s a2 n a2' n' l) :
    Calls Try.prog 24 #[.agg #[.int .i64 q, .int .i64 s, .slice a n c, .slice a' n' c'], .agg #[.int .i64 q, .int .i64 s, .slice a2 n c2, .slice a2' n' c2']] w fun e w' => e = .returned (.bool true) ∧ Below w.heap.size w w' := by
  have HB := H.b
  have HO := H.o
  have HB' := H'.b
  have HO' := H'.o
  clear H H'
  go_enter Try.func24, Try.ntmps24
  go_wp2_with fail
  refine (eqBaseS_same _ _ _ _ _ _ L U L' U' _ (by simp <;> omega) (by simp <;> omega) (HB.below (((Below.refl _ _).alloc (Nat.le_refl _) _).alloc (by simp) _) hU) (HB'.below (((Below.refl _ _).alloc (Nat.le_refl _) _).alloc (by simp) _) hU')).mono ?_
  rintro x w1 ⟨rfl, hb1⟩
  have hb2 : Below w.heap.size w w1 := (((Below.refl _ _).alloc (Nat.le_refl _) _).alloc (by simp) _).trans (hb1.mono (by simp <;> omega))
  have hz := hb2.size
  have p3 : w1.cell? ⟨w.heap.size, 3, none⟩ = some (.slice a' n' c') := by rw [hb1.cell (by simp <;> omega)]; simp [go_sem]
  have p4 : w1.cell? ⟨w.heap.size + 1, 3, none⟩ = some (.slice a2' n' c2') := by rw [hb1.cell (by simp)]; simp [go_sem]
  clear hb1
  go_wp2_with fail
  refine (eqOpS_same _ _ _ _ _ _ L U L' U' _ (by omega) (by omega) (HO.below hb2 hU) (HO'.below hb2 hU')).mono ?_
  rintro x w2 ⟨rfl, hb3⟩
  go_wp2_with fail
  go_ret
  exact ⟨rfl, hb2.trans (hb3.mono hz)⟩
end Go.Proofs.Ytohimbdmhljocaa

/- Draws: contracts of the reader of bytes. -/
namespace Go.Proofs.Ytohimbdmhljocaa
open Go.RowKit

/-- The bytes behind a slice. -/
structure BytesAt (w : World) (U : Nat) (a : Option Addr) (n : Nat) (zs : List Int) : Prop where
  len : n = zs.length
  at_ : n ≠ 0 → ∃ b off, a = some ⟨b, off, none⟩ ∧ b < U ∧ ∀ i, i < n → ∃ z, zs[i]? = some z ∧ 0 ≤ z ∧ z ≤ 255 ∧ w.cell? ⟨b, off + i, none⟩ = some (.int .u8 z)

/-- A reader of bytes, its state. -/
structure RdAt (w : World) (rb : Nat) (p : Nat) : Prop where
  all : ∃ a n c zs, n ≤ 2000 ∧ w.cell? ⟨rb, 0, none⟩ = some (.slice a n c) ∧ w.cell? ⟨rb, 1, none⟩ = some (.int .i64 p) ∧ w.frozen? ⟨rb, 1, none⟩ = false ∧ BytesAt w rb a n zs
  lt : rb < w.heap.size
theorem BytesAt.below {w w' : World} {B U : Nat} {a : Option Addr} {n : Nat} {zs : List Int} (h : BytesAt w U a n zs) (hb : Below B w w') (hU : U ≤ B) : BytesAt w' U a n zs :=
  ⟨h.len, fun hn => by
    obtain ⟨b, off, ha, hbU, hc⟩ := h.at_ hn
    refine ⟨b, off, ha, hbU, fun i hi => ?_⟩
    obtain ⟨z, hz, h0, h1, h2⟩ := hc i hi
    exact ⟨z, hz, h0, h1, by rw [hb.cell (by simp; omega)]; exact h2⟩⟩
theorem RdAt.below {w w' : World} {rb p : Nat} (h : RdAt w rb p) {B : Nat} (hb : Below B w w') (hB : rb < B) : RdAt w' rb p := by
  obtain ⟨a, n, c, zs, h0, h1, h2, h3, h4⟩ := h.all
  exact ⟨⟨a, n, c, zs, h0, by rw [hb.cell (by simpa using hB)]; exact h1, by rw [hb.cell (by simpa using hB)]; exact h2, by rw [hb.frozen (by simpa using hB)]; exact h3, h4.below hb (by omega)⟩, by have := hb.size; have := h.lt; omega⟩
/-- The world behind a draw: the reader one place on, all below it and all other blocks as they were. -/
structure Drawn (w w' : World) (rb : Nat) : Prop where
  below : Below rb w w'
  size : w'.heap.size = w.heap.size
  block : ∀ k, k ≠ rb → w'.heap[k]? = w.heap[k]?
end Go.Proofs.Ytohimbdmhljocaa

/- Drawn names and texts: the walk of the law FnTreeWord. -/
namespace Go.Proofs.Ytohimbdmhljocaa
open Go.RowKit

theorem Drawn.cell {w w' : World} {rb : Nat} (h : Drawn w w' rb) {q : Addr} (hq : q.block ≠ rb) : w'.cell? q = w.cell? q := World.cell?_of_block (w := w) (h.block q.block hq)
theorem BytesAt.wide {w : World} {U U' : Nat} {a : Option Addr} {n : Nat} {zs : List Int} (h : BytesAt w U a n zs) (hU : U ≤ U') : BytesAt w U' a n zs :=
  ⟨h.len, fun hn => by
    obtain ⟨b, off, ha, hbU, hc⟩ := h.at_ hn
    exact ⟨b, off, ha, by omega, hc⟩⟩
end Go.Proofs.Ytohimbdmhljocaa

/- Marks laid into a tree and looked for again; a tree that is opened: contracts. -/
namespace Go.Proofs.Ytohimbdmhljocaa
open Go.RowKit

/-- All blocks that were there but one are as they were. -/
structure But (b : Nat) (w w' : World) : Prop where
  below : Below b w w'
  block : ∀ k, k ≠ b → k < w.heap.size → w'.heap[k]? = w.heap[k]?
theorem But.cell {b : Nat} {w w' : World} (h : But b w w') {q : Addr} (h1 : q.block ≠ b) (h2 : q.block < w.heap.size) : w'.cell? q = w.cell? q := World.cell?_of_block (w := w) (h.block q.block h1 h2)
theorem But.refl (b : Nat) (w : World) : But b w w := ⟨Below.refl _ _, fun _ _ _ => rfl⟩
theorem But.trans {b : Nat} {w w1 w2 : World} (h : But b w w1) (k : But b w1 w2) : But b w w2 :=
  ⟨h.below.trans k.below, fun i h1 h2 => (k.block i h1 (by have := h.below.size; omega)).trans (h.block i h1 h2)⟩
theorem But.next {b : Nat} {w w1 w2 : World} (h : But b w w1) (hb : b ≤ w1.heap.size) (k : Below w1.heap.size w1 w2) : But b w w2 :=
  h.trans ⟨k.mono hb, fun i _ h2 => k.block i h2⟩
theorem But.set {b : Nat} {w w1 : World} (h : But b w w1) (o : Nat) (v : Value) : But b w (w1.setCell ⟨b, o, none⟩ v) :=
  h.trans ⟨(Below.refl _ _).setCell (by exact Nat.le_refl _) _, fun i h1 _ => Below.heap_setCell w1 ⟨b, o, none⟩ v i h1⟩

end Go.Proofs.Ytohimbdmhljocaa

/- Draws over a tree: one of a list of numbers; the numbers of the objects of a kind. -/
namespace Go.Proofs.Ytohimbdmhljocaa
open Go.RowKit

def OwnInts (w : World) (B : Nat) (v : Value) (l : List Nat) : Prop := w.ownsRow B 3 1 v l.length (l.map fun i : Nat => Value.int .i64 i)
theorem below_grown {B : Nat} {w w1 w2 : World} {row : Option Nat} (h : Below B w w1) (hg : w1.grownBy w2 row) (hr : ∀ k, row = some k → B ≤ k) (hs : B ≤ w1.heap.size) : Below B w w2 :=
  h.trans ⟨hg.os, hg.tape, hg.output, hg.size, fun k hk => hg.block k (by omega) (fun e => by have := hr k e.symm; omega)⟩

end Go.Proofs.Ytohimbdmhljocaa

/- Draws over a tree: a directory's number, any number. -/
namespace Go.Proofs.Ytohimbdmhljocaa
open Go.RowKit

theorem OwnInts.get {w : World} {B : Nat} {v : Value} {l : List Nat} (h : OwnInts w B v l) (hl : l ≠ []) : ∃ g c, v = .slice (some ⟨g, 0, none⟩) l.length c ∧ B ≤ g ∧ g < w.heap.size ∧ ∀ i, i < l.length → ∃ k, l[i]? = some k ∧ w.cell? ⟨g, i, none⟩ = some (.int .i64 (k : Nat)) := by
  have h0 : 0 < l.length := List.length_pos_iff.mpr hl
  obtain ⟨g, c, rfl, hb, hlt⟩ := World.ownsRow.form h h0
  refine ⟨g, c, rfl, hb, hlt, fun i hi => ⟨l[i], by simp [hi], ?_⟩⟩
  have := World.ownsRow.cellAt h i (by simpa using hi)
  rw [this]; simp [hi]
theorem OwnInts.nil {w : World} {B : Nat} {v : Value} (h : OwnInts w B v []) : ∃ a c, v = .slice a 0 c := by
  rcases h.2 with ⟨rfl, _⟩ | ⟨g, cap, cur, rfl, _⟩
  · exact ⟨_, _, rfl⟩
  · exact ⟨_, _, rfl⟩

end Go.Proofs.Ytohimbdmhljocaa

/- Draws over a tree: a number that was nobody's. -/
namespace Go.Proofs.Ytohimbdmhljocaa
open Go.RowKit

end Go.Proofs.Ytohimbdmhljocaa
