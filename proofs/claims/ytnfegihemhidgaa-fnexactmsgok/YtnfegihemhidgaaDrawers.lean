import Derived.Test.YtnfegihemhidgaaReader
import Derived.Test.YtnfegihemhidgaaEq
import Derived.OwnWalk
import Derived.Deep.AppendLies
import Derived.Deep.Onto
import Derived.Test.YtnfegihemhidgaaMark
/- Draws over a tree: one of a list of numbers; the numbers of the objects of a kind. -/
namespace Go.Proofs.Ytnfegihemhidgaa
open Go.RowKit

/-- One of a list of numbers. -/
def NumEnd (G : Int → Prop) (e : Ending) : Prop := ∃ z : Int, e = .returned (.int .i64 z) ∧ G z

/-- Whether an object is of a kind, or of any but none. -/
def liveB (kind : Int) (o : LObj) : Bool := !decide (o.kind = 0) && (decide (kind = 0) || decide (o.kind = kind))
/-- The numbers of the objects of a kind among the first k. -/
def liveL (os : List LObj) (kind : Int) (k : Nat) : List Nat := (List.range k).filter fun i => match os[i]? with | some o => liveB kind o | none => false
theorem liveL_le (os : List LObj) (kind : Int) (k : Nat) : (liveL os kind k).length ≤ k := by
  have := List.length_filter_le (fun i => match os[i]? with | some o => liveB kind o | none => false) (List.range k)
  simpa [liveL] using this
theorem liveL_yes {os : List LObj} {kind : Int} {k : Nat} {o : LObj} (h : os[k]? = some o) (hb : liveB kind o = true) : liveL os kind (k + 1) = liveL os kind k ++ [k] := by
  simp [liveL, List.range_succ, List.filter_append, h, hb]
theorem liveL_no {os : List LObj} {kind : Int} {k : Nat} {o : LObj} (h : os[k]? = some o) (hb : liveB kind o = false) : liveL os kind (k + 1) = liveL os kind k := by
  simp [liveL, List.range_succ, List.filter_append, h, hb]

def OwnInts (w : World) (B : Nat) (v : Value) (l : List Nat) : Prop := w.ownsRow B 3 1 v l.length (l.map fun i : Nat => Value.int .i64 i)
theorem infoI : (Try.prog.info? 3).map (fun i => (i.zero, i.size, i.bytes)) = some (some (.int .i64 0), 1, 8) := by kernel_rfl

theorem below_grown {B : Nat} {w w1 w2 : World} {row : Option Nat} (h : Below B w w1) (hg : w1.grownBy w2 row) (hr : ∀ k, row = some k → B ≤ k) (hs : B ≤ w1.heap.size) : Below B w w2 :=
  h.trans ⟨hg.os, hg.tape, hg.output, hg.size, fun k hk => hg.block k (by omega) (fun e => by have := hr k e.symm; omega)⟩

theorem one_at {w : World} {u v : Value} {t : TypeId} {i : Nat} (h : [v][i]? = some u) : (w.alloc (Obj.cells #[v] t)).cell? ((⟨w.heap.size, 0, none⟩ : Addr).add i) = some u := by
  match i, h with
  | 0, h => simp at h; subst h; simp [Addr.add]
theorem keepInts {wr w0 w1 : World} {B : Nat} {u v' : Value} {l : List Nat} {j : Nat} {y : Value} {o1 : Obj} (hown : Hid (OwnInts wr (B + 1) u l)) (hbx : wr.cell? ⟨B, 0, none⟩ = some y) (hb : Below (B + 1) w0 wr) (hsz : B + 1 ≤ wr.heap.size)
    (hown' : w1.ownsRow (B + 1) 3 1 v' (l.length + 1) (l.map (fun i : Nat => Value.int .i64 i) ++ [Value.int .i64 (j : Int)])) (hgrow : (wr.alloc o1).grownBy w1 u.ownBlock) :
    OwnInts w1 (B + 1) v' (l ++ [j]) ∧ w1.cell? ⟨B, 0, none⟩ = some y ∧ Below (B + 1) w0 w1 := by
  have hr : ∀ k, u.ownBlock = some k → B + 1 ≤ k := fun k e => (hown.out.lt k e).1
  have hb1 : Below (B + 1) wr w1 := below_grown ((Below.refl _ _).alloc (by omega) _) hgrow hr (by simp; omega)
  exact ⟨by simpa [OwnInts] using hown', by rw [hb1.cell (by simp)]; exact hbx, hb.trans hb1⟩

end Go.Proofs.Ytnfegihemhidgaa

/- Draws over a tree: a directory's number, any number. -/
namespace Go.Proofs.Ytnfegihemhidgaa
open Go.RowKit

theorem EntsAt.but {w w' : World} {L U rb : Nat} {a : Option Addr} {n : Nat} {es : List LEnt} (h : EntsAt w L U a n es) (hb : But rb w w') (hr : rb < L) (hU : U ≤ w.heap.size) : EntsAt w' L U a n es :=
  ⟨h.len, h.bd, fun hn => by
    obtain ⟨b, off, ha, hL, hbU, hc⟩ := h.at_ hn
    refine ⟨b, off, ha, hL, hbU, fun i hi => ?_⟩
    obtain ⟨e, h1, h2, h3, h4⟩ := hc i hi
    exact ⟨e, h1, h2, by rw [hb.cell (by simp; omega) (by simp; omega)]; exact h3, by rw [hb.cell (by simp; omega) (by simp; omega)]; exact h4⟩⟩
theorem ObjsAt.but {w w' : World} {L U rb : Nat} {a : Option Addr} {n : Nat} {os : List LObj} (h : ObjsAt w L U a n os) (hb : But rb w w') (hr : rb < L) (hU : U ≤ w.heap.size) : ObjsAt w' L U a n os :=
  ⟨h.len, h.bd, fun hn => by
    obtain ⟨b, off, ha, hL, hbU, hc⟩ := h.at_ hn
    refine ⟨b, off, ha, hL, hbU, fun i hi => ?_⟩
    obtain ⟨o, ka, kn, kc, h1, h2, h3, h4, h5, h6, h7⟩ := hc i hi
    refine ⟨o, ka, kn, kc, h1, h2, ?_, ?_, ?_, ?_, h7.but hb hr hU⟩ <;> (rw [hb.cell (by simp; omega) (by simp; omega)]; assumption)⟩
theorem Drawn.but {rb : Nat} {w w' : World} (h : Drawn w w' rb) : But rb w w' := ⟨h.below, fun k hk _ => h.block k hk⟩
theorem But.of_below {rb : Nat} {w w' : World} (hb : rb < w.heap.size) (h : Below w.heap.size w w') : But rb w w' := ⟨h.mono (by omega), fun k _ hk => h.block k hk⟩
/-- A reader that is at most so far. -/
def RdTo (w : World) (rb p : Nat) : Prop := ∃ p', p' ≤ p ∧ RdAt w rb p'
theorem OwnInts.get {w : World} {B : Nat} {v : Value} {l : List Nat} (h : OwnInts w B v l) (hl : l ≠ []) : ∃ g c, v = .slice (some ⟨g, 0, none⟩) l.length c ∧ B ≤ g ∧ g < w.heap.size ∧ ∀ i, i < l.length → ∃ k, l[i]? = some k ∧ w.cell? ⟨g, i, none⟩ = some (.int .i64 (k : Nat)) := by
  have h0 : 0 < l.length := List.length_pos_iff.mpr hl
  obtain ⟨g, c, rfl, hb, hlt⟩ := World.ownsRow.form h h0
  refine ⟨g, c, rfl, hb, hlt, fun i hi => ⟨l[i], by simp [hi], ?_⟩⟩
  have := World.ownsRow.cellAt h i (by simpa using hi)
  rw [this]; simp [hi]
theorem liveL_lt {os : List LObj} {kind : Int} {k i : Nat} (h : i ∈ liveL os kind k) : i < k := by
  simp [liveL] at h; exact h.1
theorem OwnInts.nil {w : World} {B : Nat} {v : Value} (h : OwnInts w B v []) : ∃ a c, v = .slice a 0 c := by
  rcases h.2 with ⟨rfl, _⟩ | ⟨g, cap, cur, rfl, _⟩
  · exact ⟨_, _, rfl⟩
  · exact ⟨_, _, rfl⟩

end Go.Proofs.Ytnfegihemhidgaa

/- Draws over a tree: a number that was nobody's. -/
namespace Go.Proofs.Ytnfegihemhidgaa
open Go.RowKit

end Go.Proofs.Ytnfegihemhidgaa
