/- Lemmas that the proofs of this seat share: AllA. -/
import Derived.Test.YtnolbfijcnldjaaGreatDoorU26
import Derived.Test.YtnolbfijcnldjaaGreatDoorU22
import Derived.Test.YtnolbfijcnldjaaGreatDoorU15
import Derived.Test.YtnolbfijcnldjaaGreatDoorU24
/- A list that is done, all of it or nothing: the plain function, and what stands in the boxes of its two loops. -/
namespace Go.Proofs.YtnolbfijcnldjaaGreatDoor
open Go.RowKit

def allGo (os0 : List LObj) : List LObj → List LOp → Nat → List LObj × Int × Nat
  | os, [], i => (os, 0, i)
  | os, o :: r, i => if (actDo os o).2 = 0 then allGo os0 (actDo os o).1 r (i + 1) else (os0, (actDo os o).2, i)
/-- What ActAll answers. -/
def allR (os : List LObj) (ops : List LOp) : List LObj × Int × Nat := if specOk os = true ∧ formsB ops = true then allGo os os ops 0 else ([], 8, 0)
theorem allGo_end (os0 os : List LObj) {ops : List LOp} {j : Nat} (h : ops.length ≤ j) : allGo os0 os (ops.drop j) j = (os, 0, j) := by
  rw [List.drop_of_length_le h]; rfl
theorem allGo_step (os0 os : List LObj) {ops : List LOp} {j : Nat} {o : LOp} (h : ops[j]? = some o) : allGo os0 os (ops.drop j) j = if (actDo os o).2 = 0 then allGo os0 (actDo os o).1 (ops.drop (j + 1)) (j + 1) else (os0, (actDo os o).2, j) := by
  rw [drop_cons h]; rfl
/-- An answer of ActAll: no tree, or one of its own. -/
def AllEnd (w : World) (r : List LObj × Int × Nat) (e : Ending) (w' : World) : Prop :=
  ((r.1 = [] ∧ e = .returned (.tuple #[.agg #[.slice none 0 0], .int .i64 r.2.1, .int .i64 (r.2.2 : Nat)])) ∨ ∃ b c vs, e = .returned (.tuple #[.agg #[.slice (some ⟨b, 0, none⟩) r.1.length c], .int .i64 r.2.1, .int .i64 (r.2.2 : Nat)]) ∧ OwnT w' w.heap.size b c r.1 vs) ∧ Below w.heap.size w w'
theorem forms_op {ops : List LOp} (h : formsB ops = true) {j : Nat} {o : LOp} (ho : ops[j]? = some o) : opOk o = true := by
  unfold formsB at h
  rw [Bool.and_eq_true] at h
  exact List.all_eq_true.1 h.2 o (List.mem_of_getElem? ho)
theorem ok_bd {os : List LObj} (hs : specOk os = true) : Bd os 1000000 := fun x hx => by
  obtain ⟨i, hi, rfl⟩ := List.getElem_of_mem hx
  have h9 : os[i]? = some os[i] := List.getElem?_eq_getElem hi
  have := ok_ver hs h9
  have := ok_kids hs h9
  exact ⟨by omega, by omega, by omega⟩
/-- A box of another type than a tree's rows is no part of it. -/
theorem OwnT.far {W : World} {B b c q : Nat} {X : TypeId} {os : List LObj} {vs : Nat → Value} {f : Nat → Value} (h : OwnT W B b c os vs) (hX : X ≠ 38 ∧ X ≠ 53) (hq : W.rowIs q X 1 f) : q ≠ b ∧ ∀ i, i < os.length → (vs i).ownBlock ≠ some q := by
  obtain ⟨cc, hqq, -⟩ := hq
  obtain ⟨cur, hr, -⟩ := h.row
  refine ⟨fun e => ?_, fun i hi e => ?_⟩
  · subst e; rw [hr] at hqq
    have := Option.some.inj hqq
    injection this with _ h2
    exact hX.1 h2.symm
  · have ho := (h.at_ i (os[i]'hi) (List.getElem?_eq_getElem hi)).2.2.2.2.2.1
    rcases ho.2 with ⟨hn, _⟩ | ⟨g, cap, cur2, hv, hb, hgg, _⟩
    · rw [hn] at e; cases e
    · rw [hv] at e
      simp [Value.ownBlock] at e
      subst e
      rw [hgg] at hqq
      have := Option.some.inj hqq
      injection this with _ h2
      exact hX.2 h2.symm
/-- What stands in the boxes of the loop, but for the tree. -/
structure LZ (w W : World) (T : Nat) (X : TypeId) (a : Option Addr) (n c b1 c1 : Nat) : Prop where
  below : Below w.heap.size w W
  t : W.cell? ⟨w.heap.size, 0, none⟩ = some (.slice a n c)
  r : ∃ f, W.rowIs (w.heap.size + 1) 25 1 f
  x : W.cell? ⟨T, 0, none⟩ = some (.slice (some ⟨b1, 0, none⟩) n c1)
  xr : ∃ f, W.rowIs T X 1 f
  lo : w.heap.size + 1 < T
  lt : T < W.heap.size
theorem LZ.of {w W W' : World} {T : Nat} {X : TypeId} {a : Option Addr} {n c b1 c1 : Nat} (h : LZ w W T X a n c b1 c1) (hb : Below (w.heap.size + 1 + 1) W W') (hT : W'.heap[T]? = W.heap[T]?) : LZ w W' T X a n c b1 c1 := by
  obtain ⟨f, hf⟩ := h.r
  obtain ⟨g, hg⟩ := h.xr
  exact ⟨h.below.trans (hb.mono (by omega)), by rw [hb.cell (by simp; omega)]; exact h.t, ⟨f, hf.of_block (hb.block _ (by omega))⟩, by rw [World.cell?_of_block (w := W) hT]; exact h.x, ⟨g, hg.of_block hT⟩, h.lo, by have := hb.size; have := h.lt; omega⟩
theorem LZ.next {w W W' : World} {T : Nat} {X : TypeId} {a : Option Addr} {n c b1 c1 : Nat} (h : LZ w W T X a n c b1 c1) (hb : Below W.heap.size W W') : LZ w W' T X a n c b1 c1 :=
  h.of (hb.mono (by have := h.lo; have := h.lt; omega)) (hb.block _ h.lt)
theorem LZ.but {w W W' : World} {T : Nat} {X : TypeId} {a : Option Addr} {n c b1 c1 q : Nat} (h : LZ w W T X a n c b1 c1) (hb : But q W W') (hq : T < q) : LZ w W' T X a n c b1 c1 :=
  h.of (hb.below.mono (by have := h.lo; omega)) (hb.below.block _ hq)
/-- Behind a call that writes into the tree. -/
theorem LZ.call {w W W' : World} {T : Nat} {X : TypeId} {a : Option Addr} {n c b1 c1 : Nat} {os : List LObj} {vs : Nat → Value} (h : LZ w W T X a n c b1 c1) (hX : X ≠ 38 ∧ X ≠ 53) (hn : os.length = n) (ht : OwnT W (w.heap.size + 1 + 1) b1 c1 os vs) (hb : Below (w.heap.size + 1 + 1) W W') (hk : Kt W W' b1 n vs) : LZ w W' T X a n c b1 c1 := by
  obtain ⟨g, hg⟩ := h.xr
  obtain ⟨n1, n2⟩ := ht.far hX hg
  exact h.of hb (hk T h.lt n1 fun i hi => n2 i (by omega))
/-- The loop's box written over by what it holds. -/
theorem LZ.put {w W : World} {T : Nat} {X : TypeId} {a : Option Addr} {n c b1 c1 : Nat} (h : LZ w W T X a n c b1 c1) (_ : X ≠ 38) : LZ w (W.setCell ⟨T, 0, none⟩ (.slice (some ⟨b1, 0, none⟩) n c1)) T X a n c b1 c1 := by
  obtain ⟨f, hf⟩ := h.r
  obtain ⟨g, hg⟩ := h.xr
  have hb : ∀ q, q ≠ T → (W.setCell ⟨T, 0, none⟩ (.slice (some ⟨b1, 0, none⟩) n c1)).heap[q]? = W.heap[q]? := fun q hq => Below.heap_setCell W ⟨T, 0, none⟩ _ q hq
  exact ⟨h.below.setCell (by show _ ≤ T; have := h.lo; omega) _, by rw [World.cell?_of_block (w := W) (hb _ (by show w.heap.size ≠ T; have := h.lo; omega))]; exact h.t, ⟨f, hf.of_block (hb _ (by have := h.lo; omega))⟩, World.cell?_setCell_same _ _ _ h.x, ⟨_, hg.set 0 _⟩, h.lo, by simpa using h.lt⟩
/-- The box of the loop with the tree that was answered. -/
structure YB (W : World) (q n b1 c1 : Nat) : Prop where
  box : W.cell? ⟨q, 0, none⟩ = some (.slice (some ⟨b1, 0, none⟩) n c1)
  lt : q < W.heap.size
end Go.Proofs.YtnolbfijcnldjaaGreatDoor
