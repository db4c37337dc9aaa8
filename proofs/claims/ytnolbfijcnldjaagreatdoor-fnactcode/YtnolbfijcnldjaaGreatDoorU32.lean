/- Lemmas that the proofs of this seat share: LongAll. -/
import Derived.Test.YtnolbfijcnldjaaGreatDoorU14
import Derived.Test.YtnolbfijcnldjaaGreatDoorU15
import Derived.Deep.CutBlock
import Derived.Test.YtnolbfijcnldjaaGreatDoorU01
import Derived.Test.YtnolbfijcnldjaaGreatDoorU05
import Derived.OpenShut
import Derived.Test.YtnolbfijcnldjaaGreatDoorU24
/- A long list as it is drawn: what holds in the midst of it. -/
namespace Go.Proofs.YtnolbfijcnldjaaGreatDoor
open Go.RowKit

/-- In the midst of drawing: the reader, the boxes, the tree, what was done. -/
structure LS (w W : World) (rb P q2 q4 q5 b c K : Nat) (u : Value) (os : List LObj) (vs : Nat → Value) (out : List LOp) : Prop where
  lo : rb < w.heap.size
  but : But rb w W
  rd : RdTo W rb P
  r2 : ∃ f, W.rowIs q2 25 1 f
  r4 : ∃ a n c, W.rowIs q4 25 1 (fun _ => .slice a n c)
  r5 : W.rowIs q5 25 1 (fun _ => .slice (some ⟨b, 0, none⟩) 32 c)
  l2 : w.heap.size ≤ q2
  l4 : w.heap.size ≤ q4
  l5 : w.heap.size ≤ q5
  n25 : q2 ≠ q5
  n45 : q4 ≠ q5
  tree : OwnT W w.heap.size b c os vs
  len : os.length = 32
  sm : Sm os K
  list : OwnOps W w.heap.size u out
  lsm : ∀ o ∈ out, DoneOp o
section
variable {w W W' : World} {rb P P' q2 q4 q5 b c K : Nat} {u v : Value} {os : List LObj} {vs : Nat → Value} {out news : List LOp}
theorem LS.next (h : LS w W rb P q2 q4 q5 b c K u os vs out) (hb : But rb W W') (hr : RdTo W' rb P') : LS w W' rb P' q2 q4 q5 b c K u os vs out := by
  obtain ⟨f2, h2⟩ := h.r2
  obtain ⟨a4', n4, c4, h4⟩ := h.r4
  have hlo := h.lo
  have a2 := h.l2
  have a4 := h.l4
  have a5 := h.l5
  exact ⟨h.lo, h.but.trans hb, hr, ⟨f2, h2.of_block (hb.block _ (by omega) h2.lt)⟩, ⟨a4', n4, c4, h4.of_block (hb.block _ (by omega) h4.lt)⟩, h.r5.of_block (hb.block _ (by omega) h.r5.lt), h.l2, h.l4, h.l5, h.n25, h.n45, h.tree.but hb h.lo, h.len, h.sm,
    World.ownsRow.kept h.list hb.grown (.inr fun e => by have := (h.list.lt rb e).1; omega), h.lsm⟩
theorem LS.more (h : LS w W rb P q2 q4 q5 b c K u os vs out) (hb : Below W.heap.size W W') : LS w W' rb P q2 q4 q5 b c K u os vs out :=
  h.next (But.of_below (by have := h.lo; have := h.but.below.size; have := h.r5.lt; have := h.l5; omega) hb) (h.rd.but hb (by have := h.lo; have := h.r5.lt; have := h.l5; omega))
theorem LS.size (h : LS w W rb P q2 q4 q5 b c K u os vs out) : w.heap.size < W.heap.size := by have := h.r5.lt; have := h.l5; omega
end
section
variable {ops : Array Oper} {ac : Act} {K : Act → World → Prop} {Q : Exit → Act → World → Prop} {E : Prop} {ty : TypeId} {ps : String} {af : Array Edge}
end
end Go.Proofs.YtnolbfijcnldjaaGreatDoor


/- A long list as it is drawn: more steps. -/
namespace Go.Proofs.YtnolbfijcnldjaaGreatDoor
open Go.RowKit

section
variable {ops : Array Oper} {ac : Act} {K : Act → World → Prop} {Q : Exit → Act → World → Prop} {E : Prop} {ty : TypeId} {ps : String} {af : Array Edge}
end
theorem BoxAt.next {W W' : World} {q : Nat} {o : LOp} (h : BoxAt W q o) (hq : q < W.heap.size) (hb : Below W.heap.size W W') : BoxAt W' q o := h.of (hb.block q hq)

theorem RdTo.set {V : World} {rb P q : Nat} (h : RdTo V rb P) (hq : rb < q) (x : Value) : RdTo (V.setCell ⟨q, 0, none⟩ x) rb P := by
  obtain ⟨p, hp, R⟩ := h
  exact ⟨p, hp, R.below ((Below.refl q V).setCell (by simp) x) hq⟩
theorem OwnOps.setBox {V : World} {B q : Nat} {l : Value} {ops : List LOp} {f : Nat → Value} (h : OwnOps V B l ops) (hr : V.rowIs q 25 1 f) (x : Value) : OwnOps (V.setCell ⟨q, 0, none⟩ x) B l ops := by
  have hg : V.grownBy (V.setCell ⟨q, 0, none⟩ x) (some q) := ⟨rfl, rfl, rfl, by simp, fun i _ hi => Below.heap_setCell V ⟨q, 0, none⟩ _ i (by intro e; exact hi (by simp [e]))⟩
  refine World.ownsRow.kept h hg (.inr fun e => ?_)
  rcases h.2 with ⟨hn, _⟩ | ⟨g, cap, cur, hn, _, hgg, _⟩
  · rw [hn] at e; simp [Value.ownBlock] at e
  · rw [hn] at e
    simp [Value.ownBlock] at e
    subst e
    obtain ⟨cs, h1, _⟩ := hr
    rw [hgg] at h1
    simp at h1
end Go.Proofs.YtnolbfijcnldjaaGreatDoor


/- A long list as it is drawn. -/
namespace Go.Proofs.YtnolbfijcnldjaaGreatDoor
open Go.RowKit

end Go.Proofs.YtnolbfijcnldjaaGreatDoor

/- A list as it is drawn for the laws of shorter lists. -/
namespace Go.Proofs.YtnolbfijcnldjaaGreatDoor
open Go.RowKit

end Go.Proofs.YtnolbfijcnldjaaGreatDoor

/- A code that came in as an argument, opened. -/
namespace Go.Proofs.YtnolbfijcnldjaaGreatDoor
open Go.ChangeShapes Go.WideShapes Go.ChangeAt Go.RowKit
section
variable {H : Type} {enc : TypeId × Value → H} {w : World} {spare : Nat → Bool} {held : Bool}
set_option maxRecDepth 100000 in
theorem open_bytes {r : Reach} {b0 : Nat} {v : Value} {d : DataW H} {p : List MemPlace} (hv : Value.okWide Tryz.prog w r b0 22 v) (h : DataW.Trod enc Tryz.prog w 0 spare held 22 v d p) :
    ∃ a n c zs, v = .slice a n c ∧ n ≤ c ∧ n ≤ maxLen ∧ BytesAt w w.heap.size a n zs := by
  obtain ⟨a0, len0, cap0, rfl⟩ := okWide_slice Tryz.underlying22 hv
  obtain ⟨fuel, hf⟩ := h
  rcases open_ints Tryz.underlying22 Tryz.underlying5 (by kernel_rfl) hf with ⟨hcs, _⟩ | ⟨x, l, c, z0, hcs, _, hl, hm, hz, _, hcell, hwz⟩
  · simp [Value.cells] at hcs
    obtain ⟨rfl, rfl, rfl⟩ := hcs
    exact ⟨none, 0, 0, [], rfl, Nat.le_refl _, Nat.zero_le _, rfl, fun h => absurd rfl h⟩
  · simp [Value.cells] at hcs
    obtain ⟨rfl, rfl, rfl⟩ := hcs
    have hz' : len0 ≤ z0.length := by rw [hz]; split <;> omega
    refine ⟨some x, len0, cap0, z0.take len0, rfl, hl, by omega, by simp; omega, fun hn => ?_⟩
    obtain ⟨b, off, spot⟩ := x
    have hc0 := hcell 0 (by omega)
    have hspot : spot = none := by simpa [Addr.add] using World.cell?_spot hc0
    subst hspot
    refine ⟨b, off, rfl, by have := cell_lt hc0; simpa [Addr.add] using this, fun i hi => ?_⟩
    have hlt : i < z0.length := by omega
    refine ⟨z0[i], by rw [List.getElem?_take_of_lt hi]; exact List.getElem?_eq_getElem hlt, ?_, ?_, ?_⟩
    · have := hwz z0[i] (List.getElem_mem hlt); simp [Lit.wf, IntKind.min, IntKind.max, IntKind.signed, IntKind.bits] at this; omega
    · have := hwz z0[i] (List.getElem_mem hlt); simp [Lit.wf, IntKind.min, IntKind.max, IntKind.signed, IntKind.bits] at this; omega
    · have := hcell i hlt
      rw [addr_add] at this
      rw [this]
      simp [hlt]
end
end Go.Proofs.YtnolbfijcnldjaaGreatDoor


/- Lists that are made shorter: plain facts: once more is the same; what is left. -/
namespace Go.Proofs.YtnolbfijcnldjaaGreatDoor
open Go.RowKit

/-! Texts. -/
end Go.Proofs.YtnolbfijcnldjaaGreatDoor

/- What the laws of drawn lists ask. -/
namespace Go.Proofs.YtnolbfijcnldjaaGreatDoor
open Go.RowKit

theorem OwnOps.cap {w : World} {B : Nat} {a : Option Addr} {n c : Nat} {l : List LOp} (h : OwnOps w B (.slice a n c) l) : n ≤ c := by
  rcases h.2 with ⟨e, h0⟩ | ⟨g, cap, cur, e, _, _, h2, _⟩
  · cases e; omega
  · cases e; exact h2
theorem OpsAt.blocks' {w w' : World} {L U : Nat} {a : Option Addr} {n : Nat} {ops : List LOp} (h : OpsAt w L U a n ops) (hb : ∀ b : Nat, w'.heap[b]? = w.heap[b]?) : OpsAt w' L U a n ops :=
  ⟨h.len, h.bd, fun hn => by
    obtain ⟨b, off, ha, hL, hbU, hc⟩ := h.at_ hn
    refine ⟨b, off, ha, hL, hbU, fun i hi => ?_⟩
    obtain ⟨o, ho, hs, h0⟩ := hc i hi
    exact ⟨o, ho, hs, h0.of_block (hb b)⟩⟩
theorem OpsAt.drewN {w : World} {L U : Nat} {a : Option Addr} {n : Nat} {ops : List LOp} (h : OpsAt w L U a n ops) (m : Nat) : OpsAt (w.drewN m) L U a n ops := h.blocks' fun _ => rfl
end Go.Proofs.YtnolbfijcnldjaaGreatDoor
