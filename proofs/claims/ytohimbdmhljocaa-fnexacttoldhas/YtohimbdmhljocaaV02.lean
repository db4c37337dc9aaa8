/- Lemmas that the proofs of this seat share: Out, App, Rop, SlimF, SlimS, SlimS2, SlimS3, SlimS4, SlimS5, SlimI, SlimI2, SlimI3, SlimI4, SlimI5, SlimI6, SlimI7, SlimI8, SlimI9, SlimI10, SlimI11, LogB, ShopA, Put, Turn, CopyAll, PutIAll, Ids, OpSet, Worn, LogIJ, IntS, LogD, HomeAll, SpecOk, Lay, LayAll, Under, MsgA2, WldBase, WldA. -/
import Derived.Test.YtohimbdmhljocaaV01
import Derived.Deep.RegionLaw
import Derived.Deep.RegionWith
import Derived.Maps.AppendAt
import Derived.Deep.QuietTactic
import Derived.BigQuiet
import Derived.Deep.Upon
import Derived.Deep.DeepCutAuto
import Derived.Deep.RegionHeld
import Derived.OrdersHeld
import Derived.BigRegion
import Derived.Deep.Strs
import Derived.WalkMore
import Derived.Lib.SmallJoins
/- Names of a directory in memory of the call's own; taking a name out. -/
namespace Go.Proofs.Ytohimbdmhljocaa
open Go.RowKit

def entCells (es : List LEnt) : List Value := es.flatMap fun e => [.string e.name, .int .i64 e.id]
theorem entCells_len (es : List LEnt) : (entCells es).length = es.length * 2 := by
  induction es with
  | nil => rfl
  | cons e r ih => simp only [entCells, List.flatMap_cons, List.length_append, List.length_cons, List.length_nil] at ih ⊢; omega
theorem entCells_app (es fs : List LEnt) : entCells (es ++ fs) = entCells es ++ entCells fs := by simp [entCells]
theorem entCells_at : ∀ (es : List LEnt) (i : Nat) (e : LEnt), es[i]? = some e → (entCells es)[i * 2]? = some (.string e.name) ∧ (entCells es)[i * 2 + 1]? = some (.int .i64 e.id)
  | [], i, e, h => by simp at h
  | x :: r, 0, e, h => by simp at h; subst h; simp [entCells]
  | x :: r, i + 1, e, h => by
    have ih := entCells_at r i e (by simpa using h)
    have e1 : entCells (x :: r) = [.string x.name, .int .i64 x.id] ++ entCells r := rfl
    rw [e1, List.getElem?_append_right (by simp; omega), List.getElem?_append_right (by simp; omega)]
    have a1 : (i + 1) * 2 - 2 = i * 2 := by omega
    have a2 : (i + 1) * 2 + 1 - 2 = i * 2 + 1 := by omega
    simpa [a1, a2] using ih
/-- A slice of names that the call owns. -/
def OwnEnts (w : World) (B : Nat) (v : Value) (es : List LEnt) : Prop := w.ownsRow B 173 2 v es.length (entCells es)
theorem OwnEnts.at_ {w : World} {B : Nat} {v : Value} {es : List LEnt} (h : OwnEnts w B v es) (hn : ∀ e ∈ es, e.name.size ≤ maxLen) : ∃ a c, v = .slice a es.length c ∧ EntsAt w B w.heap.size a es.length es := by
  by_cases h0 : es.length = 0
  · obtain rfl : es = [] := List.eq_nil_of_length_eq_zero h0
    rcases h.2 with ⟨rfl, _⟩ | ⟨g, cap, cur, rfl, _⟩
    · exact ⟨_, _, rfl, rfl, by simp [maxLen], fun hn => absurd rfl hn⟩
    · exact ⟨_, _, rfl, rfl, by simp [maxLen], fun hn => absurd rfl hn⟩
  · obtain ⟨g, c, rfl, hb, hlt⟩ := World.ownsRow.form h (by omega)
    have hbd : es.length ≤ maxLen := by
      rcases h.2 with ⟨h', _⟩ | ⟨g', cap', cur, h', _, _, hnc, hcm, _⟩
      · simp at h'
      · omega
    refine ⟨_, _, rfl, rfl, hbd, fun _ => ⟨g, 0, rfl, hb, hlt, fun i hi => ⟨es[i], by simp [hi], hn _ (List.getElem_mem hi), ?_, ?_⟩⟩⟩
    · have := World.ownsRow.cellAt h (i * 2) (by omega)
      rw [Nat.zero_add, this]
      exact (entCells_at es i es[i] (by simp [hi])).1
    · have := World.ownsRow.cellAt h (i * 2 + 1) (by omega)
      rw [Nat.zero_add, this]
      exact (entCells_at es i es[i] (by simp [hi])).2
end Go.Proofs.Ytohimbdmhljocaa

/- append of names onto names that the call owns: the laws. -/
namespace Go.Proofs.Ytohimbdmhljocaa
open Go.RowKit

theorem OwnEnts.grown {w w' : World} {B g n cap : Nat} {es : List LEnt} {row : Option Nat} (h : OwnEnts w B (.slice (some ⟨g, 0, none⟩) n cap) es) (hg : w.grownBy w' row) (hne : some g ≠ row) : OwnEnts w' B (.slice (some ⟨g, 0, none⟩) n cap) es :=
  World.ownsRow.kept h hg (.inr (by simpa [Value.ownBlock] using hne))
theorem OwnEnts.cut {w : World} {B g n cap k : Nat} {es : List LEnt} (h : OwnEnts w B (.slice (some ⟨g, 0, none⟩) n cap) es) (hn : n = es.length) (hk : k ≤ n) : OwnEnts w B (.slice (some ⟨g, 0, none⟩) k cap) (es.take k) := by
  subst hn
  have hl : (es.take k).length = k := by simp; omega
  refine ⟨by rw [entCells_len], .inr ?_⟩
  rcases h.2 with ⟨h', _⟩ | ⟨g', cap', cur, h', hb, hg, hnc, hcm, hcs, htake⟩
  · simp at h'
  · simp only [Value.slice.injEq, Option.some.injEq, Addr.mk.injEq, and_true, true_and] at h'
    obtain ⟨rfl, rfl⟩ := h'
    refine ⟨g, cap, cur, by rw [hl], hb, hg, by omega, hcm, hcs, ?_⟩
    have e1 : entCells es = entCells (es.take k) ++ entCells (es.drop k) := by rw [← entCells_app, List.take_append_drop]
    have e2 : cur.toList.take (k * 2) = (cur.toList.take (es.length * 2)).take (k * 2) := by rw [List.take_take]; congr 1; omega
    rw [hl, e2, htake, e1, List.take_left' (by rw [entCells_len, hl])]
theorem OwnEnts.rest {w : World} {B g n cap k : Nat} {es : List LEnt} (h : OwnEnts w B (.slice (some ⟨g, 0, none⟩) n cap) es) (hn : n = es.length) (hk : k ≤ n) : ∀ j u, (entCells (es.drop k))[j]? = some u → w.cell? ((⟨g, k * 2, none⟩ : Addr).add j) = some u := by
  intro j u hu
  subst hn
  have hl : (es.take k).length = k := by simp; omega
  have e1 : entCells es = entCells (es.take k) ++ entCells (es.drop k) := by rw [← entCells_app, List.take_append_drop]
  have hlen : (entCells (es.take k)).length = k * 2 := by rw [entCells_len, hl]
  have h1 : (entCells es)[k * 2 + j]? = some u := by rw [e1, List.getElem?_append_right (by omega)]; rw [hlen]; simpa using hu
  have hj : k * 2 + j < es.length * 2 := by
    have := (List.getElem?_eq_some_iff.1 h1).1
    rwa [entCells_len] at this
  have h2 := World.ownsRow.cellAt h (k * 2 + j) hj
  have hadd : (⟨g, k * 2, none⟩ : Addr).add j = ⟨g, k * 2 + j, none⟩ := by unfold Addr.add; split <;> simp_all
  rw [hadd, h2]; exact h1
theorem OwnEnts.empty (w : World) (B : Nat) (hB : B ≤ w.heap.size) : OwnEnts (w.alloc (Obj.cells #[] 173)) B (.slice (some ⟨w.heap.size, 0, none⟩) 0 0) [] := by
  simpa [OwnEnts, entCells] using World.ownsRow_lit (base := B) (e := 173) (size := 2) w #[] 0 hB (by simp [maxLen]) rfl
end Go.Proofs.Ytohimbdmhljocaa

/- Rows of what is done, of one's own, that grow. -/
namespace Go.Proofs.Ytohimbdmhljocaa
open Go.RowKit

/-- The cells of what is done, one behind the other. -/
def opCells (l : List LOp) : List Value := l.flatMap fun o => o.val.toList
theorem opCells_len (l : List LOp) : (opCells l).length = l.length * 7 := by
  induction l with
  | nil => rfl
  | cons o r ih => simp only [opCells, List.flatMap_cons, List.length_append, List.length_cons] at ih ⊢; rw [ih]; simp [LOp.val]; omega
theorem opCells_app (l r : List LOp) : opCells (l ++ r) = opCells l ++ opCells r := by simp [opCells]
def OwnOps (w : World) (B : Nat) (v : Value) (l : List LOp) : Prop := w.ownsRow B 151 7 v l.length (opCells l)
structure AppOEnd (w w' : World) (B : Nat) (u v : Value) (l : List LOp) : Prop where
  own : OwnOps w' B v l
  grown : w.grownBy w' u.ownBlock
  at_ : ∀ g, v.ownBlock = some g → u.ownBlock = some g ∨ g = w.heap.size
end Go.Proofs.Ytohimbdmhljocaa

/- Lists that are made shorter: what that is, on lists. -/
namespace Go.Proofs.Ytohimbdmhljocaa
open Go.RowKit

/-! Some of a list. -/
/-! Texts that are void. -/
/-! What is made and goes again. -/
theorem drop_cons {α : Type} {l : List α} {k : Nat} {x : α} (h : l[k]? = some x) : l.drop k = x :: l.drop (k + 1) := by
  obtain ⟨hk, rfl⟩ := List.getElem?_eq_some_iff.1 h
  exact List.drop_eq_getElem_cons hk
/-! What is moved and moved on. -/
/-! Again and again. -/
/-! What is kept. -/
end Go.Proofs.Ytohimbdmhljocaa

/- Lists that are made shorter: the specification. -/
namespace Go.Proofs.Ytohimbdmhljocaa
open Go.RowKit

theorem opCells_at : ∀ (l : List LOp) (i : Nat) (o : LOp), l[i]? = some o → ∀ t u, o.val[t]? = some u → (opCells l)[i * 7 + t]? = some u
  | [], i, o, h, _, _, _ => by simp at h
  | x :: r, 0, o, h, t, u, hu => by
    simp at h
    subst h
    have ht : t < x.val.toList.length := by
      have := (Array.getElem?_eq_some_iff.1 hu).1
      simpa using this
    simp only [opCells, List.flatMap_cons]
    rw [List.getElem?_append_left (by omega)]
    simpa using hu
  | x :: r, i + 1, o, h, t, u, hu => by
    have ih := opCells_at r i o (by simpa using h) t u hu
    simp only [opCells, List.flatMap_cons]
    have h7 : x.val.toList.length = 7 := by simp [LOp.val]
    rw [List.getElem?_append_right (by omega), h7]
    have e : (i + 1) * 7 + t - 7 = i * 7 + t := by omega
    rw [e]
    exact ih
theorem OwnOps.at_ {w : World} {B : Nat} {v : Value} {l : List LOp} (h : OwnOps w B v l) (hn : ∀ o ∈ l, OpSz o) : ∃ a c, v = .slice a l.length c ∧ OpsAt w B w.heap.size a l.length l := by
  by_cases h0 : l.length = 0
  · obtain rfl : l = [] := List.eq_nil_of_length_eq_zero h0
    rcases h.2 with ⟨rfl, _⟩ | ⟨g, cap, cur, rfl, _⟩
    · exact ⟨_, _, rfl, rfl, by simp [maxLen], fun hn => absurd rfl hn⟩
    · exact ⟨_, _, rfl, rfl, by simp [maxLen], fun hn => absurd rfl hn⟩
  · obtain ⟨g, c, rfl, hb, hlt⟩ := World.ownsRow.form h (by omega)
    have hbd : l.length ≤ maxLen := by
      rcases h.2 with ⟨h', _⟩ | ⟨g', cap', cur, h', _, _, hnc, hcm, _⟩
      · simp at h'
      · omega
    have hc : ∀ i (hi : i < l.length) t u, t < 7 → (l[i]).val[t]? = some u → w.cell? ⟨g, 0 + i * 7 + t, none⟩ = some u := fun i hi t u ht hu => by
      have := World.ownsRow.cellAt h (i * 7 + t) (by omega)
      rw [Nat.zero_add, this]
      exact opCells_at l i l[i] (by simp [hi]) t u hu
    exact ⟨_, _, rfl, rfl, hbd, fun _ => ⟨g, 0, rfl, hb, hlt, fun i hi => ⟨l[i], by simp [hi], hn _ (List.getElem_mem hi), hc i hi 0 _ (by omega) (by simp [LOp.val]), hc i hi 1 _ (by omega) (by simp [LOp.val]), hc i hi 2 _ (by omega) (by simp [LOp.val]), hc i hi 3 _ (by omega) (by simp [LOp.val]), hc i hi 4 _ (by omega) (by simp [LOp.val]), hc i hi 5 _ (by omega) (by simp [LOp.val]), hc i hi 6 _ (by omega) (by simp [LOp.val])⟩⟩⟩
theorem AppOEnd.below {w0 wr w1 : World} {B : Nat} {u v : Value} {l r : List LOp} {o1 : Obj} (hE : AppOEnd (wr.alloc o1) w1 B u v r) (hown : OwnOps wr B u l) (hb : Below B w0 wr) (hsz : B ≤ wr.heap.size) : Below B w0 w1 := by
  have hr : ∀ k, u.ownBlock = some k → B ≤ k := fun k e => (hown.lt k e).1
  exact hb.trans (below_grown ((Below.refl _ _).alloc (by omega) _) hE.grown hr (by simp; omega))
theorem OwnOps.empty (w : World) (B : Nat) (hB : B ≤ w.heap.size) : OwnOps (w.alloc (Obj.cells #[] 151)) B (.slice (some ⟨w.heap.size, 0, none⟩) 0 0) [] := by
  simpa [OwnOps, opCells] using World.ownsRow_lit (base := B) (e := 151) (size := 7) w #[] 0 hB (by simp [maxLen]) rfl

theorem OwnOps.next {w w' : World} {B : Nat} {v : Value} {l : List LOp} (h : OwnOps w B v l) (hb : Below w.heap.size w w') : OwnOps w' B v l := by
  refine ⟨h.1, ?_⟩
  rcases h.2 with hn | ⟨g, cap, cur, rfl, hB, hgg, rest⟩
  · exact .inl hn
  · refine .inr ⟨g, cap, cur, rfl, hB, ?_, rest⟩
    rw [hb.block g (Array.getElem?_eq_some_iff.1 hgg).1]
    exact hgg
end Go.Proofs.Ytohimbdmhljocaa

/- Lists that are made shorter: the specification, what goes again. -/
namespace Go.Proofs.Ytohimbdmhljocaa
open Go.RowKit

/-! append of a whole list. -/
theorem OpsAt.cells {w : World} {L U b off n : Nat} {ops : List LOp} (H : OpsAt w L U (some ⟨b, off, none⟩) n ops) : ∀ j u, (opCells ops)[j]? = some u → w.cell? ((⟨b, off, none⟩ : Addr).add j) = some u := by
  intro j u hu
  have hadd : (⟨b, off, none⟩ : Addr).add j = ⟨b, off + j, none⟩ := by unfold Addr.add; split <;> simp_all
  rw [hadd]
  have hj := (List.getElem?_eq_some_iff.1 hu).1
  rw [opCells_len] at hj
  have hl := H.len
  obtain ⟨b', off', ha, _, _, hc⟩ := H.at_ (by omega)
  simp only [Option.some.injEq, Addr.mk.injEq, and_true] at ha
  obtain ⟨rfl, rfl⟩ := ha
  obtain ⟨o, ho, _, hat⟩ := hc (j / 7) (by omega)
  have hv : ∀ t v, t < 7 → j = j / 7 * 7 + t → o.val[t]? = some v → u = v := fun t v ht e hv => by
    have := opCells_at ops (j / 7) o ho t v hv
    rw [← e, hu] at this
    exact Option.some.inj this
  have e7 : j = j / 7 * 7 + j % 7 := by omega
  have hm : j % 7 < 7 := Nat.mod_lt _ (by omega)
  generalize j % 7 = t at e7 hm
  match t, hm with
  | 0, _ => rw [hv 0 _ (by omega) e7 (by simp [LOp.val]; rfl), e7, ← Nat.add_assoc]; exact hat.c0
  | 1, _ => rw [hv 1 _ (by omega) e7 (by simp [LOp.val]; rfl), e7, ← Nat.add_assoc]; exact hat.c1
  | 2, _ => rw [hv 2 _ (by omega) e7 (by simp [LOp.val]; rfl), e7, ← Nat.add_assoc]; exact hat.c2
  | 3, _ => rw [hv 3 _ (by omega) e7 (by simp [LOp.val]; rfl), e7, ← Nat.add_assoc]; exact hat.c3
  | 4, _ => rw [hv 4 _ (by omega) e7 (by simp [LOp.val]; rfl), e7, ← Nat.add_assoc]; exact hat.c4
  | 5, _ => rw [hv 5 _ (by omega) e7 (by simp [LOp.val]; rfl), e7, ← Nat.add_assoc]; exact hat.c5
  | 6, _ => rw [hv 6 _ (by omega) e7 (by simp [LOp.val]; rfl), e7, ← Nat.add_assoc]; exact hat.c6
end Go.Proofs.Ytohimbdmhljocaa

/- Lists that are made shorter: the specification, what is moved on. -/
namespace Go.Proofs.Ytohimbdmhljocaa
open Go.RowKit

theorem OwnOps.none_ {W : World} {B q : Nat} (hB : B ≤ W.heap.size) (hq : q = W.heap.size) : OwnOps (W.alloc (Obj.cells #[] 151)) B (.slice (some ⟨q, 0, none⟩) 0 0) [] := by
  subst hq
  exact OwnOps.empty W B hB
theorem OpsAt.none_ (w : World) (L U : Nat) (a : Option Addr) : OpsAt w L U a 0 [] := ⟨rfl, by simp [maxLen], fun h => absurd rfl h⟩
theorem OpsAt.grown {w w' : World} {L U : Nat} {a : Option Addr} {n : Nat} {ops : List LOp} {row : Option Nat} (H : OpsAt w L U a n ops) (hg : w.grownBy w' row) (hne : ∀ k, row = some k → k < L) (hU : U ≤ w.heap.size) : OpsAt w' L U a n ops :=
  ⟨H.len, H.bd, fun hn => by
    obtain ⟨b, off, ha, hL, hbU, hc⟩ := H.at_ hn
    refine ⟨b, off, ha, hL, hbU, fun i hi => ?_⟩
    obtain ⟨o, ho, hs, h0⟩ := hc i hi
    exact ⟨o, ho, hs, h0.of_block (hg.block b (by omega) (fun e => by have := hne b e.symm; omega))⟩⟩
theorem OwnOps.cut {w : World} {B g n cap k : Nat} {l : List LOp} (h : OwnOps w B (.slice (some ⟨g, 0, none⟩) n cap) l) (hn : n = l.length) (hk : k ≤ n) : OwnOps w B (.slice (some ⟨g, 0, none⟩) k cap) (l.take k) := by
  subst hn
  have hl : (l.take k).length = k := by simp; omega
  refine ⟨by rw [opCells_len], .inr ?_⟩
  rcases h.2 with ⟨h', _⟩ | ⟨g', cap', cur, h', hb, hg, hnc, hcm, hcs, htake⟩
  · simp at h'
  · simp only [Value.slice.injEq, Option.some.injEq, Addr.mk.injEq, and_true, true_and] at h'
    obtain ⟨rfl, rfl⟩ := h'
    refine ⟨g, cap, cur, by rw [hl], hb, hg, by omega, hcm, hcs, ?_⟩
    have e1 : opCells l = opCells (l.take k) ++ opCells (l.drop k) := by rw [← opCells_app, List.take_append_drop]
    have e2 : cur.toList.take (k * 7) = (cur.toList.take (l.length * 7)).take (k * 7) := by rw [List.take_take]; congr 1; omega
    rw [hl, e2, htake, e1, List.take_left' (by rw [opCells_len, hl])]
end Go.Proofs.Ytohimbdmhljocaa

/- Lists that are made shorter: the specification, what is moved on, again and again. -/
namespace Go.Proofs.Ytohimbdmhljocaa
open Go.RowKit

end Go.Proofs.Ytohimbdmhljocaa

/- Lists that are made shorter: the specification, whole. -/
namespace Go.Proofs.Ytohimbdmhljocaa
open Go.RowKit

theorem OwnOps.base {w : World} {B B' : Nat} {v : Value} {l : List LOp} (h : OwnOps w B v l) (hB : B' ≤ B) : OwnOps w B' v l :=
  ⟨h.1, by
    rcases h.2 with h | ⟨g, cap, cu, h1, h2, h3⟩
    · exact .inl h
    · exact .inr ⟨g, cap, cu, h1, by omega, h3⟩⟩
end Go.Proofs.Ytohimbdmhljocaa

/- Lists that are made shorter: the program: what is deleted. -/
namespace Go.Proofs.Ytohimbdmhljocaa
open Go.RowKit

end Go.Proofs.Ytohimbdmhljocaa

/- Lists that are made shorter: the program: texts. -/
namespace Go.Proofs.Ytohimbdmhljocaa
open Go.RowKit

end Go.Proofs.Ytohimbdmhljocaa

/- Lists that are made shorter: the program: what goes again. -/
namespace Go.Proofs.Ytohimbdmhljocaa
open Go.RowKit

end Go.Proofs.Ytohimbdmhljocaa

/- Lists that are made shorter: the program: what goes again is taken out. -/
namespace Go.Proofs.Ytohimbdmhljocaa
open Go.RowKit

end Go.Proofs.Ytohimbdmhljocaa

/- Lists that are made shorter: the program: what goes again, one at a time. -/
namespace Go.Proofs.Ytohimbdmhljocaa
open Go.RowKit

end Go.Proofs.Ytohimbdmhljocaa

/- Lists that are made shorter: the program: a rule again and again; pairs. -/
namespace Go.Proofs.Ytohimbdmhljocaa
open Go.RowKit

end Go.Proofs.Ytohimbdmhljocaa

/- Lists that are made shorter: the program: where something is then. -/
namespace Go.Proofs.Ytohimbdmhljocaa
open Go.RowKit

end Go.Proofs.Ytohimbdmhljocaa

/- Lists that are made shorter: the program: what moves on. -/
namespace Go.Proofs.Ytohimbdmhljocaa
open Go.RowKit

structure BoxAt (w : World) (q : Nat) (o : LOp) : Prop where
  c0 : w.cell? ⟨q, 0, none⟩ = some (.int .i64 o.kind)
  c1 : w.cell? ⟨q, 1, none⟩ = some (.int .i64 o.dir)
  c2 : w.cell? ⟨q, 2, none⟩ = some (.string o.name)
  c3 : w.cell? ⟨q, 3, none⟩ = some (.int .i64 o.dir2)
  c4 : w.cell? ⟨q, 4, none⟩ = some (.string o.name2)
  c5 : w.cell? ⟨q, 5, none⟩ = some (.int .i64 o.id)
  c6 : w.cell? ⟨q, 6, none⟩ = some (.string o.text)
theorem BoxAt.of {w w' : World} {q : Nat} {o : LOp} (h : BoxAt w q o) (e : w'.heap[q]? = w.heap[q]?) : BoxAt w' q o := by
  have hc : ∀ j, w'.cell? ⟨q, j, none⟩ = w.cell? ⟨q, j, none⟩ := fun j => World.cell?_of_block (w := w) e
  exact ⟨by rw [hc]; exact h.c0, by rw [hc]; exact h.c1, by rw [hc]; exact h.c2, by rw [hc]; exact h.c3, by rw [hc]; exact h.c4, by rw [hc]; exact h.c5, by rw [hc]; exact h.c6⟩
theorem BoxAt.new (w : World) (o : LOp) : BoxAt (w.alloc (.cells #[.int .i64 o.kind, .int .i64 o.dir, .string o.name, .int .i64 o.dir2, .string o.name2, .int .i64 o.id, .string o.text] 151)) w.heap.size o :=
  ⟨by simp [go_sem], by simp [go_sem], by simp [go_sem], by simp [go_sem], by simp [go_sem], by simp [go_sem], by simp [go_sem]⟩
end Go.Proofs.Ytohimbdmhljocaa

/- Lists that are made shorter: the program: what moves on from where it was put. -/
namespace Go.Proofs.Ytohimbdmhljocaa
open Go.RowKit

/-- Taken first, the frame and the list of what came up written out. -/
theorem takeH {P : Program} {md : Region.Mode} {ops : Array Oper} {Q : Exit → Act → World → Prop} {S : World → Prop} {i : Nat} {oi : Oper} {v : Value} {fuel : Nat} {listed : Array Bool} {a : Act} {w : World} (d : Nat) (l2 : Array Bool) (hi : ops[i]? = some oi)
    (hs : Region.noSelect ops = true) (hf : Region.free md ops listed i = true) (hr : (Region.ready md ops listed).contains i = true)
    (hd : oi.dst = some d) (hl : listed.setIfInBounds i true = l2) (hQ : ∀ c a w, Q (.panic c) (a.put oi.dst v) w → Q (.panic c) a w) (hy : YieldsIf P ops S oi v a) (hS : S w)
    (h : wpAnyH P md ops Q S fuel l2 (a.put (some d) v) w) : wpAnyH P md ops Q S (fuel + 1) listed a w :=
  wpAnyH_take hi hs hf hr hQ hy hS (by rw [hl, hd]; exact h)
theorem listH {P : Program} {md : Region.Mode} {ops : Array Oper} {Q : Exit → Act → World → Prop} {S : World → Prop} {fuel : Nat} {listed l2 : Array Bool} {a : Act} {w : World} (hl : listed = l2) (h : wpAnyH P md ops Q S fuel l2 a w) : wpAnyH P md ops Q S fuel listed a w := by
  rw [hl]; exact h

end Go.Proofs.Ytohimbdmhljocaa

/- Lists that are made shorter: the program: what moves on, whole; lists with one put anew. -/
namespace Go.Proofs.Ytohimbdmhljocaa
open Go.RowKit

/-! A row of what is done, read and written. -/
/-! What is left when one goes, or both. -/
end Go.Proofs.Ytohimbdmhljocaa

/- Lists that are made shorter: the program: steps of a region that make and fill boxes. -/
namespace Go.Proofs.Ytohimbdmhljocaa
open Go.RowKit

section
variable {ops : Array Oper} {ac : Act} {K : Act → World → Prop} {Q : Exit → Act → World → Prop} {E : Prop} {ty : TypeId} {ps : String} {af : Array Edge}
end
end Go.Proofs.Ytohimbdmhljocaa

/- Logs: compared, by the program and by the specification. -/
namespace Go.Proofs.Ytohimbdmhljocaa
open Go.RowKit

theorem bundleOf_any (q s : Int) (a : Option Addr) (n c : Nat) (a' : Option Addr) (n' c' : Nat) (w : World) :
    Calls Try.prog 67 #[.agg #[.int .i64 q, .int .i64 s, .slice a n c, .slice a' n' c']] w fun e w' => e = .returned (.agg #[.int .i64 q, .int .i64 s, .slice a n c, .slice a' n' c']) ∧ Below w.heap.size w w' := by
  go_enter Try.func67, Try.ntmps67
  go_wp2
  exact bodyPost_ret (v := .agg #[.int .i64 q, .int .i64 s, .slice a n c, .slice a' n' c']) (by simp [results, Try.results67, go_sem]) rfl ⟨rfl, by
    repeat (first | exact Below.refl _ _ | refine Below.setCell ?_ (by simp <;> omega) _ | refine Below.alloc ?_ (by simp <;> omega) _)⟩

/-! A box for a log, made and filled in a region that draws. -/
structure LogBox (W : World) (q : Nat) (x y : Int) (a : Option Addr) (n c : Nat) (a' : Option Addr) (n' c' : Nat) : Prop where
  c0 : W.cell? ⟨q, 0, none⟩ = some (.int .i64 x)
  c1 : W.cell? ⟨q, 1, none⟩ = some (.int .i64 y)
  c2 : W.cell? ⟨q, 2, none⟩ = some (.slice a n c)
  c3 : W.cell? ⟨q, 3, none⟩ = some (.slice a' n' c')
theorem LogBox.of {W W' : World} {q : Nat} {x y : Int} {a : Option Addr} {n c : Nat} {a' : Option Addr} {n' c' : Nat} (h : LogBox W q x y a n c a' n' c') (e : W'.heap[q]? = W.heap[q]?) : LogBox W' q x y a n c a' n' c' := by
  have hc : ∀ j, W'.cell? ⟨q, j, none⟩ = W.cell? ⟨q, j, none⟩ := fun j => World.cell?_of_block (w := W) e
  exact ⟨by rw [hc]; exact h.c0, by rw [hc]; exact h.c1, by rw [hc]; exact h.c2, by rw [hc]; exact h.c3⟩
section
variable {ops : Array Oper} {ac : Act} {K : Act → World → Prop} {Q : Exit → Act → World → Prop} {E : Prop} {ty : TypeId} {ps : String} {af : Array Edge}
end

end Go.Proofs.Ytohimbdmhljocaa

/- Servers: the last logs, in memory; contracts of the law's szShop, toShop, eqShop. -/
namespace Go.Proofs.Ytohimbdmhljocaa
open Go.RowKit Go.ChangeShapes Go.WideShapes

structure LDone where
  who : Int
  seq : Int
  code : Int
/-- What a slice of last logs is. -/
structure DonesAt (w : World) (L U : Nat) (a : Option Addr) (n : Nat) (bs : List LDone) : Prop where
  len : n = bs.length
  bd : n ≤ maxLen
  at_ : n ≠ 0 → ∃ b off, a = some ⟨b, off, none⟩ ∧ L ≤ b ∧ b < U ∧ ∀ i, i < n → ∃ e, bs[i]? = some e ∧ w.cell? ⟨b, off + i * 3, none⟩ = some (.int .i64 e.who) ∧ w.cell? ⟨b, off + i * 3 + 1, none⟩ = some (.int .i64 e.seq) ∧ w.cell? ⟨b, off + i * 3 + 2, none⟩ = some (.int .i64 e.code)
theorem DonesAt.blocks {w w' : World} {L U : Nat} {a : Option Addr} {n : Nat} {es : List LDone} (h : DonesAt w L U a n es) (hb : ∀ b, L ≤ b → b < U → w'.heap[b]? = w.heap[b]?) : DonesAt w' L U a n es :=
  ⟨h.len, h.bd, fun hn => by
    obtain ⟨b, off, ha, hL, hbU, hc⟩ := h.at_ hn
    refine ⟨b, off, ha, hL, hbU, fun i hi => ?_⟩
    obtain ⟨e, he, h0, h1, h2⟩ := hc i hi
    have hk := hb b hL hbU
    exact ⟨e, he, by rw [World.cell?_of_block (w := w) hk]; exact h0, by rw [World.cell?_of_block (w := w) hk]; exact h1, by rw [World.cell?_of_block (w := w) hk]; exact h2⟩⟩
theorem DonesAt.below {w w' : World} {L U B : Nat} {a : Option Addr} {n : Nat} {es : List LDone} (h : DonesAt w L U a n es) (hb : Below B w w') (hU : U ≤ B) : DonesAt w' L U a n es := h.blocks fun b _ hbU => hb.block b (by omega)
theorem DonesAt.wide {w : World} {L U L' U' : Nat} {a : Option Addr} {n : Nat} {es : List LDone} (h : DonesAt w L U a n es) (hL' : L' ≤ L) (hU : U ≤ U') : DonesAt w L' U' a n es :=
  ⟨h.len, h.bd, fun hn => by
    obtain ⟨b, off, ha, hL, hbU, hc⟩ := h.at_ hn
    exact ⟨b, off, ha, by omega, by omega, hc⟩⟩

section
variable {H : Type} {enc : TypeId × Value → H} {w : World} {spare : Nat → Bool} {held : Bool}
end

theorem EntsAt.blocks_ {w w' : World} {L U : Nat} {a : Option Addr} {n : Nat} {es : List LEnt} (h : EntsAt w L U a n es) (hb : ∀ b, L ≤ b → b < U → w'.heap[b]? = w.heap[b]?) : EntsAt w' L U a n es :=
  ⟨h.len, h.bd, fun hn => by
    obtain ⟨b, off, ha, hL, hbU, hc⟩ := h.at_ hn
    refine ⟨b, off, ha, hL, hbU, fun i hi => ?_⟩
    obtain ⟨e, he, hs, h0, h1⟩ := hc i hi
    have hk := hb b hL hbU
    exact ⟨e, he, hs, by rw [World.cell?_of_block (w := w) hk]; exact h0, by rw [World.cell?_of_block (w := w) hk]; exact h1⟩⟩
theorem ObjsAt.blocks_ {w w' : World} {L U : Nat} {a : Option Addr} {n : Nat} {os : List LObj} (h : ObjsAt w L U a n os) (hb : ∀ b, L ≤ b → b < U → w'.heap[b]? = w.heap[b]?) : ObjsAt w' L U a n os :=
  ⟨h.len, h.bd, fun hn => by
    obtain ⟨b, off, ha, hL, hbU, hc⟩ := h.at_ hn
    refine ⟨b, off, ha, hL, hbU, fun i hi => ?_⟩
    obtain ⟨o, ka, kn, kc, he, hs, h0, h1, h2, h3, hk⟩ := hc i hi
    have hk' := hb b hL hbU
    exact ⟨o, ka, kn, kc, he, hs, by rw [World.cell?_of_block (w := w) hk']; exact h0, by rw [World.cell?_of_block (w := w) hk']; exact h1, by rw [World.cell?_of_block (w := w) hk']; exact h2, by rw [World.cell?_of_block (w := w) hk']; exact h3, hk.blocks_ hb⟩⟩

end Go.Proofs.Ytohimbdmhljocaa

/- Putting a name into a directory. -/
namespace Go.Proofs.Ytohimbdmhljocaa
open Go.RowKit

end Go.Proofs.Ytohimbdmhljocaa

/- A tree in memory of the call's own; counting a turn. -/
namespace Go.Proofs.Ytohimbdmhljocaa
open Go.RowKit

structure OwnT (w : World) (B b c : Nat) (os : List LObj) (vs : Nat → Value) : Prop where
  lo : B ≤ b
  row : ∃ cur, w.heap[b]? = some (.cells cur 157 (0, 0)) ∧ cur.size = c * 4 ∧ os.length ≤ c ∧ c ≤ maxLen
  at_ : ∀ i o, os[i]? = some o → o.text.size ≤ maxLen ∧ w.cell? ⟨b, i * 4, none⟩ = some (.int .i64 o.kind) ∧ w.cell? ⟨b, i * 4 + 1, none⟩ = some (.int .i64 o.ver) ∧ w.cell? ⟨b, i * 4 + 2, none⟩ = some (.string o.text) ∧ w.cell? ⟨b, i * 4 + 3, none⟩ = some (vs i) ∧ OwnEnts w B (vs i) o.kids ∧ ∀ e ∈ o.kids, e.name.size ≤ maxLen
  apart : ∀ i j g, i < os.length → j < os.length → i ≠ j → (vs i).ownBlock = some g → (vs j).ownBlock ≠ some g

theorem OwnT.lt {w : World} {B b c : Nat} {os : List LObj} {vs : Nat → Value} (h : OwnT w B b c os vs) : b < w.heap.size := by
  obtain ⟨cur, hg, _⟩ := h.row
  exact (Array.getElem?_eq_some_iff.1 hg).1
theorem OwnT.frozen {w : World} {B b c : Nat} {os : List LObj} {vs : Nat → Value} (h : OwnT w B b c os vs) (k : Nat) : w.frozen? ⟨b, k, none⟩ = false := by
  obtain ⟨cur, hg, _⟩ := h.row
  exact frozen_of_row w b k cur 157 hg
/-- What is in another block than one's own stays. -/
theorem OwnT.grown {w w' : World} {B b c : Nat} {os : List LObj} {vs : Nat → Value} (h : OwnT w B b c os vs) {row : Option Nat} (hg : w.grownBy w' row) (hb : some b ≠ row) (hv : ∀ i, i < os.length → (vs i).ownBlock = none ∨ (vs i).ownBlock ≠ row) : OwnT w' B b c os vs := by
  obtain ⟨cur, hr, hcs, hlc, hcm⟩ := h.row
  refine ⟨h.lo, ⟨cur, by rw [hg.block b h.lt hb]; exact hr, hcs, hlc, hcm⟩, fun i o ho => ?_, h.apart⟩
  obtain ⟨h1, h2, h3, h4, h5, h6, h7⟩ := h.at_ i o ho
  have hlt : i < os.length := (List.getElem?_eq_some_iff.1 ho).1
  refine ⟨h1, ?_, ?_, ?_, ?_, World.ownsRow.kept h6 hg (hv i hlt), h7⟩ <;> (rw [hg.cell_far _ h.lt hb]; assumption)
theorem OwnT.alloc {w : World} {B b c : Nat} {os : List LObj} {vs : Nat → Value} (h : OwnT w B b c os vs) (o : Obj) : OwnT (w.alloc o) B b c os vs :=
  h.grown (World.grownBy_alloc w o none) (by simp) fun i _ => by cases hv : (vs i).ownBlock <;> simp
end Go.Proofs.Ytohimbdmhljocaa

/- A tree in new memory. -/
namespace Go.Proofs.Ytohimbdmhljocaa
open Go.RowKit

/-- The cells of objects, their names' slices given. -/
def objCells (os : List LObj) (vs : Nat → Value) : Nat → List Value
  | 0 => []
  | k + 1 => objCells os vs k ++ (match os[k]? with | some o => [.int .i64 o.kind, .int .i64 o.ver, .string o.text, vs k] | none => [])
theorem objCells_congr (os : List LObj) {vs vs' : Nat → Value} : ∀ k, (∀ i, i < k → vs i = vs' i) → objCells os vs k = objCells os vs' k
  | 0, _ => rfl
  | k + 1, h => by
    simp only [objCells]
    rw [objCells_congr os k (fun i hi => h i (by omega)), h k (by omega)]

/-- So far copied: the first k objects, in a row of the call's own, their names in rows of their own. -/
structure CopyAt (w : World) (B : Nat) (v : Value) (os : List LObj) (vs : Nat → Value) (k : Nat) : Prop where
  own : w.ownsRow B 157 4 v k (objCells os vs k)
  kids : ∀ i o, i < k → os[i]? = some o → (∃ g kc, vs i = .slice (some ⟨g, 0, none⟩) o.kids.length kc) ∧ OwnEnts w B (vs i) o.kids
  apart : ∀ i j g, i < k → j < k → i ≠ j → (vs i).ownBlock = some g → (vs j).ownBlock ≠ some g

end Go.Proofs.Ytohimbdmhljocaa

/- A tree in new memory: the walk. -/
namespace Go.Proofs.Ytohimbdmhljocaa
open Go.RowKit

theorem own_block {w w' : World} {B n size : Nat} {e : TypeId} {v : Value} {xs : List Value} (h : w.ownsRow B e size v n xs) (hb : ∀ k, v.ownBlock = some k → w'.heap[k]? = w.heap[k]?) : w'.ownsRow B e size v n xs := by
  refine ⟨h.1, ?_⟩
  rcases h.2 with hn | ⟨g, cap, cur, rfl, h1, hg, rest⟩
  · exact .inl hn
  · exact .inr ⟨g, cap, cur, rfl, h1, by rw [hb g rfl]; exact hg, rest⟩
theorem own_apart {w : World} {B B' n : Nat} {u v : Value} {xs : List Value} {es : List LEnt} (hu : w.ownsRow B 157 4 u n xs) (hv : OwnEnts w B' v es) : ∀ g, v.ownBlock = some g → u.ownBlock ≠ some g := by
  intro g h1 h2
  rcases hu.2 with ⟨rfl, _⟩ | ⟨g1, c1, cur1, rfl, _, hg1, _⟩
  · simp [Value.ownBlock] at h2
  · rcases hv.2 with ⟨rfl, _⟩ | ⟨g2, c2, cur2, rfl, _, hg2, _⟩
    · simp [Value.ownBlock] at h1
    · simp [Value.ownBlock] at h1 h2
      subst h1 h2
      rw [hg1] at hg2
      simp at hg2
theorem CopyAt.next {wr wf : World} {B j : Nat} {u u' : Value} {os : List LObj} {vs : Nat → Value} (h : CopyAt wr B u os vs j) {o : LObj} (ho : os[j]? = some o) {g1 c1 : Nat}
    (ha : ∀ k, k < wr.heap.size → B ≤ k → u.ownBlock ≠ some k → wf.heap[k]? = wr.heap[k]?) (hu : wf.ownsRow B 157 4 u' (j + 1) (objCells os vs j ++ [.int .i64 o.kind, .int .i64 o.ver, .string o.text, .slice (some ⟨g1, 0, none⟩) o.kids.length c1]))
    (hv : OwnEnts wf B (.slice (some ⟨g1, 0, none⟩) o.kids.length c1) o.kids) (hg : wr.heap.size ≤ g1) :
    CopyAt wf B u' os (fun i => if i = j then .slice (some ⟨g1, 0, none⟩) o.kids.length c1 else vs i) (j + 1) := by
  have hc : objCells os (fun i => if i = j then .slice (some ⟨g1, 0, none⟩) o.kids.length c1 else vs i) j = objCells os vs j := objCells_congr os j fun i hi => by simp [show i ≠ j by omega]
  refine ⟨?_, fun i p hi hp => ?_, fun i k g hi hk hik => ?_⟩
  · simp only [objCells, hc, ho, if_true]; exact hu
  · by_cases hij : i = j
    · subst hij
      obtain rfl : p = o := by rw [ho] at hp; simpa using hp.symm
      simp only [if_true]
      exact ⟨⟨g1, c1, rfl⟩, hv⟩
    · simp only [if_neg hij]
      obtain ⟨h1, h2⟩ := h.kids i p (by omega) hp
      exact ⟨h1, own_block h2 fun k hk => ha k (h2.lt k hk).2 (h2.lt k hk).1 (own_apart h.own h2 k hk)⟩
  · by_cases hij : i = j
    · subst hij
      have hkj : k ≠ i := fun e => hik e.symm
      simp only [if_true, if_neg hkj, Value.ownBlock]
      intro e1 e2
      simp at e1
      subst e1
      obtain ⟨p, hp⟩ : ∃ p, os[k]? = some p := ⟨os[k]'(by have := (List.getElem?_eq_some_iff.1 ho).1; omega), by simp⟩
      have := ((h.kids k p (by omega) hp).2.lt g1 e2).2
      omega
    · by_cases hkj : k = j
      · subst hkj
        simp only [if_true, if_neg hij, Value.ownBlock]
        intro e1 e2
        simp at e2
        subst e2
        obtain ⟨p, hp⟩ : ∃ p, os[i]? = some p := ⟨os[i]'(by have := (List.getElem?_eq_some_iff.1 ho).1; omega), by simp⟩
        have := ((h.kids i p (by omega) hp).2.lt g1 e1).2
        omega
      · simp only [if_neg hij, if_neg hkj]
        exact h.apart i k g (by omega) (by omega) hik

end Go.Proofs.Ytohimbdmhljocaa

/- append of numbers onto numbers that the call owns; putting a number among others. -/
namespace Go.Proofs.Ytohimbdmhljocaa
open Go.RowKit

theorem OwnInts.cut {w : World} {B g n cap k : Nat} {l : List Nat} (h : OwnInts w B (.slice (some ⟨g, 0, none⟩) n cap) l) (hn : n = l.length) (hk : k ≤ n) : OwnInts w B (.slice (some ⟨g, 0, none⟩) k cap) (l.take k) := by
  subst hn
  have hl : (l.take k).length = k := by simp; omega
  refine ⟨by simp, .inr ?_⟩
  rcases h.2 with ⟨h', _⟩ | ⟨g', cap', cur, h', hb, hg, hnc, hcm, hcs, htake⟩
  · simp at h'
  · simp only [Value.slice.injEq, Option.some.injEq, Addr.mk.injEq, and_true, true_and] at h'
    obtain ⟨rfl, rfl⟩ := h'
    refine ⟨g, cap, cur, by rw [hl], hb, hg, by omega, hcm, hcs, ?_⟩
    have e2 : cur.toList.take (k * 1) = (cur.toList.take (l.length * 1)).take k := by rw [List.take_take]; congr 1; omega
    rw [hl, e2, htake, List.map_take]
/-- Where a number goes among others; the list with it. -/
def placeI (x : Nat) (l : List Nat) : Nat := (l.takeWhile fun y => decide (y < x)).length
def putI (x : Nat) (l : List Nat) : List Nat := if l[placeI x l]? = some x then l else l.take (placeI x l) ++ [x] ++ l.drop (placeI x l)
end Go.Proofs.Ytohimbdmhljocaa

/- Putting a number among others that ascend: the walk. -/
namespace Go.Proofs.Ytohimbdmhljocaa
open Go.RowKit

def PutIEnd (w : World) (B g : Nat) (x : Nat) (l : List Nat) (e : Ending) (w' : World) : Prop := ∃ g' n' cap', e = .returned (.slice (some ⟨g', 0, none⟩) n' cap') ∧ n' = (putI x l).length ∧ OwnInts w' B (.slice (some ⟨g', 0, none⟩) n' cap') (putI x l) ∧ w.grownBy w' (some g)
/-- The same; the row is the old one or a new one. -/
def PutIEndF (w : World) (B g : Nat) (x : Nat) (l : List Nat) (e : Ending) (w' : World) : Prop := ∃ g' n' cap', e = .returned (.slice (some ⟨g', 0, none⟩) n' cap') ∧ n' = (putI x l).length ∧ OwnInts w' B (.slice (some ⟨g', 0, none⟩) n' cap') (putI x l) ∧ w.grownBy w' (some g) ∧ (g' = g ∨ w.heap.size ≤ g')
theorem PutIEndF.plain {w w' : World} {B g x : Nat} {l : List Nat} {e : Ending} (h : PutIEndF w B g x l e w') : PutIEnd w B g x l e w' := by
  obtain ⟨g', n', cap', h1, h2, h3, h4, _⟩ := h
  exact ⟨g', n', cap', h1, h2, h3, h4⟩
end Go.Proofs.Ytohimbdmhljocaa

/- The numbers that what is done names. -/
namespace Go.Proofs.Ytohimbdmhljocaa
open Go.RowKit

end Go.Proofs.Ytohimbdmhljocaa

/- What is done: the numbers that it names, by the program's set. -/
namespace Go.Proofs.Ytohimbdmhljocaa
open Go.RowKit

/-! Numbers that ascend: two such lists with the same members are one. -/
end Go.Proofs.Ytohimbdmhljocaa

/- Whether something that is named was turned as often as can be. -/
namespace Go.Proofs.Ytohimbdmhljocaa
open Go.RowKit

theorem OwnInts.form {w : World} {B : Nat} {v : Value} {l : List Nat} (h : OwnInts w B v l) : ∃ a c, v = .slice a l.length c ∧ ∀ i, i < l.length → ∃ g k, a = some ⟨g, 0, none⟩ ∧ B ≤ g ∧ g < w.heap.size ∧ l[i]? = some k ∧ w.cell? ⟨g, i, none⟩ = some (.int .i64 (k : Nat)) := by
  by_cases hl : l = []
  · subst hl
    obtain ⟨a, c, rfl⟩ := h.nil
    exact ⟨a, c, rfl, fun i hi => by simp at hi⟩
  · obtain ⟨g, c, rfl, h1, h2, h3⟩ := h.get hl
    refine ⟨_, c, rfl, fun i hi => ?_⟩
    obtain ⟨k, hk, hc⟩ := h3 i hi
    exact ⟨g, k, rfl, h1, h2, hk, hc⟩

end Go.Proofs.Ytohimbdmhljocaa

/- Logs: the numbers that a list names, of the program and of the specification. -/
namespace Go.Proofs.Ytohimbdmhljocaa
open Go.RowKit

/-! The plain function. -/
/-! The program's set grows. -/
end Go.Proofs.Ytohimbdmhljocaa

/- Logs: the numbers that a list names, of the specification. -/
namespace Go.Proofs.Ytohimbdmhljocaa
open Go.RowKit

end Go.Proofs.Ytohimbdmhljocaa

/- Lists of numbers as answers: compared, marked, held. -/
namespace Go.Proofs.Ytohimbdmhljocaa
open Go.RowKit

end Go.Proofs.Ytohimbdmhljocaa

/- Logs: what is ok, of the program. -/
namespace Go.Proofs.Ytohimbdmhljocaa
open Go.RowKit

/-- Numbers that are looked at only. -/
def IntsAt (w : World) (L U : Nat) (a : Option Addr) (n : Nat) (l : List Nat) : Prop := n = l.length ∧ ∀ i, i < n → ∃ g k, a = some ⟨g, 0, none⟩ ∧ L ≤ g ∧ g < U ∧ l[i]? = some k ∧ w.cell? ⟨g, i, none⟩ = some (.int .i64 (k : Nat))
theorem OwnInts.at_ {w : World} {B : Nat} {v : Value} {l : List Nat} (h : OwnInts w B v l) : ∃ a c, v = .slice a l.length c ∧ IntsAt w B w.heap.size a l.length l := by
  obtain ⟨a, c, rfl, hc⟩ := h.form
  exact ⟨a, c, rfl, rfl, fun i hi => by
    obtain ⟨g, k, h1, h2, h3, h4, h5⟩ := hc i hi
    exact ⟨g, k, h1, h2, h3, h4, h5⟩⟩
theorem IntsAt.below {w w' : World} {L U B : Nat} {a : Option Addr} {n : Nat} {l : List Nat} (h : IntsAt w L U a n l) (hb : Below B w w') (hU : U ≤ B) : IntsAt w' L U a n l := ⟨h.1, fun i hi => by
  obtain ⟨g, k, h1, h2, h3, h4, h5⟩ := h.2 i hi
  exact ⟨g, k, h1, h2, h3, h4, by rw [hb.cell (by simp; omega)]; exact h5⟩⟩

end Go.Proofs.Ytohimbdmhljocaa

/- All names of all directories as one list; where something is at home, and the way up: contracts of the specification. -/
namespace Go.Proofs.Ytohimbdmhljocaa
open Go.RowKit

end Go.Proofs.Ytohimbdmhljocaa

/- How often each object is named: the contract of the specification. -/
namespace Go.Proofs.Ytohimbdmhljocaa
open Go.RowKit

end Go.Proofs.Ytohimbdmhljocaa

/- What is ok of a tree: the contract of the specification. -/
namespace Go.Proofs.Ytohimbdmhljocaa
open Go.RowKit

end Go.Proofs.Ytohimbdmhljocaa

/- The nodes of a layout, and what names say, as plain functions. -/
namespace Go.Proofs.Ytohimbdmhljocaa
open Go.RowKit

/-- What the first j nodes of a layout hold: the objects, with these homes and names. -/
def LayF (w : World) (L U : Nat) (os : List LObj) (f : Nat → Value) (j : Nat) (h : Nat → Int) (nm : Nat → ByteArray) : Prop :=
  ∀ i, i < j → ∃ o ka kn kc, os[i]? = some o ∧ f (i * 6) = .int .i64 o.kind ∧ f (i * 6 + 1) = .int .i64 o.ver ∧ f (i * 6 + 2) = .int .i64 (h i) ∧ f (i * 6 + 3) = .string (nm i) ∧ f (i * 6 + 4) = .string o.text ∧ f (i * 6 + 5) = .slice ka kn kc ∧ EntsAt w L U ka kn o.kids
end Go.Proofs.Ytohimbdmhljocaa

/- Each node is told its home: the contract of settle. -/
namespace Go.Proofs.Ytohimbdmhljocaa
open Go.RowKit

end Go.Proofs.Ytohimbdmhljocaa

/- One comes to the top from all: the contract of comeToTop. -/
namespace Go.Proofs.Ytohimbdmhljocaa
open Go.RowKit

end Go.Proofs.Ytohimbdmhljocaa

/- What the program asks of a tree is what the specification asks. -/
namespace Go.Proofs.Ytohimbdmhljocaa

end Go.Proofs.Ytohimbdmhljocaa

/- The contract of layOut: a layout of the tree, just if it is ok. -/
namespace Go.Proofs.Ytohimbdmhljocaa
open Go.RowKit

theorem LayF.below {w w' : World} {L U : Nat} {os : List LObj} {f : Nat → Value} {j : Nat} {h : Nat → Int} {nm : Nat → ByteArray} (hf : LayF w L U os f j h nm) {B : Nat} (hb : Below B w w') (hU : U ≤ B) : LayF w' L U os f j h nm := by
  intro i hi
  obtain ⟨o, ka, kn, kc, ho, q0, q1, q2, q3, q4, q5, hk⟩ := hf i hi
  exact ⟨o, ka, kn, kc, ho, q0, q1, q2, q3, q4, q5, hk.below hb hU⟩
end Go.Proofs.Ytohimbdmhljocaa

/- Home and under: contracts of the program and of the specification. -/
namespace Go.Proofs.Ytohimbdmhljocaa
open Go.RowKit

/-- The one tree lies boxed behind what was there. -/
structure One (w wx : World) (v : Value) : Prop where
  below : Below w.heap.size w wx
  c0 : wx.cell? ⟨w.heap.size, 0, none⟩ = some v
  size : w.heap.size < wx.heap.size
theorem One.next {w wx wy : World} {v : Value} (h : One w wx v) (k : Below wx.heap.size wx wy) : One w wy v :=
  ⟨h.below.trans (k.mono h.below.size), by rw [k.cell (by have := h.size; simp; omega)]; exact h.c0, by have := k.size; have := h.size; omega⟩
theorem One.drew {w wx : World} {v : Value} (h : One w wx v) : One w wx.drew v := h.next (Below.refl _ _).drew
end Go.Proofs.Ytohimbdmhljocaa

/- Logs as arguments of a law: in a box of their own. -/
namespace Go.Proofs.Ytohimbdmhljocaa
open Go.RowKit

/-- The argument in its box, all else as it was. -/
structure Held1 (w wx : World) (q s : Int) (a : Option Addr) (n c : Nat) (a' : Option Addr) (n' c' : Nat) : Prop where
  below : Below w.heap.size w wx
  box : LogBox wx w.heap.size q s a n c a' n' c'
  size : w.heap.size < wx.heap.size
theorem Held1.next {w wx wy : World} {q s : Int} {a : Option Addr} {n c : Nat} {a' : Option Addr} {n' c' : Nat} (h : Held1 w wx q s a n c a' n' c') (hb : Below wx.heap.size wx wy) : Held1 w wy q s a n c a' n' c' :=
  ⟨h.below.trans (hb.mono h.below.size), h.box.of (hb.block _ h.size), by have := hb.size; have := h.size; omega⟩
theorem Held1.new (w : World) (q s : Int) (a : Option Addr) (n c : Nat) (a' : Option Addr) (n' c' : Nat) (t : TypeId) : Held1 w (w.alloc (Obj.cells #[.int .i64 q, .int .i64 s, .slice a n c, .slice a' n' c'] t)) q s a n c a' n' c' :=
  ⟨(Below.refl _ _).alloc (Nat.le_refl _) _, ⟨by simp [go_sem], by simp [go_sem], by simp [go_sem], by simp [go_sem]⟩, by simp⟩
theorem LogBox.new (w : World) (q s : Int) (a : Option Addr) (n c : Nat) (a' : Option Addr) (n' c' : Nat) (t : TypeId) : LogBox (w.alloc (Obj.cells #[.int .i64 q, .int .i64 s, .slice a n c, .slice a' n' c'] t)) w.heap.size q s a n c a' n' c' := ⟨by simp [go_sem], by simp [go_sem], by simp [go_sem], by simp [go_sem]⟩
theorem LogBox.drew {W : World} {q : Nat} {x y : Int} {a : Option Addr} {n c : Nat} {a' : Option Addr} {n' c' : Nat} (h : LogBox W q x y a n c a' n' c') : LogBox W.drew q x y a n c a' n' c' := h.of rfl
theorem LogAt.drew {W : World} {L U : Nat} {x y : Int} {a : Option Addr} {n : Nat} {a' : Option Addr} {n' : Nat} {l : LLog} (h : LogAt W L U x y a n a' n' l) : LogAt W.drew L U x y a n a' n' l := ⟨h.q, h.s, h.b.blocks fun _ _ _ => rfl, h.o.blocks fun _ _ _ => rfl⟩
end Go.Proofs.Ytohimbdmhljocaa

/- Messages: in memory; contracts of the law's szMsg, toMsg, eqMsg. -/
namespace Go.Proofs.Ytohimbdmhljocaa
open Go.RowKit Go.ChangeShapes Go.WideShapes

/-- What a message's log and tree are. -/
structure MsgAt (w : World) (L U : Nat) (q s : Int) (ba : Option Addr) (bn : Nat) (oa : Option Addr) (on : Nat) (ta : Option Addr) (tn : Nat) (l : LLog) (os : List LObj) : Prop where
  log : LogAt w L U q s ba bn oa on l
  tree : ObjsAt w L U ta tn os
theorem MsgAt.below {w w' : World} {L U B : Nat} {q s : Int} {ba oa ta : Option Addr} {bn on tn : Nat} {l : LLog} {os : List LObj} (h : MsgAt w L U q s ba bn oa on ta tn l os) (hb : Below B w w') (hU : U ≤ B) : MsgAt w' L U q s ba bn oa on ta tn l os := ⟨h.log.below hb hU, h.tree.below hb hU⟩
theorem MsgAt.wide {w : World} {L U L' U' : Nat} {q s : Int} {ba oa ta : Option Addr} {bn on tn : Nat} {l : LLog} {os : List LObj} (h : MsgAt w L U q s ba bn oa on ta tn l os) (hL : L' ≤ L) (hU : U ≤ U') : MsgAt w L' U' q s ba bn oa on ta tn l os := ⟨h.log.wide hL hU, h.tree.wide hL hU⟩

theorem LogAt.blocks_ {w w' : World} {L U : Nat} {q s : Int} {a a' : Option Addr} {n n' : Nat} {l : LLog} (h : LogAt w L U q s a n a' n' l) (hb : ∀ b, L ≤ b → b < U → w'.heap[b]? = w.heap[b]?) : LogAt w' L U q s a n a' n' l := ⟨h.q, h.s, h.b.blocks hb, h.o.blocks hb⟩

/-- A message in a box. -/
structure MBox (W : World) (p : Nat) (k who seq q s : Int) (ba : Option Addr) (bn bc : Nat) (oa : Option Addr) (on oc : Nat) (code : Int) (ta : Option Addr) (tn tc : Nat) : Prop where
  c0 : W.cell? ⟨p, 0, none⟩ = some (.int .i64 k)
  c1 : W.cell? ⟨p, 1, none⟩ = some (.int .i64 who)
  c2 : W.cell? ⟨p, 2, none⟩ = some (.int .i64 seq)
  c3 : W.cell? ⟨p, 3, none⟩ = some (.int .i64 q)
  c4 : W.cell? ⟨p, 4, none⟩ = some (.int .i64 s)
  c5 : W.cell? ⟨p, 5, none⟩ = some (.slice ba bn bc)
  c6 : W.cell? ⟨p, 6, none⟩ = some (.slice oa on oc)
  c7 : W.cell? ⟨p, 7, none⟩ = some (.int .i64 code)
  c8 : W.cell? ⟨p, 8, none⟩ = some (.slice ta tn tc)
theorem MBox.of {W W' : World} {p : Nat} {k who seq q s : Int} {ba : Option Addr} {bn bc : Nat} {oa : Option Addr} {on oc : Nat} {code : Int} {ta : Option Addr} {tn tc : Nat} (h : MBox W p k who seq q s ba bn bc oa on oc code ta tn tc) (hb : W'.heap[p]? = W.heap[p]?) : MBox W' p k who seq q s ba bn bc oa on oc code ta tn tc := by
  have hc : ∀ j, W'.cell? ⟨p, j, none⟩ = W.cell? ⟨p, j, none⟩ := fun j => World.cell?_of_block (w := W) hb
  exact ⟨by rw [hc]; exact h.c0, by rw [hc]; exact h.c1, by rw [hc]; exact h.c2, by rw [hc]; exact h.c3, by rw [hc]; exact h.c4, by rw [hc]; exact h.c5, by rw [hc]; exact h.c6, by rw [hc]; exact h.c7, by rw [hc]; exact h.c8⟩
/-- A message in a box that is new, all else as it was. -/
structure HeldM (w wx : World) (p : Nat) (k who seq q s : Int) (ba : Option Addr) (bn bc : Nat) (oa : Option Addr) (on oc : Nat) (code : Int) (ta : Option Addr) (tn tc : Nat) : Prop where
  below : Below w.heap.size w wx
  box : MBox wx p k who seq q s ba bn bc oa on oc code ta tn tc
  lo : w.heap.size ≤ p
  hi : p < wx.heap.size
theorem HeldM.next {w wx wy : World} {p : Nat} {k who seq q s : Int} {ba : Option Addr} {bn bc : Nat} {oa : Option Addr} {on oc : Nat} {code : Int} {ta : Option Addr} {tn tc : Nat} (h : HeldM w wx p k who seq q s ba bn bc oa on oc code ta tn tc) (hb : Below wx.heap.size wx wy) : HeldM w wy p k who seq q s ba bn bc oa on oc code ta tn tc :=
  ⟨h.below.trans (hb.mono h.below.size), h.box.of (hb.block _ h.hi), h.lo, by have := hb.size; have := h.hi; omega⟩
theorem HeldM.new (w : World) (k who seq q s : Int) (ba : Option Addr) (bn bc : Nat) (oa : Option Addr) (on oc : Nat) (code : Int) (ta : Option Addr) (tn tc : Nat) (t : TypeId) : HeldM w (w.alloc (Obj.cells #[.int .i64 k, .int .i64 who, .int .i64 seq, .int .i64 q, .int .i64 s, .slice ba bn bc, .slice oa on oc, .int .i64 code, .slice ta tn tc] t)) w.heap.size k who seq q s ba bn bc oa on oc code ta tn tc :=
  ⟨(Below.refl _ _).alloc (Nat.le_refl _) _, ⟨by simp [go_sem], by simp [go_sem], by simp [go_sem], by simp [go_sem], by simp [go_sem], by simp [go_sem], by simp [go_sem], by simp [go_sem], by simp [go_sem]⟩, Nat.le_refl _, by simp⟩
theorem HeldM.drew {w wx : World} {p : Nat} {k who seq q s : Int} {ba : Option Addr} {bn bc : Nat} {oa : Option Addr} {on oc : Nat} {code : Int} {ta : Option Addr} {tn tc : Nat} (h : HeldM w wx p k who seq q s ba bn bc oa on oc code ta tn tc) : HeldM w wx.drew p k who seq q s ba bn bc oa on oc code ta tn tc := h.next (Below.refl _ _).drew

section
variable {H : Type} {enc : TypeId × Value → H} {w : World} {spare : Nat → Bool} {held : Bool}
theorem open_log_cells {fuel : Nat} {v0 v1 v2 v3 : Value} {x : DataW H × List MemPlace} (h : DataW.trod enc Try.prog w 0 spare held fuel 62 [v0, v1, v2, v3] = some x) :
    ∃ q s a n c a' n' c' l, v0 = .int .i64 q ∧ v1 = .int .i64 s ∧ v2 = .slice a n c ∧ v3 = .slice a' n' c' ∧ LogAt w 0 w.heap.size q s a n a' n' l := by
  have c3 : Try.prog.cellsOf 3 = 1 := by kernel_rfl
  have c22 : Try.prog.cellsOf 59 = 1 := by kernel_rfl
  have c23 : Try.prog.cellsOf 60 = 1 := by kernel_rfl
  obtain ⟨y0, y1, y2, y3, n', _, _, t0, t1, t2, t3⟩ := Go.Joins.trod_struct4 Try.underlying62 h
  simp [c3, c22, c23] at t0 t1 t2 t3
  obtain ⟨k, e0, _, _⟩ := DataW.trod_int Try.underlying3 t0
  obtain ⟨vr, e1, _, _⟩ := DataW.trod_int Try.underlying3 t1
  obtain ⟨ba, bn, bc, bs, e2, hB⟩ := open_bases t2
  obtain ⟨oa, on, oc, ops, e3, hO⟩ := open_ops_at t3
  simp at e0 e1
  exact ⟨k, vr, ba, bn, bc, oa, on, oc, ⟨k, vr, bs, ops⟩, e0, e1, e2, e3, rfl, rfl, hB, hO⟩
end

end Go.Proofs.Ytohimbdmhljocaa

/- What worlds are built on. -/

/- Lists of what has parts of its own, in memory; clients, messages, logs, what was told, worlds: read as arguments. -/
namespace Go.Proofs.Ytohimbdmhljocaa
open Go.RowKit Go.ChangeShapes Go.WideShapes

/-- A list in memory: c cells an element, E says what an element is. -/
structure RowsAt {α : Type} (c : Nat) (E : World → Nat → Nat → List Value → α → Prop) (w : World) (L U : Nat) (a : Option Addr) (n : Nat) (xs : List α) : Prop where
  len : n = xs.length
  bd : n ≤ maxLen
  at_ : n ≠ 0 → ∃ b off, a = some ⟨b, off, none⟩ ∧ L ≤ b ∧ b < U ∧ ∀ i, i < n → ∃ x vs, xs[i]? = some x ∧ (∀ k v, vs[k]? = some v → w.cell? ⟨b, off + i * c + k, none⟩ = some v) ∧ E w L U vs x
/-- What is asked of what an element is. -/
structure Elt {α : Type} (E : World → Nat → Nat → List Value → α → Prop) : Prop where
  blocks : ∀ {w w' L U vs x}, E w L U vs x → (∀ b, L ≤ b → b < U → w'.heap[b]? = w.heap[b]?) → E w' L U vs x
  wide : ∀ {w L U L' U' vs x}, E w L U vs x → L' ≤ L → U ≤ U' → E w L' U' vs x
theorem RowsAt.blocks {α : Type} {c : Nat} {E : World → Nat → Nat → List Value → α → Prop} {w w' : World} {L U : Nat} {a : Option Addr} {n : Nat} {xs : List α} (h : RowsAt c E w L U a n xs) (K : Elt E) (hb : ∀ b, L ≤ b → b < U → w'.heap[b]? = w.heap[b]?) : RowsAt c E w' L U a n xs :=
  ⟨h.len, h.bd, fun hn => by
    obtain ⟨b, off, ha, hL, hbU, hc⟩ := h.at_ hn
    refine ⟨b, off, ha, hL, hbU, fun i hi => ?_⟩
    obtain ⟨x, vs, he, h0, h1⟩ := hc i hi
    have hk := hb b hL hbU
    exact ⟨x, vs, he, fun k v hv => by rw [World.cell?_of_block (w := w) hk]; exact h0 k v hv, K.blocks h1 hb⟩⟩
theorem RowsAt.below {α : Type} {c : Nat} {E : World → Nat → Nat → List Value → α → Prop} {w w' : World} {L U B : Nat} {a : Option Addr} {n : Nat} {xs : List α} (h : RowsAt c E w L U a n xs) (K : Elt E) (hb : Below B w w') (hU : U ≤ B) : RowsAt c E w' L U a n xs :=
  h.blocks K fun b _ hbU => hb.block b (by omega)
theorem RowsAt.wide {α : Type} {c : Nat} {E : World → Nat → Nat → List Value → α → Prop} {w : World} {L U L' U' : Nat} {a : Option Addr} {n : Nat} {xs : List α} (h : RowsAt c E w L U a n xs) (K : Elt E) (hL : L' ≤ L) (hU : U ≤ U') : RowsAt c E w L' U' a n xs :=
  ⟨h.len, h.bd, fun hn => by
    obtain ⟨b, off, ha, hL, hbU, hc⟩ := h.at_ hn
    refine ⟨b, off, ha, by omega, by omega, fun i hi => ?_⟩
    obtain ⟨x, vs, he, h0, h1⟩ := hc i hi
    exact ⟨x, vs, he, h0, K.wide h1 (by omega) hU⟩⟩
theorem RowsAt.none_ {α : Type} (c : Nat) (E : World → Nat → Nat → List Value → α → Prop) (w : World) (L U : Nat) (a : Option Addr) : RowsAt c E w L U a 0 [] := ⟨rfl, by simp, fun h => absurd rfl h⟩
theorem Elt.below {α : Type} {E : World → Nat → Nat → List Value → α → Prop} (K : Elt E) {w w' : World} {L U B : Nat} {vs : List Value} {x : α} (h : E w L U vs x) (hb : Below B w w') (hU : U ≤ B) : E w' L U vs x := K.blocks h fun b _ hbU => hb.block b (by omega)
section
variable {H : Type} {enc : TypeId × Value → H} {w : World} {spare : Nat → Bool} {held : Bool}
theorem open_rows {α : Type} {E : World → Nat → Nat → List Value → α → Prop} {t e : TypeId} {c : Nat} (ht : Try.prog.underlying t = some (.slice e)) (ce : Try.prog.cellsOf e = c) (hc : 0 < c) (hel : ∀ (fuel : Nat) (cs : List Value) (x : DataW H × List MemPlace), cs.length = c → DataW.trod enc Try.prog w 0 spare held fuel e cs = some x → ∃ y : α, E w 0 w.heap.size cs y) {fuel : Nat} {v : Value} {x : DataW H × List MemPlace} (h : DataW.trod enc Try.prog w 0 spare held fuel t [v] = some x) :
    ∃ a n k es, v = .slice a n k ∧ RowsAt c E w 0 w.heap.size a n es := by
  rcases Go.Deep.open_slice ht h with ⟨hcs, _⟩ | ⟨a, len, cap, m, n, D, Pl, hcs, _, hl, hm, hmm, _, hx⟩
  · simp at hcs
    exact ⟨none, 0, 0, [], hcs, RowsAt.none_ _ _ _ _ _ _⟩
  · simp at hcs
    have hlm : len ≤ m := by rw [hmm]; split <;> omega
    obtain ⟨es, hes, hp⟩ := list_of (n := len) (p := fun i (o : α) => ∃ vs : List Value, vs.length = c ∧ (∀ k v, vs[k]? = some v → w.cell? (a.add (i * c + k)) = some v) ∧ E w 0 w.heap.size vs o) (fun i hi => by
      obtain ⟨cs', h1, h2⟩ := hx i (by omega)
      rw [ce] at h1
      obtain ⟨_, hlen, hcell⟩ := World.cells?_some h1
      obtain ⟨y, hy⟩ := hel _ cs' _ hlen h2
      refine ⟨y, cs', hlen, fun k v hv => ?_, hy⟩
      have hk : k < c := by rw [← hlen]; exact (List.getElem?_eq_some_iff.1 hv).1
      have g0 := hcell k hk
      rw [Go.Deep.add_add] at g0
      rw [g0]
      exact hv)
    refine ⟨some a, len, cap, es, hcs, hes.symm, by omega, fun hn => ?_⟩
    obtain ⟨b, off, spot⟩ := a
    obtain ⟨_, _, vs0, hl0, c0, _⟩ := hp 0 (by omega)
    have c0 := c0 0 _ (List.getElem?_eq_getElem (by omega))
    have hspot : spot = none := by simpa [Addr.add] using World.cell?_spot c0
    subst hspot
    refine ⟨b, off, rfl, Nat.zero_le _, by have := cell_lt c0; simpa [Addr.add] using this, fun i hi => ?_⟩
    obtain ⟨o, ho, vs, hlen, q0, hE⟩ := hp i hi
    exact ⟨o, vs, ho, fun k v hv => by rw [Nat.add_assoc, ← addr_add]; exact q0 k v hv, hE⟩
end

/-- A list of what is done, as an element. -/
def OpsE (w : World) (L U : Nat) (vs : List Value) (ops : List LOp) : Prop := ∃ a n c, vs = [.slice a n c] ∧ OpsAt w L U a n ops
theorem eltOps : Elt OpsE := ⟨fun ⟨a, n, c, h, H⟩ hb => ⟨a, n, c, h, H.blocks hb⟩, fun ⟨a, n, c, h, H⟩ hL hU => ⟨a, n, c, h, H.wide hL hU⟩⟩
section
variable {H : Type} {enc : TypeId × Value → H} {w : World} {spare : Nat → Bool} {held : Bool}
end

structure LKeep where
  who : Int
  seq : Int
  base : List LObj
  waits : Bool
  sent : List LOp
  list : List LOp
  shelf : List (List LOp)
/-- What a client is. -/
structure KeepAt (w : World) (L U : Nat) (q s : Int) (a : Option Addr) (n : Nat) (b : Bool) (a1 : Option Addr) (n1 : Nat) (a2 : Option Addr) (n2 : Nat) (a3 : Option Addr) (n3 : Nat) (k : LKeep) : Prop where
  q : q = k.who
  s : s = k.seq
  b : b = k.waits
  base : ObjsAt w L U a n k.base
  sent : OpsAt w L U a1 n1 k.sent
  list : OpsAt w L U a2 n2 k.list
  shelf : RowsAt 1 OpsE w L U a3 n3 k.shelf
theorem KeepAt.blocks {w w' : World} {L U : Nat} {q s : Int} {a a1 a2 a3 : Option Addr} {n n1 n2 n3 : Nat} {b : Bool} {k : LKeep} (h : KeepAt w L U q s a n b a1 n1 a2 n2 a3 n3 k) (hb : ∀ b, L ≤ b → b < U → w'.heap[b]? = w.heap[b]?) : KeepAt w' L U q s a n b a1 n1 a2 n2 a3 n3 k :=
  ⟨h.q, h.s, h.b, h.base.blocks_ hb, h.sent.blocks hb, h.list.blocks hb, h.shelf.blocks eltOps hb⟩
theorem KeepAt.wide {w : World} {L U L' U' : Nat} {q s : Int} {a a1 a2 a3 : Option Addr} {n n1 n2 n3 : Nat} {b : Bool} {k : LKeep} (h : KeepAt w L U q s a n b a1 n1 a2 n2 a3 n3 k) (hL : L' ≤ L) (hU : U ≤ U') : KeepAt w L' U' q s a n b a1 n1 a2 n2 a3 n3 k :=
  ⟨h.q, h.s, h.b, h.base.wide hL hU, h.sent.wide hL hU, h.list.wide hL hU, h.shelf.wide eltOps hL hU⟩
theorem KeepAt.below {w w' : World} {L U B : Nat} {q s : Int} {a a1 a2 a3 : Option Addr} {n n1 n2 n3 : Nat} {b : Bool} {k : LKeep} (h : KeepAt w L U q s a n b a1 n1 a2 n2 a3 n3 k) (hb : Below B w w') (hU : U ≤ B) : KeepAt w' L U q s a n b a1 n1 a2 n2 a3 n3 k := h.blocks fun b _ hbU => hb.block b (by omega)
def KeepE (w : World) (L U : Nat) (vs : List Value) (k : LKeep) : Prop := ∃ q s a n c b a1 n1 c1 a2 n2 c2 a3 n3 c3, vs = [.int .i64 q, .int .i64 s, .slice a n c, .bool b, .slice a1 n1 c1, .slice a2 n2 c2, .slice a3 n3 c3] ∧ KeepAt w L U q s a n b a1 n1 a2 n2 a3 n3 k
theorem eltKeep : Elt KeepE := ⟨fun ⟨q, s, a, n, c, b, a1, n1, c1, a2, n2, c2, a3, n3, c3, h, H⟩ hb => ⟨q, s, a, n, c, b, a1, n1, c1, a2, n2, c2, a3, n3, c3, h, H.blocks hb⟩, fun ⟨q, s, a, n, c, b, a1, n1, c1, a2, n2, c2, a3, n3, c3, h, H⟩ hL hU => ⟨q, s, a, n, c, b, a1, n1, c1, a2, n2, c2, a3, n3, c3, h, H.wide hL hU⟩⟩
section
variable {H : Type} {enc : TypeId × Value → H} {w : World} {spare : Nat → Bool} {held : Bool}
end
section
variable {H : Type} {enc : TypeId × Value → H} {w : World} {spare : Nat → Bool} {held : Bool}
end

def LogE (w : World) (L U : Nat) (vs : List Value) (l : LLog) : Prop := ∃ q s a n c a' n' c', vs = [.int .i64 q, .int .i64 s, .slice a n c, .slice a' n' c'] ∧ LogAt w L U q s a n a' n' l
theorem LogAt.blocksX {w w' : World} {L U : Nat} {q s : Int} {a a' : Option Addr} {n n' : Nat} {l : LLog} (h : LogAt w L U q s a n a' n' l) (hb : ∀ b, L ≤ b → b < U → w'.heap[b]? = w.heap[b]?) : LogAt w' L U q s a n a' n' l := ⟨h.q, h.s, h.b.blocks hb, h.o.blocks hb⟩
theorem eltLog : Elt LogE := ⟨fun ⟨q, s, a, n, c, a', n', c', h, H⟩ hb => ⟨q, s, a, n, c, a', n', c', h, H.blocksX hb⟩, fun ⟨q, s, a, n, c, a', n', c', h, H⟩ hL hU => ⟨q, s, a, n, c, a', n', c', h, H.wide hL hU⟩⟩
section
variable {H : Type} {enc : TypeId × Value → H} {w : World} {spare : Nat → Bool} {held : Bool}
theorem list4w {α : Type} {l : List α} (h : l.length = 4) : ∃ a b c d, l = [a, b, c, d] := by
  match l, h with
  | [a, b, c, d], _ => exact ⟨a, b, c, d, rfl⟩
end

structure LMsg where
  kind : Int
  who : Int
  seq : Int
  log : LLog
  code : Int
  tree : List LObj
def MsgE (w : World) (L U : Nat) (vs : List Value) (m : LMsg) : Prop := ∃ q s ba bn bc oa on oc ta tn tc, vs = [.int .i64 m.kind, .int .i64 m.who, .int .i64 m.seq, .int .i64 q, .int .i64 s, .slice ba bn bc, .slice oa on oc, .int .i64 m.code, .slice ta tn tc] ∧ MsgAt w L U q s ba bn oa on ta tn m.log m.tree
theorem eltMsg : Elt MsgE := ⟨fun ⟨q, s, ba, bn, bc, oa, on, oc, ta, tn, tc, h, H⟩ hb => ⟨q, s, ba, bn, bc, oa, on, oc, ta, tn, tc, h, H.log.blocks_ hb, H.tree.blocks_ hb⟩, fun ⟨q, s, ba, bn, bc, oa, on, oc, ta, tn, tc, h, H⟩ hL hU => ⟨q, s, ba, bn, bc, oa, on, oc, ta, tn, tc, h, H.wide hL hU⟩⟩
section
variable {H : Type} {enc : TypeId × Value → H} {w : World} {spare : Nat → Bool} {held : Bool}
end

structure LTold where
  who : Int
  seq : Int
  code : Int
def ToldE (_ : World) (_ _ : Nat) (vs : List Value) (t : LTold) : Prop := vs = [.int .i64 t.who, .int .i64 t.seq, .int .i64 t.code]
theorem eltTold : Elt ToldE := ⟨fun h _ => h, fun h _ _ => h⟩
section
variable {H : Type} {enc : TypeId × Value → H} {w : World} {spare : Nat → Bool} {held : Bool}
end

structure LWorld where
  tree : List LObj
  dones : List LDone
  keeps : List LKeep
  net : List LMsg
  past : List LLog
  told : List LTold
/-- What a world is. -/
structure WorldAt (w : World) (L U : Nat) (a0 : Option Addr) (n0 : Nat) (a1 : Option Addr) (n1 : Nat) (a2 : Option Addr) (n2 : Nat) (a3 : Option Addr) (n3 : Nat) (a4 : Option Addr) (n4 : Nat) (a5 : Option Addr) (n5 : Nat) (x : LWorld) : Prop where
  tree : ObjsAt w L U a0 n0 x.tree
  dones : DonesAt w L U a1 n1 x.dones
  keeps : RowsAt 7 KeepE w L U a2 n2 x.keeps
  net : RowsAt 9 MsgE w L U a3 n3 x.net
  past : RowsAt 4 LogE w L U a4 n4 x.past
  told : RowsAt 3 ToldE w L U a5 n5 x.told
theorem WorldAt.blocks {w w' : World} {L U : Nat} {a0 a1 a2 a3 a4 a5 : Option Addr} {n0 n1 n2 n3 n4 n5 : Nat} {x : LWorld} (h : WorldAt w L U a0 n0 a1 n1 a2 n2 a3 n3 a4 n4 a5 n5 x) (hb : ∀ b, L ≤ b → b < U → w'.heap[b]? = w.heap[b]?) : WorldAt w' L U a0 n0 a1 n1 a2 n2 a3 n3 a4 n4 a5 n5 x :=
  ⟨h.tree.blocks_ hb, h.dones.blocks hb, h.keeps.blocks eltKeep hb, h.net.blocks eltMsg hb, h.past.blocks eltLog hb, h.told.blocks eltTold hb⟩
theorem WorldAt.wide {w : World} {L U L' U' : Nat} {a0 a1 a2 a3 a4 a5 : Option Addr} {n0 n1 n2 n3 n4 n5 : Nat} {x : LWorld} (h : WorldAt w L U a0 n0 a1 n1 a2 n2 a3 n3 a4 n4 a5 n5 x) (hL : L' ≤ L) (hU : U ≤ U') : WorldAt w L' U' a0 n0 a1 n1 a2 n2 a3 n3 a4 n4 a5 n5 x :=
  ⟨h.tree.wide hL hU, h.dones.wide hL hU, h.keeps.wide eltKeep hL hU, h.net.wide eltMsg hL hU, h.past.wide eltLog hL hU, h.told.wide eltTold hL hU⟩
theorem WorldAt.below {w w' : World} {L U B : Nat} {a0 a1 a2 a3 a4 a5 : Option Addr} {n0 n1 n2 n3 n4 n5 : Nat} {x : LWorld} (h : WorldAt w L U a0 n0 a1 n1 a2 n2 a3 n3 a4 n4 a5 n5 x) (hb : Below B w w') (hU : U ≤ B) : WorldAt w' L U a0 n0 a1 n1 a2 n2 a3 n3 a4 n4 a5 n5 x := h.blocks fun b _ hbU => hb.block b (by omega)
section
variable {H : Type} {enc : TypeId × Value → H} {w : World} {spare : Nat → Bool} {held : Bool}
end
end Go.Proofs.Ytohimbdmhljocaa
