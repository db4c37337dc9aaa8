/- Lemmas that the proofs of this seat share: SlimF, SlimS, SlimS2, SlimS3, SlimS4, SlimS5, SlimI, SlimI2, SlimI3, SlimI4, SlimI5, SlimI6, SlimI7, SlimI8, SlimI9, SlimI10, SlimI11, OpBentA, CloneA. -/
import Derived.Test.YtcdfdodipdmdkaaGreatDoorU10
import Derived.Deep.QuietTactic
import Derived.BigQuiet
import Derived.Deep.Upon
import Derived.Deep.DeepCutAuto
import Derived.Deep.RegionHeld
import Derived.OrdersHeld
import Derived.BigRegion
import Derived.Test.YtcdfdodipdmdkaaGreatDoorU11
import Derived.Deep.CutBlock
import Derived.Test.YtcdfdodipdmdkaaGreatDoorU08
import Derived.Test.YtcdfdodipdmdkaaGreatDoorU03
/- Lists that are made shorter: what that is, on lists. -/
namespace Go.Proofs.YtcdfdodipdmdkaaGreatDoor
open Go.RowKit

/-! Some of a list. -/
/-! Texts that are void. -/
/-! What is made and goes again. -/
/-! What is moved and moved on. -/
/-! Again and again. -/
/-! What is kept. -/
end Go.Proofs.YtcdfdodipdmdkaaGreatDoor

/- Lists that are made shorter: the specification. -/
namespace Go.Proofs.YtcdfdodipdmdkaaGreatDoor
open Go.RowKit

theorem opCells_at : ∀ (l : List LOp) (i : Nat) (o : LOp), l[i]? = some o → ∀ t u, o.val[t]? = some u → (opCells l)[i * 7 + t]? = some u
  | [], i, o, h, _, _, _ => by simp at h
  | x :: r, 0, o, h, t, u, hu => by
    simp at h
    subst h
    have ht : t < x.val.toList.length := by
      have := (Array.getElem?_eq_some_iff.1 hu).1
      simpa using this
    simp only [opCells, List.flatMap_cons]
    rw [List.getElem?_append_left (by omega)]
    simpa using hu
  | x :: r, i + 1, o, h, t, u, hu => by
    have ih := opCells_at r i o (by simpa using h) t u hu
    simp only [opCells, List.flatMap_cons]
    have h7 : x.val.toList.length = 7 := by simp [LOp.val]
    rw [List.getElem?_append_right (by omega), h7]
    have e : (i + 1) * 7 + t - 7 = i * 7 + t := by omega
    rw [e]
    exact ih
theorem OwnOps.at_ {w : World} {B : Nat} {v : Value} {l : List LOp} (h : OwnOps w B v l) (hn : ∀ o ∈ l, OpSz o) : ∃ a c, v = .slice a l.length c ∧ OpsAt w B w.heap.size a l.length l := by
  by_cases h0 : l.length = 0
  · obtain rfl : l = [] := List.eq_nil_of_length_eq_zero h0
    rcases h.2 with ⟨rfl, _⟩ | ⟨g, cap, cur, rfl, _⟩
    · exact ⟨_, _, rfl, rfl, by simp [maxLen], fun hn => absurd rfl hn⟩
    · exact ⟨_, _, rfl, rfl, by simp [maxLen], fun hn => absurd rfl hn⟩
  · obtain ⟨g, c, rfl, hb, hlt⟩ := World.ownsRow.form h (by omega)
    have hbd : l.length ≤ maxLen := by
      rcases h.2 with ⟨h', _⟩ | ⟨g', cap', cur, h', _, _, hnc, hcm, _⟩
      · simp at h'
      · omega
    have hc : ∀ i (hi : i < l.length) t u, t < 7 → (l[i]).val[t]? = some u → w.cell? ⟨g, 0 + i * 7 + t, none⟩ = some u := fun i hi t u ht hu => by
      have := World.ownsRow.cellAt h (i * 7 + t) (by omega)
      rw [Nat.zero_add, this]
      exact opCells_at l i l[i] (by simp [hi]) t u hu
    exact ⟨_, _, rfl, rfl, hbd, fun _ => ⟨g, 0, rfl, hb, hlt, fun i hi => ⟨l[i], by simp [hi], hn _ (List.getElem_mem hi), hc i hi 0 _ (by omega) (by simp [LOp.val]), hc i hi 1 _ (by omega) (by simp [LOp.val]), hc i hi 2 _ (by omega) (by simp [LOp.val]), hc i hi 3 _ (by omega) (by simp [LOp.val]), hc i hi 4 _ (by omega) (by simp [LOp.val]), hc i hi 5 _ (by omega) (by simp [LOp.val]), hc i hi 6 _ (by omega) (by simp [LOp.val])⟩⟩⟩
theorem OpsAt.sz {w : World} {L U : Nat} {a : Option Addr} {n : Nat} {ops : List LOp} (h : OpsAt w L U a n ops) : ∀ o ∈ ops, OpSz o := fun o ho => by
  obtain ⟨i, hi, rfl⟩ := List.getElem_of_mem ho
  have hl := h.len
  obtain ⟨b, off, _, _, _, hc⟩ := h.at_ (by omega)
  obtain ⟨o', ho', hs, _⟩ := hc i (by omega)
  rw [List.getElem?_eq_getElem hi] at ho'
  cases ho'
  exact hs
theorem AppOEnd.below {w0 wr w1 : World} {B : Nat} {u v : Value} {l r : List LOp} {o1 : Obj} (hE : AppOEnd (wr.alloc o1) w1 B u v r) (hown : OwnOps wr B u l) (hb : Below B w0 wr) (hsz : B ≤ wr.heap.size) : Below B w0 w1 := by
  have hr : ∀ k, u.ownBlock = some k → B ≤ k := fun k e => (hown.lt k e).1
  exact hb.trans (below_grown ((Below.refl _ _).alloc (by omega) _) hE.grown hr (by simp; omega))
theorem OwnOps.next {w w' : World} {B : Nat} {v : Value} {l : List LOp} (h : OwnOps w B v l) (hb : Below w.heap.size w w') : OwnOps w' B v l := by
  refine ⟨h.1, ?_⟩
  rcases h.2 with hn | ⟨g, cap, cur, rfl, hB, hgg, rest⟩
  · exact .inl hn
  · refine .inr ⟨g, cap, cur, rfl, hB, ?_, rest⟩
    rw [hb.block g (Array.getElem?_eq_some_iff.1 hgg).1]
    exact hgg
/-- What a rule leaves: a list of its own, and all else as it was. -/
def SlimEnd (w : World) (r : List LOp) (e : Ending) (w' : World) : Prop := (∃ v, e = .returned v ∧ OwnOps w' w.heap.size v r) ∧ Below w.heap.size w w'

end Go.Proofs.YtcdfdodipdmdkaaGreatDoor

/- Lists that are made shorter: the specification, what goes again. -/
namespace Go.Proofs.YtcdfdodipdmdkaaGreatDoor
open Go.RowKit

/-! append of a whole list. -/
theorem OpsAt.cells {w : World} {L U b off n : Nat} {ops : List LOp} (H : OpsAt w L U (some ⟨b, off, none⟩) n ops) : ∀ j u, (opCells ops)[j]? = some u → w.cell? ((⟨b, off, none⟩ : Addr).add j) = some u := by
  intro j u hu
  have hadd : (⟨b, off, none⟩ : Addr).add j = ⟨b, off + j, none⟩ := by unfold Addr.add; split <;> simp_all
  rw [hadd]
  have hj := (List.getElem?_eq_some_iff.1 hu).1
  rw [opCells_len] at hj
  have hl := H.len
  obtain ⟨b', off', ha, _, _, hc⟩ := H.at_ (by omega)
  simp only [Option.some.injEq, Addr.mk.injEq, and_true] at ha
  obtain ⟨rfl, rfl⟩ := ha
  obtain ⟨o, ho, _, hat⟩ := hc (j / 7) (by omega)
  have hv : ∀ t v, t < 7 → j = j / 7 * 7 + t → o.val[t]? = some v → u = v := fun t v ht e hv => by
    have := opCells_at ops (j / 7) o ho t v hv
    rw [← e, hu] at this
    exact Option.some.inj this
  have e7 : j = j / 7 * 7 + j % 7 := by omega
  have hm : j % 7 < 7 := Nat.mod_lt _ (by omega)
  generalize j % 7 = t at e7 hm
  match t, hm with
  | 0, _ => rw [hv 0 _ (by omega) e7 (by simp [LOp.val]; rfl), e7, ← Nat.add_assoc]; exact hat.c0
  | 1, _ => rw [hv 1 _ (by omega) e7 (by simp [LOp.val]; rfl), e7, ← Nat.add_assoc]; exact hat.c1
  | 2, _ => rw [hv 2 _ (by omega) e7 (by simp [LOp.val]; rfl), e7, ← Nat.add_assoc]; exact hat.c2
  | 3, _ => rw [hv 3 _ (by omega) e7 (by simp [LOp.val]; rfl), e7, ← Nat.add_assoc]; exact hat.c3
  | 4, _ => rw [hv 4 _ (by omega) e7 (by simp [LOp.val]; rfl), e7, ← Nat.add_assoc]; exact hat.c4
  | 5, _ => rw [hv 5 _ (by omega) e7 (by simp [LOp.val]; rfl), e7, ← Nat.add_assoc]; exact hat.c5
  | 6, _ => rw [hv 6 _ (by omega) e7 (by simp [LOp.val]; rfl), e7, ← Nat.add_assoc]; exact hat.c6
end Go.Proofs.YtcdfdodipdmdkaaGreatDoor

/- Lists that are made shorter: the specification, what is moved on. -/
namespace Go.Proofs.YtcdfdodipdmdkaaGreatDoor
open Go.RowKit

theorem OwnOps.one {W : World} {o : LOp} {B q : Nat} (hB : B ≤ W.heap.size) (hq : q = W.heap.size) : OwnOps (W.alloc (Obj.cells o.val 27)) B (.slice (some ⟨q, 0, none⟩) 1 1) [o] := by
  subst hq
  have := World.ownsRow_lit (base := B) (e := 27) (size := 7) W o.val 1 hB (by simp [maxLen]) (by simp [LOp.val])
  simpa [OwnOps, opCells] using this
theorem OpsAt.grown {w w' : World} {L U : Nat} {a : Option Addr} {n : Nat} {ops : List LOp} {row : Option Nat} (H : OpsAt w L U a n ops) (hg : w.grownBy w' row) (hne : ∀ k, row = some k → k < L) (hU : U ≤ w.heap.size) : OpsAt w' L U a n ops :=
  ⟨H.len, H.bd, fun hn => by
    obtain ⟨b, off, ha, hL, hbU, hc⟩ := H.at_ hn
    refine ⟨b, off, ha, hL, hbU, fun i hi => ?_⟩
    obtain ⟨o, ho, hs, h0⟩ := hc i hi
    exact ⟨o, ho, hs, h0.of_block (hg.block b (by omega) (fun e => by have := hne b e.symm; omega))⟩⟩
theorem OwnOps.cut {w : World} {B g n cap k : Nat} {l : List LOp} (h : OwnOps w B (.slice (some ⟨g, 0, none⟩) n cap) l) (hn : n = l.length) (hk : k ≤ n) : OwnOps w B (.slice (some ⟨g, 0, none⟩) k cap) (l.take k) := by
  subst hn
  have hl : (l.take k).length = k := by simp; omega
  refine ⟨by rw [opCells_len], .inr ?_⟩
  rcases h.2 with ⟨h', _⟩ | ⟨g', cap', cur, h', hb, hg, hnc, hcm, hcs, htake⟩
  · simp at h'
  · simp only [Value.slice.injEq, Option.some.injEq, Addr.mk.injEq, and_true, true_and] at h'
    obtain ⟨rfl, rfl⟩ := h'
    refine ⟨g, cap, cur, by rw [hl], hb, hg, by omega, hcm, hcs, ?_⟩
    have e1 : opCells l = opCells (l.take k) ++ opCells (l.drop k) := by rw [← opCells_app, List.take_append_drop]
    have e2 : cur.toList.take (k * 7) = (cur.toList.take (l.length * 7)).take (k * 7) := by rw [List.take_take]; congr 1; omega
    rw [hl, e2, htake, e1, List.take_left' (by rw [opCells_len, hl])]
end Go.Proofs.YtcdfdodipdmdkaaGreatDoor

/- Lists that are made shorter: the specification, what is moved on, again and again. -/
namespace Go.Proofs.YtcdfdodipdmdkaaGreatDoor
open Go.RowKit

end Go.Proofs.YtcdfdodipdmdkaaGreatDoor

/- Lists that are made shorter: the specification, whole. -/
namespace Go.Proofs.YtcdfdodipdmdkaaGreatDoor
open Go.RowKit

theorem OwnOps.base {w : World} {B B' : Nat} {v : Value} {l : List LOp} (h : OwnOps w B v l) (hB : B' ≤ B) : OwnOps w B' v l :=
  ⟨h.1, by
    rcases h.2 with h | ⟨g, cap, cu, h1, h2, h3⟩
    · exact .inl h
    · exact .inr ⟨g, cap, cu, h1, by omega, h3⟩⟩
theorem SlimEnd.later {w w1 w' : World} {r : List LOp} {e : Ending} (h : SlimEnd w1 r e w') (hb : Below w.heap.size w w1) : SlimEnd w r e w' := by
  obtain ⟨⟨v, rfl, ho⟩, hb'⟩ := h
  exact ⟨⟨v, rfl, ho.base hb.size⟩, hb.trans (hb'.mono hb.size)⟩

end Go.Proofs.YtcdfdodipdmdkaaGreatDoor

/- Lists that are made shorter: the program: what is deleted. -/
namespace Go.Proofs.YtcdfdodipdmdkaaGreatDoor
open Go.RowKit

end Go.Proofs.YtcdfdodipdmdkaaGreatDoor

/- Lists that are made shorter: the program: texts. -/
namespace Go.Proofs.YtcdfdodipdmdkaaGreatDoor
open Go.RowKit

end Go.Proofs.YtcdfdodipdmdkaaGreatDoor

/- Lists that are made shorter: the program: what goes again. -/
namespace Go.Proofs.YtcdfdodipdmdkaaGreatDoor
open Go.RowKit

def GoEnd (g : Int) (e : Ending) : Prop := e = .returned (.tuple #[.int .i64 (if 0 ≤ g then g else 0), .bool (decide (0 ≤ g))])
theorem GoEnd.no {e : Ending} (h : e = .returned (.tuple #[.int .i64 0, .bool false])) : GoEnd (-1) e := by subst h; rfl
end Go.Proofs.YtcdfdodipdmdkaaGreatDoor

/- Lists that are made shorter: the program: what goes again is taken out. -/
namespace Go.Proofs.YtcdfdodipdmdkaaGreatDoor
open Go.RowKit

end Go.Proofs.YtcdfdodipdmdkaaGreatDoor

/- Lists that are made shorter: the program: what goes again, one at a time. -/
namespace Go.Proofs.YtcdfdodipdmdkaaGreatDoor
open Go.RowKit

end Go.Proofs.YtcdfdodipdmdkaaGreatDoor

/- Lists that are made shorter: the program: a rule again and again; pairs. -/
namespace Go.Proofs.YtcdfdodipdmdkaaGreatDoor
open Go.RowKit

end Go.Proofs.YtcdfdodipdmdkaaGreatDoor

/- Lists that are made shorter: the program: where something is then. -/
namespace Go.Proofs.YtcdfdodipdmdkaaGreatDoor
open Go.RowKit

end Go.Proofs.YtcdfdodipdmdkaaGreatDoor

/- Lists that are made shorter: the program: what moves on. -/
namespace Go.Proofs.YtcdfdodipdmdkaaGreatDoor
open Go.RowKit

structure BoxAt (w : World) (q : Nat) (o : LOp) : Prop where
  c0 : w.cell? ⟨q, 0, none⟩ = some (.int .i64 o.kind)
  c1 : w.cell? ⟨q, 1, none⟩ = some (.int .i64 o.dir)
  c2 : w.cell? ⟨q, 2, none⟩ = some (.string o.name)
  c3 : w.cell? ⟨q, 3, none⟩ = some (.int .i64 o.dir2)
  c4 : w.cell? ⟨q, 4, none⟩ = some (.string o.name2)
  c5 : w.cell? ⟨q, 5, none⟩ = some (.int .i64 o.id)
  c6 : w.cell? ⟨q, 6, none⟩ = some (.string o.text)
theorem BoxAt.of {w w' : World} {q : Nat} {o : LOp} (h : BoxAt w q o) (e : w'.heap[q]? = w.heap[q]?) : BoxAt w' q o := by
  have hc : ∀ j, w'.cell? ⟨q, j, none⟩ = w.cell? ⟨q, j, none⟩ := fun j => World.cell?_of_block (w := w) e
  exact ⟨by rw [hc]; exact h.c0, by rw [hc]; exact h.c1, by rw [hc]; exact h.c2, by rw [hc]; exact h.c3, by rw [hc]; exact h.c4, by rw [hc]; exact h.c5, by rw [hc]; exact h.c6⟩
end Go.Proofs.YtcdfdodipdmdkaaGreatDoor

/- Lists that are made shorter: the program: what moves on from where it was put. -/
namespace Go.Proofs.YtcdfdodipdmdkaaGreatDoor
open Go.RowKit

/-- Taken first, the frame and the list of what came up written out. -/
theorem takeH {P : Program} {md : Region.Mode} {ops : Array Oper} {Q : Exit → Act → World → Prop} {S : World → Prop} {i : Nat} {oi : Oper} {v : Value} {fuel : Nat} {listed : Array Bool} {a : Act} {w : World} (d : Nat) (l2 : Array Bool) (hi : ops[i]? = some oi)
    (hs : Region.noSelect ops = true) (hf : Region.free md ops listed i = true) (hr : (Region.ready md ops listed).contains i = true)
    (hd : oi.dst = some d) (hl : listed.setIfInBounds i true = l2) (hQ : ∀ c a w, Q (.panic c) (a.put oi.dst v) w → Q (.panic c) a w) (hy : YieldsIf P ops S oi v a) (hS : S w)
    (h : wpAnyH P md ops Q S fuel l2 (a.put (some d) v) w) : wpAnyH P md ops Q S (fuel + 1) listed a w :=
  wpAnyH_take hi hs hf hr hQ hy hS (by rw [hl, hd]; exact h)
theorem listH {P : Program} {md : Region.Mode} {ops : Array Oper} {Q : Exit → Act → World → Prop} {S : World → Prop} {fuel : Nat} {listed l2 : Array Bool} {a : Act} {w : World} (hl : listed = l2) (h : wpAnyH P md ops Q S fuel l2 a w) : wpAnyH P md ops Q S fuel listed a w := by
  rw [hl]; exact h

end Go.Proofs.YtcdfdodipdmdkaaGreatDoor

/- Lists that are made shorter: the program: what moves on, whole; lists with one put anew. -/
namespace Go.Proofs.YtcdfdodipdmdkaaGreatDoor
open Go.RowKit

/-! A row of what is done, read and written. -/
/-! What is left when one goes, or both. -/
end Go.Proofs.YtcdfdodipdmdkaaGreatDoor

/- Lists that are made shorter: the program: steps of a region that make and fill boxes. -/
namespace Go.Proofs.YtcdfdodipdmdkaaGreatDoor
open Go.RowKit

def zrow (z : Array Value) (i : Nat) : Value := z[i]?.getD default
theorem zrow_new (W : World) (z : Array Value) (t : TypeId) : (W.alloc (.cells z t)).rowIs W.heap.size t z.size (zrow z) := World.rowIs_alloc W z t (zrow z) (fun i hi => by unfold zrow; rw [Array.getElem?_eq_getElem hi]; rfl)
section
variable {ops : Array Oper} {ac : Act} {K : Act → World → Prop} {Q : Exit → Act → World → Prop} {E : Prop} {ty : TypeId} {ps : String} {af : Array Edge}
theorem st_alloc30 (W : World) (d : Nat)
    (h : ∀ q W', q = W.heap.size → Below W.heap.size W W' → W'.rowIs q 27 7 (zrow #[.int .i64 0, .int .i64 0, .string ⟨#[]⟩, .int .i64 0, .string ⟨#[]⟩, .int .i64 0, .string ⟨#[]⟩]) → K (ac.put (some d) (.pointer (some ⟨q, 0, none⟩))) W') :
    if Region.wanted { dst := some d, op := .alloc 27, type := ty, pos := ps, after := af, guard := none } (yielded ops ac.tmps) = true then Oper.wp Tryz.prog { dst := some d, op := .alloc 27, type := ty, pos := ps, after := af, guard := none } ac W K Q else E := by
  rw [if_pos (by simp [Region.wanted])]
  have := h W.heap.size (W.alloc (.cells #[.int .i64 0, .int .i64 0, .string ⟨#[]⟩, .int .i64 0, .string ⟨#[]⟩, .int .i64 0, .string ⟨#[]⟩] 27)) rfl ((Below.refl _ _).alloc (Nat.le_refl _) _) (zrow_new W _ 27)
  unfold Oper.wp
  go_simp
  exact this
theorem st_store30 (W : World) (tp tv : Nat) (q k : Nat) (x : LOp) (nn : Nat) (f : Nat → Value) (hp : ac.tmps[tp]?.getD undef = .pointer (some ⟨q, k, none⟩)) (hv : ac.tmps[tv]?.getD undef = .agg x.val) (hr : W.rowIs q 27 nn f) (hk : k + 7 ≤ nn)
    (hold : ∃ o : LOp, f k = .int .i64 o.kind ∧ f (k + 1) = .int .i64 o.dir ∧ f (k + 2) = .string o.name ∧ f (k + 3) = .int .i64 o.dir2 ∧ f (k + 4) = .string o.name2 ∧ f (k + 5) = .int .i64 o.id ∧ f (k + 6) = .string o.text)
    (h : ∀ W', But q W W' → W'.rowIs q 27 nn (fun i => if i = k + 6 then .string x.text else if i = k + 5 then .int .i64 x.id else if i = k + 4 then .string x.name2 else if i = k + 3 then .int .i64 x.dir2 else if i = k + 2 then .string x.name else if i = k + 1 then .int .i64 x.dir else if i = k then .int .i64 x.kind else f i) → K ac W') :
    if Region.wanted { dst := none, op := .store 27 (.tmp tp) (.tmp tv), type := ty, pos := ps, after := af, guard := none } (yielded ops ac.tmps) = true then Oper.wp Tryz.prog { dst := none, op := .store 27 (.tmp tp) (.tmp tv), type := ty, pos := ps, after := af, guard := none } ac W K Q else E := by
  rw [if_pos (by simp [Region.wanted])]
  obtain ⟨o, o0, o1, o2, o3, o4, o5, o6⟩ := hold
  have c0 : W.cell? ⟨q, k, none⟩ = some (.int .i64 o.kind) := by rw [hr.cell (by omega), o0]
  have c1 : W.cell? ⟨q, k + 1, none⟩ = some (.int .i64 o.dir) := by rw [hr.cell (by omega), o1]
  have c2 : W.cell? ⟨q, k + 2, none⟩ = some (.string o.name) := by rw [hr.cell (by omega), o2]
  have c3 : W.cell? ⟨q, k + 3, none⟩ = some (.int .i64 o.dir2) := by rw [hr.cell (by omega), o3]
  have c4 : W.cell? ⟨q, k + 4, none⟩ = some (.string o.name2) := by rw [hr.cell (by omega), o4]
  have c5 : W.cell? ⟨q, k + 5, none⟩ = some (.int .i64 o.id) := by rw [hr.cell (by omega), o5]
  have c6 : W.cell? ⟨q, k + 6, none⟩ = some (.string o.text) := by rw [hr.cell (by omega), o6]
  have z0 : W.frozen? ⟨q, k, none⟩ = false := hr.frozen _
  have z1 : W.frozen? ⟨q, k + 1, none⟩ = false := hr.frozen _
  have z2 : W.frozen? ⟨q, k + 2, none⟩ = false := hr.frozen _
  have z3 : W.frozen? ⟨q, k + 3, none⟩ = false := hr.frozen _
  have z4 : W.frozen? ⟨q, k + 4, none⟩ = false := hr.frozen _
  have z5 : W.frozen? ⟨q, k + 5, none⟩ = false := hr.frozen _
  have z6 : W.frozen? ⟨q, k + 6, none⟩ = false := hr.frozen _
  have := h (((((((W.setCell ⟨q, k, none⟩ (.int .i64 x.kind)).setCell ⟨q, k + 1, none⟩ (.int .i64 x.dir)).setCell ⟨q, k + 2, none⟩ (.string x.name)).setCell ⟨q, k + 3, none⟩ (.int .i64 x.dir2)).setCell ⟨q, k + 4, none⟩ (.string x.name2)).setCell ⟨q, k + 5, none⟩ (.int .i64 x.id)).setCell ⟨q, k + 6, none⟩ (.string x.text))
    (((((((But.refl q W).set _ _).set _ _).set _ _).set _ _).set _ _).set _ _ |>.set _ _)
    (((((((hr.set k _).set (k + 1) _).set (k + 2) _).set (k + 3) _).set (k + 4) _).set (k + 5) _).set (k + 6) _)
  clear h hr o0 o1 o2 o3 o4 o5 o6
  simp only [LOp.val] at hv
  unfold Oper.wp
  go_simp
  exact this
end
end Go.Proofs.YtcdfdodipdmdkaaGreatDoor

/- Something to be done, as it is drawn, one in twelve bent (l3OpBent). -/
namespace Go.Proofs.YtcdfdodipdmdkaaGreatDoor
open Go.RowKit

theorem EntsAt.blocks_ {w w' : World} {L U : Nat} {a : Option Addr} {n : Nat} {es : List LEnt} (h : EntsAt w L U a n es) (hb : ∀ b, L ≤ b → b < U → w'.heap[b]? = w.heap[b]?) : EntsAt w' L U a n es :=
  ⟨h.len, h.bd, fun hn => by
    obtain ⟨b, off, ha, hL, hbU, hc⟩ := h.at_ hn
    refine ⟨b, off, ha, hL, hbU, fun i hi => ?_⟩
    obtain ⟨e, he, hs, h0, h1⟩ := hc i hi
    have hk := hb b hL hbU
    exact ⟨e, he, hs, by rw [World.cell?_of_block (w := w) hk]; exact h0, by rw [World.cell?_of_block (w := w) hk]; exact h1⟩⟩
theorem ObjsAt.blocks_ {w w' : World} {L U : Nat} {a : Option Addr} {n : Nat} {os : List LObj} (h : ObjsAt w L U a n os) (hb : ∀ b, L ≤ b → b < U → w'.heap[b]? = w.heap[b]?) : ObjsAt w' L U a n os :=
  ⟨h.len, h.bd, fun hn => by
    obtain ⟨b, off, ha, hL, hbU, hc⟩ := h.at_ hn
    refine ⟨b, off, ha, hL, hbU, fun i hi => ?_⟩
    obtain ⟨o, ka, kn, kc, he, hs, h0, h1, h2, h3, hk⟩ := hc i hi
    have hk' := hb b hL hbU
    exact ⟨o, ka, kn, kc, he, hs, by rw [World.cell?_of_block (w := w) hk']; exact h0, by rw [World.cell?_of_block (w := w) hk']; exact h1, by rw [World.cell?_of_block (w := w) hk']; exact h2, by rw [World.cell?_of_block (w := w) hk']; exact h3, hk.blocks_ hb⟩⟩
theorem But.both_ {W3 V F : World} {rb q : Nat} (h : But rb W3 V) (hb : But q V F) (hq : W3.heap.size ≤ q) (hr : rb ≤ q) : But rb W3 F := ⟨h.below.trans (hb.below.mono hr), fun i hi hl => (hb.block i (by omega) (by have := h.below.size; omega)).trans (h.block i hi hl)⟩
theorem RdTo.both_ {V F : World} {rb q P : Nat} (h : RdTo V rb P) (hb : But q V F) (hr : rb < q) : RdTo F rb P := by
  obtain ⟨p, hp, R⟩ := h
  exact ⟨p, hp, R.below hb.below hr⟩
theorem RdTo.on_ {V : World} {rb P P' : Nat} (h : RdTo V rb P) (hP : P ≤ P') : RdTo V rb P' := by
  obtain ⟨p, hp, R⟩ := h
  exact ⟨p, by omega, R⟩
theorem opAt_of {F : World} {q : Nat} {x : LOp} {f : Nat → Value} (h : F.rowIs q 27 7 (fun i => if i = 0 + 6 then .string x.text else if i = 0 + 5 then .int .i64 x.id else if i = 0 + 4 then .string x.name2 else if i = 0 + 3 then .int .i64 x.dir2 else if i = 0 + 2 then .string x.name else if i = 0 + 1 then .int .i64 x.dir else if i = 0 then .int .i64 x.kind else f i)) : OpAt F q 0 x :=
  ⟨by rw [h.cell (by omega)]; rfl, by rw [h.cell (by omega)]; rfl, by rw [h.cell (by omega)]; rfl, by rw [h.cell (by omega)]; rfl, by rw [h.cell (by omega)]; rfl, by rw [h.cell (by omega)]; rfl, by rw [h.cell (by omega)]; rfl⟩
/-- In the midst of it: the reader, the box of what is drawn. -/
structure OB (W0 W : World) (rb P q5 : Nat) (o : LOp) : Prop where
  but : But rb W0 W
  rd : RdTo W rb P
  at_ : OpAt W q5 0 o
  row : ∃ f, W.rowIs q5 27 7 f
  lo : W0.heap.size ≤ q5
  b : o.name.size ≤ 5 ∧ o.name2.size ≤ 5 ∧ o.text.size ≤ 5
theorem OB.next {W0 W W' : World} {rb P P' q5 : Nat} {o : LOp} (h : OB W0 W rb P q5 o) (hr0 : rb < W0.heap.size) (hb : But rb W W') (hr : RdTo W' rb P') : OB W0 W' rb P' q5 o := by
  obtain ⟨f, hf⟩ := h.row
  have hk := hb.block q5 (by have := h.lo; omega) hf.lt
  exact ⟨h.but.trans hb, hr, h.at_.of_block hk, ⟨f, hf.of_block hk⟩, h.lo, h.b⟩
theorem OB.put {W0 W : World} {rb P q5 : Nat} {o : LOp} (h : OB W0 W rb P q5 o) (hr0 : rb < W0.heap.size) (k : Nat) (v : Value) (o' : LOp) (ha : OpAt (W.setCell ⟨q5, k, none⟩ v) q5 0 o') (hb' : o'.name.size ≤ 5 ∧ o'.name2.size ≤ 5 ∧ o'.text.size ≤ 5) : OB W0 (W.setCell ⟨q5, k, none⟩ v) rb P q5 o' := by
  obtain ⟨f, hf⟩ := h.row
  have hs := (But.refl q5 W).set k v
  exact ⟨h.but.both_ hs h.lo (by have := h.lo; omega), h.rd.both_ hs (by have := h.lo; omega), ha, ⟨_, hf.set k v⟩, h.lo, hb'⟩
theorem OB.on {W0 W : World} {rb P P' q5 : Nat} {o : LOp} (h : OB W0 W rb P q5 o) (hP : P ≤ P') : OB W0 W rb P' q5 o := ⟨h.but, h.rd.on_ hP, h.at_, h.row, h.lo, h.b⟩
/-- Its texts are short. -/
def OpB (o : LOp) : Prop := o.name.size ≤ 5 ∧ o.name2.size ≤ 5 ∧ o.text.size ≤ 5
def OpBentEnd (w : World) (rb P : Nat) (e : Ending) (w' : World) : Prop := (∃ o : LOp, e = .returned (.agg o.val) ∧ OpB o) ∧ RdTo w' rb P ∧ But rb w w'
set_option maxHeartbeats 4000000 in
set_option maxRecDepth 20000 in
theorem opBent_any (rb p : Nat) (a : Option Addr) (c : Nat) (os : List LObj) (L : Nat) (w : World) (hp : p ≤ 900000) (hrw : rb < w.heap.size) (hrL : rb < L) (hS : Few os) (H : ObjsAt w L w.heap.size a 32 os) (R : RdTo w rb p) :
    Calls Tryz.prog 49 #[.pointer (some ⟨rb, 0, none⟩), .agg #[.slice a 32 c]] w fun e w' => OpBentEnd w rb (p + 20) e w' := by
  go_enter Tryz.func49, Tryz.ntmps49
  go_upto_region 1 with fail
  have hA0 : Below w.heap.size w ((w.alloc (Obj.cells #[.slice a 32 c] 25)).alloc (Obj.cells #[.int .i64 0, .int .i64 0, .string ⟨#[]⟩, .int .i64 0, .string ⟨#[]⟩, .int .i64 0, .string ⟨#[]⟩] 27)) := ((Below.refl _ _).alloc (Nat.le_refl _) _).alloc (by simp) _
  have s3 : ((w.alloc (Obj.cells #[.slice a 32 c] 25)).alloc (Obj.cells #[.int .i64 0, .int .i64 0, .string ⟨#[]⟩, .int .i64 0, .string ⟨#[]⟩, .int .i64 0, .string ⟨#[]⟩] 27)).cell? ⟨w.heap.size, 0, none⟩ = some (.slice a 32 c) := by simp [go_sem]
  have R4 : Hid (((w.alloc (Obj.cells #[.slice a 32 c] 25)).alloc (Obj.cells #[.int .i64 0, .int .i64 0, .string ⟨#[]⟩, .int .i64 0, .string ⟨#[]⟩, .int .i64 0, .string ⟨#[]⟩] 27)).rowIs (w.heap.size + 1) 27 7 (zrow #[.int .i64 0, .int .i64 0, .string ⟨#[]⟩, .int .i64 0, .string ⟨#[]⟩, .int .i64 0, .string ⟨#[]⟩])) := by
    have := zrow_new (w.alloc (Obj.cells #[.slice a 32 c] 25)) #[.int .i64 0, .int .i64 0, .string ⟨#[]⟩, .int .i64 0, .string ⟨#[]⟩, .int .i64 0, .string ⟨#[]⟩] 27
    show World.rowIs _ _ _ _ _
    simpa using this
  have hz0 : w.heap.size + 2 ≤ ((w.alloc (Obj.cells #[.slice a 32 c] 25)).alloc (Obj.cells #[.int .i64 0, .int .i64 0, .string ⟨#[]⟩, .int .i64 0, .string ⟨#[]⟩, .int .i64 0, .string ⟨#[]⟩] 27)).heap.size := by simp
  generalize hW0 : (w.alloc (Obj.cells #[.slice a 32 c] 25)).alloc (Obj.cells #[.int .i64 0, .int .i64 0, .string ⟨#[]⟩, .int .i64 0, .string ⟨#[]⟩, .int .i64 0, .string ⟨#[]⟩] 27) = W0 at *
  clear hW0
  have HO : Hid (ObjsAt W0 L w.heap.size a 32 os) := H.below hA0 (Nat.le_refl _)
  have hBt : But rb W0 W0.drew := But.of_below (by omega) (Below.refl _ _).drew
  have hRd : RdTo W0.drew rb p := (R.but hA0 hrw).but (Below.refl _ _).drew (by omega)
  go_cut [5] (fun s5 wx => ∃ q5 o, s5 = .pointer (some ⟨q5, 0, none⟩) ∧ W0.heap.size ≤ q5 ∧ OpSm o ∧ OpAt wx q5 0 o ∧ (∃ f, wx.rowIs q5 27 7 f) ∧ RdTo wx rb (p + 10) ∧ But rb W0 wx)
  case first =>
    refine wp_region_held_drew (S := (fun W => W.cell? ⟨w.heap.size, 0, none⟩ = some (.slice a 32 c))) (by kernel_rfl) ?_ (fun hHeld => ?_)
    · exact s3
    refine listH (l2 := #[false, false, false, false, false, false, false]) (by kernel_rfl) ?_
    refine takeH (i := 0) (oi := _) (v := ?vk35) 6 #[true, false, false, false, false, false, false] rfl (by kernel_rfl) (by kernel_rfl) (by kernel_rfl) rfl (by kernel_rfl) (fun _ _ _ h => h) (Or.inl ⟨by rfl, ?yk35⟩) (by assumption) ?rk35
    case yk35 => (intro w' hSw; go_simp; try with_reducible rfl)
    simp only [Act.put, List.setIfInBounds_toArray, List.set_cons_succ, List.set_cons_zero]
    refine takeH (i := 1) (oi := _) (v := ?vk36) 7 #[true, true, false, false, false, false, false] rfl (by kernel_rfl) (by kernel_rfl) (by kernel_rfl) rfl (by kernel_rfl) (fun _ _ _ h => h) (Or.inl ⟨by rfl, ?yk36⟩) (by assumption) ?rk36
    case yk36 => (intro w' hSw; go_simp; try with_reducible rfl)
    simp only [Act.put, List.setIfInBounds_toArray, List.set_cons_succ, List.set_cons_zero]
    refine takeH (i := 2) (oi := _) (v := ?vk37) 8 #[true, true, true, false, false, false, false] rfl (by kernel_rfl) (by kernel_rfl) (by kernel_rfl) rfl (by kernel_rfl) (fun _ _ _ h => h) (Or.inl ⟨by rfl, ?yk37⟩) (by assumption) ?rk37
    case yk37 => (intro w' hSw; go_simp; try with_reducible rfl)
    simp only [Act.put, List.setIfInBounds_toArray, List.set_cons_succ, List.set_cons_zero]
    refine wpAnyH_ready (rs := [3, 5]) (by kernel_rfl) (by simp) ?_
    refine AllReadyH.cons (o := _) rfl (fun K hK => ?_) (AllReadyH.cons (o := _) rfl (fun K hK => ?_) AllReadyH.nil)
    · go_simp
      refine (pick_to rb p 4 _ (by omega) (by omega) (by omega) hRd).mono ?_
      rintro e V3 ⟨⟨x, rfl, hx⟩, hRd, hb3⟩
      have hBt := hBt.trans hb3
      clear hb3
      go_wp2_with fail
      refine hK.out _ _ (by rw [hBt.cell (by simp; omega) (by simp; omega)]; exact s3) (fun hHeld => ?_)
      clear hK K
      try simp only [Act.put]
      refine listH (l2 := #[true, true, true, true, false, false, false]) (by kernel_rfl) ?_
      refine wpAnyH_ready (rs := [4, 5]) (by kernel_rfl) (by simp) ?_
      refine AllReadyH.cons (o := _) rfl (fun K hK => ?_) (AllReadyH.cons (o := _) rfl (fun K hK => ?_) AllReadyH.nil)
      · go_simp
        have HT := ((HO.out.blocks_ fun i h1 h2 => hBt.block i (by omega) (by omega)).wide (Nat.le_refl _) (Nat.le_trans (by omega : w.heap.size ≤ W0.heap.size) hBt.below.size) : ObjsAt _ L _ a 32 os)
        refine (op_any rb (p + 1) a c os L (x : Int) _ (by omega) (by have := hBt.below.size; omega) hrL hS HT hRd).mono ?_
        clear HT
        rintro e V5 ⟨⟨o, rfl, ho⟩, hRd, hb5⟩
        have hBt := hBt.trans hb5
        clear hb5
        go_wp2_with fail
        refine hK.out _ _ (by rw [hBt.cell (by simp; omega) (by simp; omega)]; exact s3) (fun hHeld => ?_)
        clear hK K
        try simp only [Act.put]
        refine listH (l2 := #[true, true, true, true, true, false, false]) (by kernel_rfl) ?_
        refine wpAnyH_ready (rs := [5]) (by kernel_rfl) (by simp) ?_
        refine AllReadyH.cons (o := _) rfl (fun K hK => ?_) AllReadyH.nil
        refine st_alloc30 _ 5 ?_
        intro q5 V9 hq5 hb9 R5
        have lo5 : W0.heap.size ≤ q5 := by have := hBt.below.size; rw [hq5]; exact this
        have hBt := hBt.next (by have := hBt.below.size; omega) hb9
        have hRd := hRd.but hb9 (by have := hBt.below.size; have := hb9.size; omega)
        clear hq5 hb9
        refine hK.out _ _ (by rw [hBt.cell (by simp; omega) (by simp; omega)]; exact s3) (fun hHeld => ?_)
        clear hK K
        simp only [Act.put, List.setIfInBounds_toArray, List.set_cons_succ, List.set_cons_zero]
        refine listH (l2 := #[true, true, true, true, true, true, false]) (by kernel_rfl) ?_
        refine wpAnyH_ready (rs := [6]) (by kernel_rfl) (by simp) ?_
        refine AllReadyH.cons (o := _) rfl (fun K hK => ?_) AllReadyH.nil
        refine st_store30 _ 5 10 q5 0 o 7 _ rfl rfl R5 (by omega) ⟨⟨0, 0, ⟨#[]⟩, 0, ⟨#[]⟩, 0, ⟨#[]⟩⟩, rfl, rfl, rfl, rfl, rfl, rfl, rfl⟩ ?_
        intro F hbF hrF
        have hBt := hBt.both_ hbF lo5 (by omega)
        have hRd := hRd.both_ hbF (by omega)
        refine hK.out _ _ (by rw [hBt.cell (by simp; omega) (by simp; omega)]; exact s3) (fun hHeld => ?_)
        clear hK K
        refine listH (l2 := #[true, true, true, true, true, true, true]) (by kernel_rfl) ?_
        refine wpAnyH_done (by kernel_rfl) ?_ _
        go_wp2_with fail
        go_meet
        exact ⟨q5, o, rfl, lo5, ho, opAt_of hrF, ⟨_, hrF⟩, hRd, hBt⟩
      · refine st_alloc30 _ 5 ?_
        intro q5 V9 hq5 hb9 R5
        have lo5 : W0.heap.size ≤ q5 := by have := hBt.below.size; rw [hq5]; exact this
        have hBt := hBt.next (by have := hBt.below.size; omega) hb9
        have hRd := hRd.but hb9 (by have := hBt.below.size; have := hb9.size; omega)
        clear hq5 hb9
        refine hK.out _ _ (by rw [hBt.cell (by simp; omega) (by simp; omega)]; exact s3) (fun hHeld => ?_)
        clear hK K
        simp only [Act.put, List.setIfInBounds_toArray, List.set_cons_succ, List.set_cons_zero]
        refine listH (l2 := #[true, true, true, true, false, true, false]) (by kernel_rfl) ?_
        refine wpAnyH_ready (rs := [4]) (by kernel_rfl) (by simp) ?_
        refine AllReadyH.cons (o := _) rfl (fun K hK => ?_) AllReadyH.nil
        go_simp
        have HT := ((HO.out.blocks_ fun i h1 h2 => hBt.block i (by omega) (by omega)).wide (Nat.le_refl _) (Nat.le_trans (by omega : w.heap.size ≤ W0.heap.size) hBt.below.size) : ObjsAt _ L _ a 32 os)
        refine (op_any rb (p + 1) a c os L (x : Int) _ (by omega) (by have := hBt.below.size; omega) hrL hS HT hRd).mono ?_
        clear HT
        rintro e V5 ⟨⟨o, rfl, ho⟩, hRd, hb5⟩
        have hBt := hBt.trans hb5
        have R5 := R5.of_block (hb5.block q5 (by omega) R5.lt)
        clear hb5
        go_wp2_with fail
        refine hK.out _ _ (by rw [hBt.cell (by simp; omega) (by simp; omega)]; exact s3) (fun hHeld => ?_)
        clear hK K
        try simp only [Act.put]
        refine listH (l2 := #[true, true, true, true, true, true, false]) (by kernel_rfl) ?_
        refine wpAnyH_ready (rs := [6]) (by kernel_rfl) (by simp) ?_
        refine AllReadyH.cons (o := _) rfl (fun K hK => ?_) AllReadyH.nil
        refine st_store30 _ 5 10 q5 0 o 7 _ rfl rfl R5 (by omega) ⟨⟨0, 0, ⟨#[]⟩, 0, ⟨#[]⟩, 0, ⟨#[]⟩⟩, rfl, rfl, rfl, rfl, rfl, rfl, rfl⟩ ?_
        intro F hbF hrF
        have hBt := hBt.both_ hbF lo5 (by omega)
        have hRd := hRd.both_ hbF (by omega)
        refine hK.out _ _ (by rw [hBt.cell (by simp; omega) (by simp; omega)]; exact s3) (fun hHeld => ?_)
        clear hK K
        refine listH (l2 := #[true, true, true, true, true, true, true]) (by kernel_rfl) ?_
        refine wpAnyH_done (by kernel_rfl) ?_ _
        go_wp2_with fail
        go_meet
        exact ⟨q5, o, rfl, lo5, ho, opAt_of hrF, ⟨_, hrF⟩, hRd, hBt⟩
    · refine st_alloc30 _ 5 ?_
      intro q5 V9 hq5 hb9 R5
      have lo5 : W0.heap.size ≤ q5 := by have := hBt.below.size; rw [hq5]; exact this
      have hBt := hBt.next (by have := hBt.below.size; omega) hb9
      have hRd := hRd.but hb9 (by have := hBt.below.size; have := hb9.size; omega)
      clear hq5 hb9
      refine hK.out _ _ (by rw [hBt.cell (by simp; omega) (by simp; omega)]; exact s3) (fun hHeld => ?_)
      clear hK K
      simp only [Act.put, List.setIfInBounds_toArray, List.set_cons_succ, List.set_cons_zero]
      refine listH (l2 := #[true, true, true, false, false, true, false]) (by kernel_rfl) ?_
      refine wpAnyH_ready (rs := [3]) (by kernel_rfl) (by simp) ?_
      refine AllReadyH.cons (o := _) rfl (fun K hK => ?_) AllReadyH.nil
      go_simp
      refine (pick_to rb p 4 _ (by omega) (by omega) (by omega) hRd).mono ?_
      rintro e V3 ⟨⟨x, rfl, hx⟩, hRd, hb3⟩
      have hBt := hBt.trans hb3
      have R5 := R5.of_block (hb3.block q5 (by omega) R5.lt)
      clear hb3
      go_wp2_with fail
      refine hK.out _ _ (by rw [hBt.cell (by simp; omega) (by simp; omega)]; exact s3) (fun hHeld => ?_)
      clear hK K
      try simp only [Act.put]
      refine listH (l2 := #[true, true, true, true, false, true, false]) (by kernel_rfl) ?_
      refine wpAnyH_ready (rs := [4]) (by kernel_rfl) (by simp) ?_
      refine AllReadyH.cons (o := _) rfl (fun K hK => ?_) AllReadyH.nil
      go_simp
      have HT := ((HO.out.blocks_ fun i h1 h2 => hBt.block i (by omega) (by omega)).wide (Nat.le_refl _) (Nat.le_trans (by omega : w.heap.size ≤ W0.heap.size) hBt.below.size) : ObjsAt _ L _ a 32 os)
      refine (op_any rb (p + 1) a c os L (x : Int) _ (by omega) (by have := hBt.below.size; omega) hrL hS HT hRd).mono ?_
      clear HT
      rintro e V5 ⟨⟨o, rfl, ho⟩, hRd, hb5⟩
      have hBt := hBt.trans hb5
      have R5 := R5.of_block (hb5.block q5 (by omega) R5.lt)
      clear hb5
      go_wp2_with fail
      refine hK.out _ _ (by rw [hBt.cell (by simp; omega) (by simp; omega)]; exact s3) (fun hHeld => ?_)
      clear hK K
      try simp only [Act.put]
      refine listH (l2 := #[true, true, true, true, true, true, false]) (by kernel_rfl) ?_
      refine wpAnyH_ready (rs := [6]) (by kernel_rfl) (by simp) ?_
      refine AllReadyH.cons (o := _) rfl (fun K hK => ?_) AllReadyH.nil
      refine st_store30 _ 5 10 q5 0 o 7 _ rfl rfl R5 (by omega) ⟨⟨0, 0, ⟨#[]⟩, 0, ⟨#[]⟩, 0, ⟨#[]⟩⟩, rfl, rfl, rfl, rfl, rfl, rfl, rfl⟩ ?_
      intro F hbF hrF
      have hBt := hBt.both_ hbF lo5 (by omega)
      have hRd := hRd.both_ hbF (by omega)
      refine hK.out _ _ (by rw [hBt.cell (by simp; omega) (by simp; omega)]; exact s3) (fun hHeld => ?_)
      clear hK K
      refine listH (l2 := #[true, true, true, true, true, true, true]) (by kernel_rfl) ?_
      refine wpAnyH_done (by kernel_rfl) ?_ _
      go_wp2_with fail
      go_meet
      exact ⟨q5, o, rfl, lo5, ho, opAt_of hrF, ⟨_, hrF⟩, hRd, hBt⟩
  obtain ⟨q5, o, rfl, lo5, ho, ha5, hr5, hrd5, hbt5⟩ := hcut
  have hr0 : rb < W0.heap.size := by omega
  have HB5 : Hid (OB W0 wc rb (p + 10) q5 o) := ⟨hbt5, hrd5, ha5, hr5, lo5, by have := ho.1; have := ho.2.1; have := ho.2.2; omega⟩
  clear ha5 hr5 hrd5 hbt5 hBt hRd s3 HO
  rename World => W5
  go_wp2_with fail
  refine (pick_to rb (p + 10) 48 _ (by omega) (by omega) (by omega) HB5.out.rd).mono ?_
  rintro e W6 ⟨⟨d, rfl, hd⟩, hr6, hb6⟩
  have HB6 : Hid (OB W0 W6 rb (p + 11) q5 o) := HB5.out.next hr0 hb6 hr6
  have hz6 : W0.heap.size ≤ W6.heap.size := HB6.out.but.below.size
  have hq5 : q5 < W6.heap.size := by obtain ⟨f, hf⟩ := HB6.out.row; exact hf.lt
  clear HB5 hr6 hb6 ho
  go_upto_block 0 with fail
  go_cut [] (fun wx => ∃ o', OB W0 wx rb (p + 12) q5 o')
  case first =>
    by_cases d0 : d = 0
    · subst d0
      go_wp2_with fail
      have hal : Below W6.heap.size W6 (W6.alloc (Obj.cells #[.int .i64 0, .int .i64 6] 3)) := (Below.refl _ _).alloc (Nat.le_refl _) _
      have H7 := HB6.out.next hr0 (But.of_below (by omega) hal) (HB6.out.rd.but hal (by omega))
      refine (num_to (fun _ => True) rb (p + 11) W6.heap.size 2 2 _ (by omega) (by omega) (by omega) (by omega) H7.rd ?_).mono ?_
      · intro i hi
        match i, hi with
        | 0, _ => exact ⟨0, by simp [go_sem], trivial⟩
        | 1, _ => exact ⟨6, by simp [go_sem], trivial⟩
      rintro e W7 ⟨⟨z, rfl, _⟩, hr7, hb7⟩
      have HB7 : Hid (OB W0 W7 rb (p + 11 + 1) q5 o) := H7.next hr0 hb7 hr7
      obtain ⟨f7, hf7⟩ := HB7.out.row
      obtain ⟨e0, e1, e2, e3, e4, e5, e6⟩ := HB7.out.at_
      have y0 := hf7.frozen 0
      have hl7 := hf7.lt
      clear hf7 H7 hb7 hr7 hal
      go_wp2_with fail
      go_meet
      exact ⟨_, HB7.out.put hr0 0 (.int .i64 z) { o with kind := z } ⟨by simp [go_sem, e0], by simp [go_sem, e1], by simp [go_sem, e2], by simp [go_sem, e3], by simp [go_sem, e4], by simp [go_sem, e5], by simp [go_sem, e6]⟩ HB7.out.b⟩
    by_cases d1 : d = 1
    · subst d1
      go_wp2_with fail
      have hal : Below W6.heap.size W6 (W6.alloc (Obj.cells #[.int .i64 0, .int .i64 32, .int .i64 (-1)] 3)) := (Below.refl _ _).alloc (Nat.le_refl _) _
      have H7 := HB6.out.next hr0 (But.of_below (by omega) hal) (HB6.out.rd.but hal (by omega))
      refine (num_to (fun _ => True) rb (p + 11) W6.heap.size 3 3 _ (by omega) (by omega) (by omega) (by omega) H7.rd ?_).mono ?_
      · intro i hi
        match i, hi with
        | 0, _ => exact ⟨0, by simp [go_sem], trivial⟩
        | 1, _ => exact ⟨32, by simp [go_sem], trivial⟩
        | 2, _ => exact ⟨-1, by simp [go_sem], trivial⟩
      rintro e W7 ⟨⟨z, rfl, _⟩, hr7, hb7⟩
      have HB7 : Hid (OB W0 W7 rb (p + 11 + 1) q5 o) := H7.next hr0 hb7 hr7
      obtain ⟨f7, hf7⟩ := HB7.out.row
      obtain ⟨e0, e1, e2, e3, e4, e5, e6⟩ := HB7.out.at_
      have y0 := hf7.frozen 5
      have hl7 := hf7.lt
      clear hf7 H7 hb7 hr7 hal
      go_wp2_with fail
      go_meet
      exact ⟨_, HB7.out.put hr0 5 (.int .i64 z) { o with id := z } ⟨by simp [go_sem, e0], by simp [go_sem, e1], by simp [go_sem, e2], by simp [go_sem, e3], by simp [go_sem, e4], by simp [go_sem, e5], by simp [go_sem, e6]⟩ HB7.out.b⟩
    by_cases d2 : d = 2
    · subst d2
      go_wp2_with fail
      have hal : Below W6.heap.size W6 (W6.alloc (Obj.cells #[.string ⟨#[]⟩, .string ⟨#[65]⟩, .string ⟨#[97, 98, 99, 100, 101]⟩] 9)) := (Below.refl _ _).alloc (Nat.le_refl _) _
      have H7 := HB6.out.next hr0 (But.of_below (by omega) hal) (HB6.out.rd.but hal (by omega))
      refine (of_to rb (p + 11) W6.heap.size 3 3 5 _ (by omega) (by omega) (by omega) (by omega) H7.rd ?_).mono ?_
      · intro i hi
        match i, hi with
        | 0, _ => exact ⟨⟨#[]⟩, by simp [go_sem], by decide⟩
        | 1, _ => exact ⟨⟨#[65]⟩, by simp [go_sem], by decide⟩
        | 2, _ => exact ⟨⟨#[97, 98, 99, 100, 101]⟩, by simp [go_sem], by decide⟩
      rintro e W7 ⟨⟨z, rfl, hz⟩, hr7, hb7⟩
      have HB7 : Hid (OB W0 W7 rb (p + 11 + 1) q5 o) := H7.next hr0 hb7 hr7
      obtain ⟨f7, hf7⟩ := HB7.out.row
      obtain ⟨e0, e1, e2, e3, e4, e5, e6⟩ := HB7.out.at_
      have y0 := hf7.frozen 2
      have hl7 := hf7.lt
      clear hf7 H7 hb7 hr7 hal
      go_wp2_with fail
      go_meet
      exact ⟨_, HB7.out.put hr0 2 (.string z) { o with name := z } ⟨by simp [go_sem, e0], by simp [go_sem, e1], by simp [go_sem, e2], by simp [go_sem, e3], by simp [go_sem, e4], by simp [go_sem, e5], by simp [go_sem, e6]⟩ ⟨hz, HB7.out.b.2⟩⟩
    by_cases d3 : d = 3
    · subst d3
      obtain ⟨f7, hf7⟩ := HB6.out.row
      obtain ⟨e0, e1, e2, e3, e4, e5, e6⟩ := HB6.out.at_
      have y0 := hf7.frozen 6
      have hl7 := hf7.lt
      clear hf7
      go_wp2_with fail
      go_meet
      exact ⟨_, (HB6.out.put hr0 6 (.string ⟨#[65]⟩) { o with text := ⟨#[65]⟩ } ⟨by simp [go_sem, e0], by simp [go_sem, e1], by simp [go_sem, e2], by simp [go_sem, e3], by simp [go_sem, e4], by simp [go_sem, e5], by simp [go_sem, e6]⟩ ⟨HB6.out.b.1, HB6.out.b.2.1, show (⟨#[65]⟩ : ByteArray).size ≤ 5 by decide⟩).on (by omega)⟩
    · have t0 : ((d : Int) == 0) = false := by simp; omega
      have t1 : ((d : Int) == 1) = false := by simp; omega
      have t2 : ((d : Int) == 2) = false := by simp; omega
      have t3 : ((d : Int) == 3) = false := by simp; omega
      go_wp2_with fail
      go_meet
      exact ⟨o, HB6.out.on (by omega)⟩
  obtain ⟨o9, h9⟩ := hcut
  have R4w := R4.out.of_block (h9.but.block (w.heap.size + 1) (by omega) R4.out.lt)
  have g0 : wc.cell? ⟨w.heap.size + 1, 0, none⟩ = some (.int .i64 0) := by rw [R4w.cell (by omega)]; rfl
  have z0 := R4w.frozen 0
  have g1 : wc.cell? ⟨w.heap.size + 1, 1, none⟩ = some (.int .i64 0) := by rw [R4w.cell (by omega)]; rfl
  have z1 := R4w.frozen 1
  have g2 : wc.cell? ⟨w.heap.size + 1, 2, none⟩ = some (.string ⟨#[]⟩) := by rw [R4w.cell (by omega)]; rfl
  have z2 := R4w.frozen 2
  have g3 : wc.cell? ⟨w.heap.size + 1, 3, none⟩ = some (.int .i64 0) := by rw [R4w.cell (by omega)]; rfl
  have z3 := R4w.frozen 3
  have g4 : wc.cell? ⟨w.heap.size + 1, 4, none⟩ = some (.string ⟨#[]⟩) := by rw [R4w.cell (by omega)]; rfl
  have z4 := R4w.frozen 4
  have g5 : wc.cell? ⟨w.heap.size + 1, 5, none⟩ = some (.int .i64 0) := by rw [R4w.cell (by omega)]; rfl
  have z5 := R4w.frozen 5
  have g6 : wc.cell? ⟨w.heap.size + 1, 6, none⟩ = some (.string ⟨#[]⟩) := by rw [R4w.cell (by omega)]; rfl
  have z6 := R4w.frozen 6
  have hl4 := R4w.lt
  have H9 : Hid (OB W0 wc rb (p + 12) q5 o9) := h9
  obtain ⟨e0, e1, e2, e3, e4, e5, e6⟩ := h9.at_
  simp only [Nat.zero_add] at e1 e2 e3 e4 e5 e6
  have HA0 : Hid (But rb w W0) := But.of_below hrw hA0
  clear R4 R4w h9 HB6 hA0
  go_wp2_with fail
  refine bodyPost_ret (v := .agg o9.val) (by simp [results, Tryz.results49, go_sem, LOp.val, g0, g1, g2, g3, g4, g5, g6]) rfl ?_
  have hs : But (w.heap.size + 1) wc _ := ((((((((But.refl (w.heap.size + 1) wc).set 0 (.int .i64 o9.kind)).set 1 (.int .i64 o9.dir)).set 2 (.string o9.name)).set 3 (.int .i64 o9.dir2)).set 4 (.string o9.name2)).set 5 (.int .i64 o9.id)).set 6 (.string o9.text))
  exact ⟨⟨o9, rfl, H9.out.b⟩, (H9.out.rd.on_ (by omega)).both_ hs (by omega), (HA0.out.trans H9.out.but).both_ hs (by omega) (by omega)⟩
end Go.Proofs.YtcdfdodipdmdkaaGreatDoor

/- slices.Clone of objects, and trialOf: a copy of a tree, of the call's own. -/
namespace Go.Proofs.YtcdfdodipdmdkaaGreatDoor
open Go.RowKit

theorem OwnT.base' {w : World} {B B' b c : Nat} {os : List LObj} {vs : Nat → Value} (h : OwnT w B b c os vs) (hB : B' ≤ B) : OwnT w B' b c os vs :=
  ⟨by have := h.lo; omega, h.row, fun i o ho => by
    obtain ⟨h1, h2, h3, h4, h5, h6, h7⟩ := h.at_ i o ho
    refine ⟨h1, h2, h3, h4, h5, ⟨h6.1, ?_⟩, h7⟩
    rcases h6.2 with h | ⟨g, cap, cur, q1, q2, q3⟩
    · exact .inl h
    · exact .inr ⟨g, cap, cur, q1, by omega, q3⟩, h.apart⟩

/-- What an append of names onto nothing leaves. -/
def NewEnts (w w' : World) (B : Nat) (v : Value) (es : List LEnt) : Prop := OwnEnts w' B v es ∧ w.grownBy w' none ∧ (v.ownBlock = none ∨ v.ownBlock = some w.heap.size)
theorem run_app_new (w : World) (ty : TypeId) (B m c : Nat) (ka : Option Addr) (es : List LEnt) (hm : m = es.length) (hB : B ≤ w.heap.size) (hbd : m ≤ 1048576)
    (hsrc : m ≠ 0 → ∃ ad, ka = some ad ∧ ∀ j u, (entCells es)[j]? = some u → w.cell? (ad.add j) = some u) :
    ∃ a' c' w', (Builtin.append_ #[36, 36] ty #[.slice none 0 0, .slice ka m c]).run Tryz.prog w = .ok (.slice a' m c') w' ∧ NewEnts w w' B (.slice a' m c') es := by
  obtain ⟨i0, hi, hz0, hz1, hz2⟩ := info_parts info47'
  by_cases h0 : m = 0
  · subst h0
    obtain rfl : es = [] := List.eq_nil_of_length_eq_zero hm.symm
    have hs : Src Tryz.prog i0.size 36 (.slice ka 0 c) 0 [] w := by
      cases ka with
      | none => exact Src.ofNil w Tryz.underlying36 c
      | some ad => exact Src.ofSlice w Tryz.underlying36 ad 0 c [] (by simp) (fun j u hu => by simp at hu) (fun u hu => by simp at hu)
    exact ⟨none, 0, w, run_append_nothing (P := Tryz.prog) w 36 36 ty 53 i0 Tryz.underlying36 hi none 0 0 (Nat.le_refl _) _ hs, OwnEnts.bare w B, World.grownBy.refl w none, .inl rfl⟩
  · obtain ⟨ad, rfl, hc⟩ := hsrc h0
    obtain ⟨v', w', hr, h2, h3, h4, h5⟩ := run_append_own_at (P := Tryz.prog) w B 36 ty 53 i0 _ 2 24 Tryz.underlying36 hi hz0 hz1 hz2 rfl (by decide) _ _ _ (OwnEnts.bare w B) ad m c (entCells es) (by rw [entCells_len, hm]) hc (entCells_one _) (by unfold maxLen; simp; omega) (by simp; omega) hB
    have h2' := h2
    rcases h2.2 with ⟨hv, _⟩ | ⟨g', cap', cur, rfl, hb, hg, _⟩
    · exact absurd (h4.1 hv).2 h0
    · have h5' : g' = w.heap.size := by simpa [Value.ownBlock] using h5
      simp only [List.length_nil, Nat.zero_add] at hr h2'
      refine ⟨_, _, _, hr, ?_, by simpa [Value.ownBlock] using h3, .inr (by simp [Value.ownBlock, h5'])⟩
      unfold OwnEnts
      rw [← hm]
      simpa [entCells] using h2'
theorem wpList_app_new (w : World) {ops : Array Oper} {rest : List Oper} {o : Oper} {a : Act} {Q : Exit → Act → World → Prop} (hgd : o.guard = none) (s x : Operand)
    (ho : o.op = .call { callee := .builtin .append, args := #[s, x], argTypes := #[36, 36] }) (B m c : Nat) (ka : Option Addr) (es : List LEnt) (hs : a.eval s = .slice none 0 0) (hx : a.eval x = .slice ka m c) (hm : m = es.length) (hB : B ≤ w.heap.size) (hbd : m ≤ 1048576)
    (hsrc : m ≠ 0 → ∃ ad, ka = some ad ∧ ∀ j u, (entCells es)[j]? = some u → w.cell? (ad.add j) = some u)
    (h : ∀ a' c' w', NewEnts w w' B (.slice a' m c') es → wpList Tryz.prog ops Q rest (a.put o.dst (.slice a' m c')) w') : wpList Tryz.prog ops Q (o :: rest) a w :=
  wpList_plain hgd fun _ hK => by
    obtain ⟨a', c', w', hr, h2⟩ := run_app_new w o.type B m c ka es hm hB hbd hsrc
    unfold Oper.wp execOp
    simp only [ho, resolve, invoke, builtin, Sem.run_bind, Sem.run_pure, Result.andThen_ok, List.map_toArray, List.map_cons, List.map_nil, hs, hx, hr]
    exact hK _ _ (h a' c' w' h2)

theorem objCells_one (os : List LObj) (vs : Nat → Value) (h : ∀ i, (vs i).oneCell' = true) : ∀ k, ∀ u ∈ objCells os vs k, u.oneCell' = true
  | 0, u, hu => by simp [objCells] at hu
  | k + 1, u, hu => by
    simp only [objCells, List.mem_append] at hu
    rcases hu with hu | hu
    · exact objCells_one os vs h k u hu
    · cases ho : os[k]? with
      | none => simp [ho] at hu
      | some o =>
        simp [ho] at hu
        rcases hu with rfl | rfl | rfl | rfl
        · rfl
        · rfl
        · rfl
        · exact h k
theorem objCells_get (os : List LObj) (vs : Nat → Value) (k j : Nat) (u : Value) (hk : k ≤ os.length) (h : (objCells os vs k)[j]? = some u) : ∃ i o, os[i]? = some o ∧ i < k ∧ ((j = i * 4 ∧ u = .int .i64 o.kind) ∨ (j = i * 4 + 1 ∧ u = .int .i64 o.ver) ∨ (j = i * 4 + 2 ∧ u = .string o.text) ∨ (j = i * 4 + 3 ∧ u = vs i)) := by
  have hl := (List.getElem?_eq_some_iff.1 h).1
  rw [objCells_len os vs k hk] at hl
  have hi : j / 4 < k := by omega
  have ho : os[j / 4]? = some (os[j / 4]'(by omega)) := by simp [show j / 4 < os.length by omega]
  obtain ⟨h0, h1, h2, h3⟩ := objCells_at os vs k hk (j / 4) _ hi ho
  refine ⟨j / 4, _, ho, hi, ?_⟩
  have hr : j % 4 = 0 ∨ j % 4 = 1 ∨ j % 4 = 2 ∨ j % 4 = 3 := by omega
  rcases hr with hr | hr | hr | hr
  · have e : j = j / 4 * 4 := by omega
    rw [← e, h] at h0
    exact .inl ⟨e, by simpa using h0⟩
  · have e : j = j / 4 * 4 + 1 := by omega
    rw [← e, h] at h1
    exact .inr (.inl ⟨e, by simpa using h1⟩)
  · have e : j = j / 4 * 4 + 2 := by omega
    rw [← e, h] at h2
    exact .inr (.inr (.inl ⟨e, by simpa using h2⟩))
  · have e : j = j / 4 * 4 + 3 := by omega
    rw [← e, h] at h3
    exact .inr (.inr (.inr ⟨e, by simpa using h3⟩))

/-- What the names of the objects are, as values. -/
structure KidsV (w : World) (L U : Nat) (os : List LObj) (ks : Nat → Value) : Prop where
  one : ∀ i, (ks i).oneCell' = true
  at_ : ∀ i o, os[i]? = some o → o.text.size ≤ maxLen ∧ ∃ ka kc, ks i = .slice ka o.kids.length kc ∧ EntsAt w L U ka o.kids.length o.kids
theorem ks_of {w : World} {L U n : Nat} {a : Option Addr} {os : List LObj} (H : ObjsAt w L U a n os) (hn : n ≠ 0) : ∃ b off ks, a = some ⟨b, off, none⟩ ∧ L ≤ b ∧ b < U ∧ (∀ j u, (objCells os ks n)[j]? = some u → w.cell? ((⟨b, off, none⟩ : Addr).add j) = some u) ∧ KidsV w L U os ks := by
  obtain ⟨b, off, ha, hL, hU, hc⟩ := H.at_ hn
  obtain ⟨l, hl, hp⟩ := list_of (n := n) (p := fun i (v : Value) => ∃ o ka kc, os[i]? = some o ∧ v = .slice ka o.kids.length kc ∧ o.text.size ≤ maxLen ∧ w.cell? ⟨b, off + i * 4, none⟩ = some (.int .i64 o.kind) ∧ w.cell? ⟨b, off + i * 4 + 1, none⟩ = some (.int .i64 o.ver) ∧ w.cell? ⟨b, off + i * 4 + 2, none⟩ = some (.string o.text) ∧ w.cell? ⟨b, off + i * 4 + 3, none⟩ = some v ∧ EntsAt w L U ka o.kids.length o.kids) (fun i hi => by
    obtain ⟨o, ka, kn, kc, q1, q2, q3, q4, q5, q6, q7⟩ := hc i hi
    have hk := q7.len
    subst hk
    exact ⟨_, o, ka, kc, q1, rfl, q2, q3, q4, q5, q6, q7⟩)
  have hlen := H.len
  refine ⟨b, off, fun i => (l[i]?).getD (.slice none 0 0), ha, hL, hU, fun j u hu => ?_, fun i => ?_, fun i o ho => ?_⟩
  · obtain ⟨i, o, ho, hi, h⟩ := objCells_get os _ n j u (by omega) hu
    obtain ⟨v, hv, o', ka, kc, q1, q2, q3, q4, q5, q6, q7, q8⟩ := hp i hi
    rw [ho] at q1
    cases q1
    have hadd : (⟨b, off, none⟩ : Addr).add j = ⟨b, off + j, none⟩ := by unfold Addr.add; split <;> simp_all
    rw [hadd]
    rcases h with ⟨rfl, rfl⟩ | ⟨rfl, rfl⟩ | ⟨rfl, rfl⟩ | ⟨rfl, rfl⟩
    · exact q4
    · exact q5
    · exact q6
    · simpa [hv, Nat.add_assoc] using q7
  · by_cases hi : i < n
    · obtain ⟨v, hv, o', ka, kc, q1, rfl, _⟩ := hp i hi
      simp [hv, Value.oneCell']
    · have : l[i]? = none := by simp [hl]; omega
      simp [this, Value.oneCell']
  · have hi : i < n := by rw [hlen]; exact (List.getElem?_eq_some_iff.1 ho).1
    obtain ⟨v, hv, o', ka, kc, q1, rfl, q3, q4, q5, q6, q7, q8⟩ := hp i hi
    rw [ho] at q1
    cases q1
    exact ⟨q3, ka, kc, by simp [hv], q8⟩

def CloneEnd (w : World) (n : Nat) (xs : List Value) (e : Ending) (w' : World) : Prop := (∃ g cap, e = .returned (.slice (some ⟨g, 0, none⟩) n cap) ∧ w'.ownsRow w.heap.size 38 4 (.slice (some ⟨g, 0, none⟩) n cap) n xs) ∧ Below w.heap.size w w'
set_option maxRecDepth 100000 in
theorem clone_any (b off n c : Nat) (os : List LObj) (ks : Nat → Value) (w : World) (hn : n = os.length) (h0 : 0 < n) (hbd : n ≤ 1048576) (hb : b < w.heap.size) (hk1 : ∀ i, (ks i).oneCell' = true) (hc : ∀ j u, (objCells os ks n)[j]? = some u → w.cell? ((⟨b, off, none⟩ : Addr).add j) = some u) :
    Calls Tryz.prog 95 #[.slice (some ⟨b, off, none⟩) n c] w fun e w' => CloneEnd w n (objCells os ks n) e w' := by
  obtain ⟨i0, hi, hq0, hq1, hq2⟩ := info_parts info34'
  have HL : Hid ((objCells os ks n).length = n * 4) := objCells_len os ks n (by omega)
  have H1 : Hid (∀ u ∈ objCells os ks n, u.oneCell' = true) := objCells_one os ks hk1 n
  have HO : Hid ((w.alloc (Obj.cells #[] 38)).ownsRow w.heap.size 38 4 (.slice (some ⟨w.heap.size, 0, none⟩) 0 0) 0 []) := by
    show World.ownsRow _ _ _ _ _ _ _
    simpa using World.ownsRow_lit (base := w.heap.size) (e := 38) (size := 4) w #[] 0 (Nat.le_refl _) (by simp [maxLen]) rfl
  have HC : Hid (∀ j u, (objCells os ks n)[j]? = some u → w.cell? ((⟨b, off, none⟩ : Addr).add j) = some u) := hc
  have HEQ := fun w => Go.Lib.run_eql_slice_nil (P := Tryz.prog) w 23 38 (some ⟨b, off, none⟩) n c 0 0 Tryz.underlying23
  clear hc hn
  go_enter Tryz.func95, Tryz.ntmps95
  go_wp2_with (first
    | (at_builtin; refine wpList_append_lies _ rfl (.tmp 5) (.tmp 6) 23 rfl w.heap.size 38 i0 _ 4 56 Tryz.underlying23 hi hq0 hq1 hq2 rfl (by decide) _ 0 [] rfl HO.out ⟨b, off, none⟩ n c (objCells os ks n) rfl HL.out ?c1 H1.out h0 ?c4 ?c5 ?c6 _ rfl ?_)
    | go_in)
  case c1 =>
    intro j u hu
    have hadd : ((⟨b, off, none⟩ : Addr).add j).block = b := by unfold Addr.add; split <;> rfl
    rw [World.grownBy.cell_far (World.grownBy_alloc _ _ none) _ (by rw [hadd]; exact hb) (by simp)]
    exact HC.out j u hu
  case c4 => unfold maxLen; omega
  case c5 => omega
  case c6 => simp
  intro g cap w1 hown hgrow hat hlt
  have hbel : Below w.heap.size w w1 := below_grown ((Below.refl _ _).alloc (Nat.le_refl _) _) hgrow (fun k hk => by simp [Value.ownBlock] at hk; omega) (by simp)
  have hown' : Hid (w1.ownsRow w.heap.size 38 4 (.slice (some ⟨g, 0, none⟩) n cap) n (objCells os ks n)) := by show World.ownsRow _ _ _ _ _ _ _; simpa using hown
  clear hown hgrow hat hlt
  go_wp2_with fail
  go_ret
  exact ⟨⟨g, cap, by simp, hown'.out⟩, hbel⟩
end Go.Proofs.YtcdfdodipdmdkaaGreatDoor
