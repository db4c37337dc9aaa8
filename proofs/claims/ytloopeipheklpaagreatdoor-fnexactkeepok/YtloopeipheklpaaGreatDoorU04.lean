/- Lemmas that the proofs of this seat share: Out, App, Rop, SlimF, SlimS, SlimS2, SlimS3, SlimS4, SlimS5, SlimI, SlimI2, SlimI3, SlimI4, SlimI5, SlimI6, SlimI7, SlimI8, SlimI9, SlimI10, SlimI11, LogB, ShopA. -/
import Derived.Test.YtloopeipheklpaaGreatDoorU03
import Derived.Deep.RegionLaw
import Derived.Deep.RegionWith
import Derived.Maps.AppendAt
import Derived.Deep.QuietTactic
import Derived.BigQuiet
import Derived.Deep.Upon
import Derived.Deep.DeepCutAuto
import Derived.Deep.RegionHeld
import Derived.OrdersHeld
import Derived.BigRegion
import Derived.Deep.Strs
/- Names of a directory in memory of the call's own; taking a name out. -/
namespace Go.Proofs.YtloopeipheklpaaGreatDoor
open Go.RowKit

def entCells (es : List LEnt) : List Value := es.flatMap fun e => [.string e.name, .int .i64 e.id]
theorem entCells_len (es : List LEnt) : (entCells es).length = es.length * 2 := by
  induction es with
  | nil => rfl
  | cons e r ih => simp only [entCells, List.flatMap_cons, List.length_append, List.length_cons, List.length_nil] at ih ⊢; omega
theorem entCells_app (es fs : List LEnt) : entCells (es ++ fs) = entCells es ++ entCells fs := by simp [entCells]
theorem entCells_at : ∀ (es : List LEnt) (i : Nat) (e : LEnt), es[i]? = some e → (entCells es)[i * 2]? = some (.string e.name) ∧ (entCells es)[i * 2 + 1]? = some (.int .i64 e.id)
  | [], i, e, h => by simp at h
  | x :: r, 0, e, h => by simp at h; subst h; simp [entCells]
  | x :: r, i + 1, e, h => by
    have ih := entCells_at r i e (by simpa using h)
    have e1 : entCells (x :: r) = [.string x.name, .int .i64 x.id] ++ entCells r := rfl
    rw [e1, List.getElem?_append_right (by simp; omega), List.getElem?_append_right (by simp; omega)]
    have a1 : (i + 1) * 2 - 2 = i * 2 := by omega
    have a2 : (i + 1) * 2 + 1 - 2 = i * 2 + 1 := by omega
    simpa [a1, a2] using ih
/-- A slice of names that the call owns. -/
def OwnEnts (w : World) (B : Nat) (v : Value) (es : List LEnt) : Prop := w.ownsRow B 247 2 v es.length (entCells es)
def outL (name : ByteArray) (es : List LEnt) : List LEnt := es.filter fun e => !(e.name.toList == name.toList)
theorem outL_le (name : ByteArray) (es : List LEnt) : (outL name es).length ≤ es.length := List.length_filter_le _ _
theorem info47' : (Tryz.prog.info? 247).map (fun i => (i.zero, i.size, i.bytes)) = some (some (.agg #[.string ⟨#[]⟩, .int .i64 0]), 2, 24) := by kernel_rfl
theorem OwnEnts.at_ {w : World} {B : Nat} {v : Value} {es : List LEnt} (h : OwnEnts w B v es) (hn : ∀ e ∈ es, e.name.size ≤ maxLen) : ∃ a c, v = .slice a es.length c ∧ EntsAt w B w.heap.size a es.length es := by
  by_cases h0 : es.length = 0
  · obtain rfl : es = [] := List.eq_nil_of_length_eq_zero h0
    rcases h.2 with ⟨rfl, _⟩ | ⟨g, cap, cur, rfl, _⟩
    · exact ⟨_, _, rfl, rfl, by simp [maxLen], fun hn => absurd rfl hn⟩
    · exact ⟨_, _, rfl, rfl, by simp [maxLen], fun hn => absurd rfl hn⟩
  · obtain ⟨g, c, rfl, hb, hlt⟩ := World.ownsRow.form h (by omega)
    have hbd : es.length ≤ maxLen := by
      rcases h.2 with ⟨h', _⟩ | ⟨g', cap', cur, h', _, _, hnc, hcm, _⟩
      · simp at h'
      · omega
    refine ⟨_, _, rfl, rfl, hbd, fun _ => ⟨g, 0, rfl, hb, hlt, fun i hi => ⟨es[i], by simp [hi], hn _ (List.getElem_mem hi), ?_, ?_⟩⟩⟩
    · have := World.ownsRow.cellAt h (i * 2) (by omega)
      rw [Nat.zero_add, this]
      exact (entCells_at es i es[i] (by simp [hi])).1
    · have := World.ownsRow.cellAt h (i * 2 + 1) (by omega)
      rw [Nat.zero_add, this]
      exact (entCells_at es i es[i] (by simp [hi])).2
theorem two_at {w : World} {u v0 v1 : Value} {t : TypeId} {i : Nat} (h : [v0, v1][i]? = some u) : (w.alloc (Obj.cells #[v0, v1] t)).cell? ((⟨w.heap.size, 0, none⟩ : Addr).add i) = some u := by
  match i, h with
  | 0, h => simp at h; subst h; simp [Addr.add]
  | 1, h => simp at h; subst h; simp [Addr.add]
theorem outL_take_yes {name : ByteArray} {es : List LEnt} {k : Nat} {e : LEnt} (h : es[k]? = some e) (hb : (e.name.toList == name.toList) = false) : outL name (es.take (k + 1)) = outL name (es.take k) ++ [e] := by
  simp [outL, List.take_add_one, h, List.filter_append, hb]
theorem outL_take_no {name : ByteArray} {es : List LEnt} {k : Nat} {e : LEnt} (h : es[k]? = some e) (hb : (e.name.toList == name.toList) = true) : outL name (es.take (k + 1)) = outL name (es.take k) := by
  simp [outL, List.take_add_one, h, List.filter_append, hb]
theorem keepEnts {wr w0 w1 : World} {B : Nat} {u v' : Value} {l : List LEnt} {e : LEnt} {o1 : Obj} (hown : Hid (OwnEnts wr B u l)) (hb : Below B w0 wr) (hsz : B ≤ wr.heap.size)
    (hown' : w1.ownsRow B 247 2 v' (l.length + 1) (entCells l ++ [Value.string e.name, Value.int .i64 e.id])) (hgrow : (wr.alloc o1).grownBy w1 u.ownBlock) :
    OwnEnts w1 B v' (l ++ [e]) ∧ Below B w0 w1 := by
  have hr : ∀ k, u.ownBlock = some k → B ≤ k := fun k e => (hown.out.lt k e).1
  have hb1 : Below B wr w1 := below_grown ((Below.refl _ _).alloc (by omega) _) hgrow hr (by simp; omega)
  exact ⟨by unfold OwnEnts; rw [entCells_app, List.length_append]; exact hown', hb.trans hb1⟩

set_option maxHeartbeats 1000000 in
set_option maxRecDepth 20000 in
theorem out_any (a : Option Addr) (n c : Nat) (es : List LEnt) (L U : Nat) (name : ByteArray) (w : World) (hn : n ≤ 1048576) (hU : U ≤ w.heap.size) (H : EntsAt w L U a n es) :
    Calls Tryz.prog 210 #[.slice a n c, .string name] w fun e w' => (∃ v, e = .returned v ∧ Hid (OwnEnts w' w.heap.size v (outL name es))) ∧ Below w.heap.size w w' := by
  obtain ⟨i0, hi, hz0, hz1, hz2⟩ := info_parts info47'
  go_enter Tryz.func210, Tryz.ntmps210
  go_wp2_with fail
  go_loopg [5, 6] n (fun k v i wr => ∃ j : Nat, j ≤ n ∧ Hid (k = n - j) ∧ i = .int .i64 j ∧ Hid (OwnEnts wr w.heap.size v (outL name (es.take j))) ∧ Below w.heap.size w wr)
  case atStart => exact ⟨0, Nat.zero_le _, rfl, rfl, by show OwnEnts _ _ _ _; simpa [OwnEnts, outL, entCells] using World.ownsRow_lit (base := w.heap.size) (e := 247) (size := 2) w #[] 0 (by simp) (by simp [maxLen]) rfl, (Below.refl _ _).alloc (Nat.le_refl _) _⟩
  case round =>
    obtain ⟨j, hj, hk, rfl, hown, hb⟩ := hrel
    have hsz := hb.size
    by_cases hlt : j < n
    · obtain ⟨b, off, ha, hL, hbU, hc⟩ := H.at_ (by omega)
      subst ha
      obtain ⟨e, he, hts, hc0, hc1⟩ := hc j hlt
      rw [← hb.cell (by simp; omega)] at hc0 hc1
      have HE : Hid (es[j]? = some e) := he
      clear he hc
      rcases hq : (e.name.toList == name.toList) with _ | _
      · have HL : Hid (outL name (es.take (j + 1)) = outL name (es.take j) ++ [e]) := outL_take_yes HE.out hq
        have hle : (outL name (es.take j)).length ≤ j := by have := outL_le name (es.take j); simp at this; omega
        go_wp2_with (first
          | (at_builtin; refine wpList_append_own _ rfl _ _ 163 rfl w.heap.size 247 i0 _ 2 24 Tryz.underlying163 hi hz0 hz1 hz2 rfl (by decide) _ _ _ rfl (hown.out.alloc _) ⟨wr.heap.size, 0, none⟩ 1 1 [.string e.name, .int .i64 e.id] rfl rfl ?c1 ?c2 ?c3 ?c4 ?c5 ?_)
          | go_in)
        case c1 => intro i u hi; exact two_at hi
        case c2 => intro u hu; simp at hu; rcases hu with rfl | rfl <;> rfl
        case c3 => unfold maxLen; omega
        case c4 => omega
        case c5 => simp; omega
        intro v' w1 hown' hgrow _
        have R := keepEnts hown hb hsz hown' hgrow
        clear hown' hgrow hown hb
        go_wp2_with fail
        go_roundg (n - (j + 1))
        case measure => have := hk.out; omega
        case rel => exact ⟨j + 1, by omega, rfl, by go_num, by show OwnEnts _ _ _ _; rw [HL.out]; exact R.1, R.2⟩
      · have HL : Hid (outL name (es.take (j + 1)) = outL name (es.take j)) := outL_take_no HE.out hq
        go_wp2_with fail
        go_roundg (n - (j + 1))
        case measure => have := hk.out; omega
        case rel => exact ⟨j + 1, by omega, rfl, by go_num, by show OwnEnts _ _ _ _; rw [HL.out]; exact hown.out, hb⟩
    · obtain rfl : j = n := by omega
      have hown' := hown.out
      rw [List.take_of_length_le (by have := H.len; omega)] at hown'
      go_wp2_with fail
      go_ret
      exact ⟨⟨_, rfl, hown'⟩, hb⟩
end Go.Proofs.YtloopeipheklpaaGreatDoor

/- append of names onto names that the call owns: the laws. -/
namespace Go.Proofs.YtloopeipheklpaaGreatDoor
open Go.RowKit

theorem entCells_one : ∀ (es : List LEnt), ∀ u ∈ entCells es, u.oneCell' = true := by
  intro es u hu
  simp only [entCells, List.mem_flatMap] at hu
  obtain ⟨e, _, h⟩ := hu
  simp at h
  rcases h with rfl | rfl <;> rfl

/-- What an append onto names of the call's own leaves. -/
structure AppEnd (w w' : World) (B g g' n cap' : Nat) (l : List LEnt) : Prop where
  own : OwnEnts w' B (.slice (some ⟨g', 0, none⟩) n cap') l
  grown : w.grownBy w' (some g)
  at_ : g' = g ∨ g' = w.heap.size
  lt : g' < w'.heap.size

theorem run_app_ents (w : World) (B g n cap : Nat) (l news : List LEnt) (ty : TypeId) (hn : n = l.length) (hown : OwnEnts w B (.slice (some ⟨g, 0, none⟩) n cap) l) (ad : Addr) (m c : Nat) (hm : m = news.length)
    (hnews : ∀ j u, (entCells news)[j]? = some u → w.cell? (ad.add j) = some u) (hbd : n + m ≤ 4000000) (hB : B ≤ w.heap.size) :
    ∃ g' cap' w', (Builtin.append_ #[163, 163] ty #[.slice (some ⟨g, 0, none⟩) n cap, .slice (some ad) m c]).run Tryz.prog w = .ok (.slice (some ⟨g', 0, none⟩) (n + m) cap') w' ∧ AppEnd w w' B g g' (n + m) cap' (l ++ news) := by
  obtain ⟨i0, hi, hz0, hz1, hz2⟩ := info_parts info47'
  subst hn hm
  obtain ⟨v', w', hr, h2, h3, h4, h5⟩ := run_append_own_at (P := Tryz.prog) w B 163 ty 247 i0 _ 2 24 Tryz.underlying163 hi hz0 hz1 hz2 rfl (by decide) _ _ _ hown ad news.length c (entCells news) (entCells_len _) hnews (entCells_one _) (by unfold maxLen; omega) (by omega) hB
  have h2' := h2
  rcases h2.2 with ⟨hv, _⟩ | ⟨g', cap', cur, rfl, hb, hg, _⟩
  · have := (h4.1 hv).1; cases this
  · refine ⟨g', cap', w', hr, ⟨?_, h3, ?_, (Array.getElem?_eq_some_iff.1 hg).1⟩⟩
    · unfold OwnEnts; rw [entCells_app, List.length_append]; exact h2'
    · simpa [Value.ownBlock] using h5

theorem wp_app_ents (w : World) {o : Oper} {a : Act} {K : Act → World → Prop} {Q : Exit → Act → World → Prop} (s x : Operand)
    (ho : o.op = .call { callee := .builtin .append, args := #[s, x], argTypes := #[163, 163] }) (B g n cap : Nat) (l news : List LEnt) (hn : n = l.length) (hown : OwnEnts w B (.slice (some ⟨g, 0, none⟩) n cap) l) (ad : Addr) (m c : Nat) (hm : m = news.length)
    (hs : a.eval s = .slice (some ⟨g, 0, none⟩) n cap) (hx : a.eval x = .slice (some ad) m c)
    (hnews : ∀ j u, (entCells news)[j]? = some u → w.cell? (ad.add j) = some u) (hbd : n + m ≤ 4000000) (hB : B ≤ w.heap.size)
    (h : ∀ g' cap' w', AppEnd w w' B g g' (n + m) cap' (l ++ news) → K (a.put o.dst (.slice (some ⟨g', 0, none⟩) (n + m) cap')) w') : o.wp Tryz.prog a w K Q := by
  obtain ⟨g', cap', w', hr, h2⟩ := run_app_ents w B g n cap l news o.type hn hown ad m c hm hnews hbd hB
  unfold Oper.wp execOp
  simp only [ho, resolve, invoke, builtin, Sem.run_bind, Sem.run_pure, Result.andThen_ok, List.map_toArray, List.map_cons, List.map_nil, hs, hx, hr]
  exact h g' cap' w' h2

theorem wpList_app_ents (w : World) {ops : Array Oper} {rest : List Oper} {o : Oper} {a : Act} {Q : Exit → Act → World → Prop} (hgd : o.guard = none) (s x : Operand)
    (ho : o.op = .call { callee := .builtin .append, args := #[s, x], argTypes := #[163, 163] }) (B g n cap : Nat) (l news : List LEnt) (hn : n = l.length) (hown : OwnEnts w B (.slice (some ⟨g, 0, none⟩) n cap) l) (ad : Addr) (m c : Nat) (hm : m = news.length)
    (hs : a.eval s = .slice (some ⟨g, 0, none⟩) n cap) (hx : a.eval x = .slice (some ad) m c)
    (hnews : ∀ j u, (entCells news)[j]? = some u → w.cell? (ad.add j) = some u) (hbd : n + m ≤ 4000000) (hB : B ≤ w.heap.size)
    (h : ∀ g' cap' w', AppEnd w w' B g g' (n + m) cap' (l ++ news) → wpList Tryz.prog ops Q rest (a.put o.dst (.slice (some ⟨g', 0, none⟩) (n + m) cap')) w') : wpList Tryz.prog ops Q (o :: rest) a w :=
  wpList_plain hgd fun _ hK => wp_app_ents w s x ho B g n cap l news hn hown ad m c hm hs hx hnews hbd hB fun g' cap' w' h2 => hK _ _ (h g' cap' w' h2)

theorem step_app_ents (w : World) {ops : Array Oper} {o : Oper} {a : Act} {K : Act → World → Prop} {Q : Exit → Act → World → Prop} {E : Prop} (hgd : o.guard = none) (s x : Operand)
    (ho : o.op = .call { callee := .builtin .append, args := #[s, x], argTypes := #[163, 163] }) (B g n cap : Nat) (l news : List LEnt) (hn : n = l.length) (hown : OwnEnts w B (.slice (some ⟨g, 0, none⟩) n cap) l) (ad : Addr) (m c : Nat) (hm : m = news.length)
    (hs : a.eval s = .slice (some ⟨g, 0, none⟩) n cap) (hx : a.eval x = .slice (some ad) m c)
    (hnews : ∀ j u, (entCells news)[j]? = some u → w.cell? (ad.add j) = some u) (hbd : n + m ≤ 4000000) (hB : B ≤ w.heap.size)
    (h : ∀ g' cap' w', AppEnd w w' B g g' (n + m) cap' (l ++ news) → K (a.put o.dst (.slice (some ⟨g', 0, none⟩) (n + m) cap')) w') :
    if Region.wanted o (yielded ops a.tmps) = true then Oper.wp Tryz.prog o a w K Q else E := by
  have hw : Region.wanted o (yielded ops a.tmps) = true := by simp [Region.wanted, hgd]
  rw [if_pos hw]
  exact wp_app_ents w s x ho B g n cap l news hn hown ad m c hm hs hx hnews hbd hB h

theorem OwnEnts.grown {w w' : World} {B g n cap : Nat} {es : List LEnt} {row : Option Nat} (h : OwnEnts w B (.slice (some ⟨g, 0, none⟩) n cap) es) (hg : w.grownBy w' row) (hne : some g ≠ row) : OwnEnts w' B (.slice (some ⟨g, 0, none⟩) n cap) es :=
  World.ownsRow.kept h hg (.inr (by simpa [Value.ownBlock] using hne))
theorem OwnEnts.cut {w : World} {B g n cap k : Nat} {es : List LEnt} (h : OwnEnts w B (.slice (some ⟨g, 0, none⟩) n cap) es) (hn : n = es.length) (hk : k ≤ n) : OwnEnts w B (.slice (some ⟨g, 0, none⟩) k cap) (es.take k) := by
  subst hn
  have hl : (es.take k).length = k := by simp; omega
  refine ⟨by rw [entCells_len], .inr ?_⟩
  rcases h.2 with ⟨h', _⟩ | ⟨g', cap', cur, h', hb, hg, hnc, hcm, hcs, htake⟩
  · simp at h'
  · simp only [Value.slice.injEq, Option.some.injEq, Addr.mk.injEq, and_true, true_and] at h'
    obtain ⟨rfl, rfl⟩ := h'
    refine ⟨g, cap, cur, by rw [hl], hb, hg, by omega, hcm, hcs, ?_⟩
    have e1 : entCells es = entCells (es.take k) ++ entCells (es.drop k) := by rw [← entCells_app, List.take_append_drop]
    have e2 : cur.toList.take (k * 2) = (cur.toList.take (es.length * 2)).take (k * 2) := by rw [List.take_take]; congr 1; omega
    rw [hl, e2, htake, e1, List.take_left' (by rw [entCells_len, hl])]
theorem OwnEnts.rest {w : World} {B g n cap k : Nat} {es : List LEnt} (h : OwnEnts w B (.slice (some ⟨g, 0, none⟩) n cap) es) (hn : n = es.length) (hk : k ≤ n) : ∀ j u, (entCells (es.drop k))[j]? = some u → w.cell? ((⟨g, k * 2, none⟩ : Addr).add j) = some u := by
  intro j u hu
  subst hn
  have hl : (es.take k).length = k := by simp; omega
  have e1 : entCells es = entCells (es.take k) ++ entCells (es.drop k) := by rw [← entCells_app, List.take_append_drop]
  have hlen : (entCells (es.take k)).length = k * 2 := by rw [entCells_len, hl]
  have h1 : (entCells es)[k * 2 + j]? = some u := by rw [e1, List.getElem?_append_right (by omega)]; rw [hlen]; simpa using hu
  have hj : k * 2 + j < es.length * 2 := by
    have := (List.getElem?_eq_some_iff.1 h1).1
    rwa [entCells_len] at this
  have h2 := World.ownsRow.cellAt h (k * 2 + j) hj
  have hadd : (⟨g, k * 2, none⟩ : Addr).add j = ⟨g, k * 2 + j, none⟩ := by unfold Addr.add; split <;> simp_all
  rw [hadd, h2]; exact h1
theorem OwnEnts.empty (w : World) (B : Nat) (hB : B ≤ w.heap.size) : OwnEnts (w.alloc (Obj.cells #[] 247)) B (.slice (some ⟨w.heap.size, 0, none⟩) 0 0) [] := by
  simpa [OwnEnts, entCells] using World.ownsRow_lit (base := B) (e := 247) (size := 2) w #[] 0 hB (by simp [maxLen]) rfl
end Go.Proofs.YtloopeipheklpaaGreatDoor

/- Rows of what is done, of one's own, that grow. -/
namespace Go.Proofs.YtloopeipheklpaaGreatDoor
open Go.RowKit

/-- The cells of what is done, one behind the other. -/
def opCells (l : List LOp) : List Value := l.flatMap fun o => o.val.toList
theorem opCells_len (l : List LOp) : (opCells l).length = l.length * 7 := by
  induction l with
  | nil => rfl
  | cons o r ih => simp only [opCells, List.flatMap_cons, List.length_append, List.length_cons] at ih ⊢; rw [ih]; simp [LOp.val]; omega
theorem opCells_app (l r : List LOp) : opCells (l ++ r) = opCells l ++ opCells r := by simp [opCells]
def OwnOps (w : World) (B : Nat) (v : Value) (l : List LOp) : Prop := w.ownsRow B 130 7 v l.length (opCells l)
structure AppOEnd (w w' : World) (B : Nat) (u v : Value) (l : List LOp) : Prop where
  own : OwnOps w' B v l
  grown : w.grownBy w' u.ownBlock
  at_ : ∀ g, v.ownBlock = some g → u.ownBlock = some g ∨ g = w.heap.size
end Go.Proofs.YtloopeipheklpaaGreatDoor

/- Lists that are made shorter: what that is, on lists. -/
namespace Go.Proofs.YtloopeipheklpaaGreatDoor
open Go.RowKit

/-! Some of a list. -/
/-! Texts that are void. -/
/-! What is made and goes again. -/
theorem drop_cons {α : Type} {l : List α} {k : Nat} {x : α} (h : l[k]? = some x) : l.drop k = x :: l.drop (k + 1) := by
  obtain ⟨hk, rfl⟩ := List.getElem?_eq_some_iff.1 h
  exact List.drop_eq_getElem_cons hk
/-! What is moved and moved on. -/
/-! Again and again. -/
def formsB (ops : List LOp) : Bool := decide (ops.length ≤ 60) && ops.all opOk

/-! What is kept. -/
end Go.Proofs.YtloopeipheklpaaGreatDoor

/- Lists that are made shorter: the specification. -/
namespace Go.Proofs.YtloopeipheklpaaGreatDoor
open Go.RowKit

theorem opCells_at : ∀ (l : List LOp) (i : Nat) (o : LOp), l[i]? = some o → ∀ t u, o.val[t]? = some u → (opCells l)[i * 7 + t]? = some u
  | [], i, o, h, _, _, _ => by simp at h
  | x :: r, 0, o, h, t, u, hu => by
    simp at h
    subst h
    have ht : t < x.val.toList.length := by
      have := (Array.getElem?_eq_some_iff.1 hu).1
      simpa using this
    simp only [opCells, List.flatMap_cons]
    rw [List.getElem?_append_left (by omega)]
    simpa using hu
  | x :: r, i + 1, o, h, t, u, hu => by
    have ih := opCells_at r i o (by simpa using h) t u hu
    simp only [opCells, List.flatMap_cons]
    have h7 : x.val.toList.length = 7 := by simp [LOp.val]
    rw [List.getElem?_append_right (by omega), h7]
    have e : (i + 1) * 7 + t - 7 = i * 7 + t := by omega
    rw [e]
    exact ih
theorem OwnOps.at_ {w : World} {B : Nat} {v : Value} {l : List LOp} (h : OwnOps w B v l) (hn : ∀ o ∈ l, OpSz o) : ∃ a c, v = .slice a l.length c ∧ OpsAt w B w.heap.size a l.length l := by
  by_cases h0 : l.length = 0
  · obtain rfl : l = [] := List.eq_nil_of_length_eq_zero h0
    rcases h.2 with ⟨rfl, _⟩ | ⟨g, cap, cur, rfl, _⟩
    · exact ⟨_, _, rfl, rfl, by simp [maxLen], fun hn => absurd rfl hn⟩
    · exact ⟨_, _, rfl, rfl, by simp [maxLen], fun hn => absurd rfl hn⟩
  · obtain ⟨g, c, rfl, hb, hlt⟩ := World.ownsRow.form h (by omega)
    have hbd : l.length ≤ maxLen := by
      rcases h.2 with ⟨h', _⟩ | ⟨g', cap', cur, h', _, _, hnc, hcm, _⟩
      · simp at h'
      · omega
    have hc : ∀ i (hi : i < l.length) t u, t < 7 → (l[i]).val[t]? = some u → w.cell? ⟨g, 0 + i * 7 + t, none⟩ = some u := fun i hi t u ht hu => by
      have := World.ownsRow.cellAt h (i * 7 + t) (by omega)
      rw [Nat.zero_add, this]
      exact opCells_at l i l[i] (by simp [hi]) t u hu
    exact ⟨_, _, rfl, rfl, hbd, fun _ => ⟨g, 0, rfl, hb, hlt, fun i hi => ⟨l[i], by simp [hi], hn _ (List.getElem_mem hi), hc i hi 0 _ (by omega) (by simp [LOp.val]), hc i hi 1 _ (by omega) (by simp [LOp.val]), hc i hi 2 _ (by omega) (by simp [LOp.val]), hc i hi 3 _ (by omega) (by simp [LOp.val]), hc i hi 4 _ (by omega) (by simp [LOp.val]), hc i hi 5 _ (by omega) (by simp [LOp.val]), hc i hi 6 _ (by omega) (by simp [LOp.val])⟩⟩⟩
theorem OpsAt.sz {w : World} {L U : Nat} {a : Option Addr} {n : Nat} {ops : List LOp} (h : OpsAt w L U a n ops) : ∀ o ∈ ops, OpSz o := fun o ho => by
  obtain ⟨i, hi, rfl⟩ := List.getElem_of_mem ho
  have hl := h.len
  obtain ⟨b, off, _, _, _, hc⟩ := h.at_ (by omega)
  obtain ⟨o', ho', hs, _⟩ := hc i (by omega)
  rw [List.getElem?_eq_getElem hi] at ho'
  cases ho'
  exact hs
theorem AppOEnd.below {w0 wr w1 : World} {B : Nat} {u v : Value} {l r : List LOp} {o1 : Obj} (hE : AppOEnd (wr.alloc o1) w1 B u v r) (hown : OwnOps wr B u l) (hb : Below B w0 wr) (hsz : B ≤ wr.heap.size) : Below B w0 w1 := by
  have hr : ∀ k, u.ownBlock = some k → B ≤ k := fun k e => (hown.lt k e).1
  exact hb.trans (below_grown ((Below.refl _ _).alloc (by omega) _) hE.grown hr (by simp; omega))
theorem OwnOps.empty (w : World) (B : Nat) (hB : B ≤ w.heap.size) : OwnOps (w.alloc (Obj.cells #[] 130)) B (.slice (some ⟨w.heap.size, 0, none⟩) 0 0) [] := by
  simpa [OwnOps, opCells] using World.ownsRow_lit (base := B) (e := 130) (size := 7) w #[] 0 hB (by simp [maxLen]) rfl

theorem OwnOps.next {w w' : World} {B : Nat} {v : Value} {l : List LOp} (h : OwnOps w B v l) (hb : Below w.heap.size w w') : OwnOps w' B v l := by
  refine ⟨h.1, ?_⟩
  rcases h.2 with hn | ⟨g, cap, cur, rfl, hB, hgg, rest⟩
  · exact .inl hn
  · refine .inr ⟨g, cap, cur, rfl, hB, ?_, rest⟩
    rw [hb.block g (Array.getElem?_eq_some_iff.1 hgg).1]
    exact hgg
/-- What a rule leaves: a list of its own, and all else as it was. -/
def SlimEnd (w : World) (r : List LOp) (e : Ending) (w' : World) : Prop := (∃ v, e = .returned v ∧ OwnOps w' w.heap.size v r) ∧ Below w.heap.size w w'

set_option maxHeartbeats 1000000 in
theorem forms_any (a : Option Addr) (n c : Nat) (ops : List LOp) (L U : Nat) (w : World) (hU : U ≤ w.heap.size) (H : OpsAt w L U a n ops) :
    Calls Tryz.prog 79 #[.slice a n c] w fun e w' => e = .returned (.bool (formsB ops)) ∧ Below w.heap.size w w' := by
  have hbd := H.bd
  have hlen : Hid (n = ops.length) := H.len
  unfold maxLen at hbd
  by_cases h60 : 60 < n
  · have h60' : (60 : Int) < (n : Int) := by omega
    go_enter Tryz.func79, Tryz.ntmps79
    go_wp2_with fail
    go_ret
    exact ⟨ret_bool (by have := hlen.out; simp [formsB]; omega), Below.refl _ _⟩
  · have h60' : ¬ (60 : Int) < (n : Int) := by omega
    go_enter Tryz.func79, Tryz.ntmps79
    go_wp2_with fail
    go_loopg [3] n (fun g k wr => ∃ j : Nat, j ≤ n ∧ Hid (g = n - j) ∧ k = .int .i64 j ∧ Hid (formsB ops = (ops.drop j).all opOk) ∧ Below w.heap.size w wr)
    case atStart => exact ⟨0, Nat.zero_le _, rfl, rfl, by show _ = _; have := hlen.out; simp [formsB]; omega, Below.refl _ _⟩
    case round =>
      obtain ⟨j, hj, hk, rfl, hq, hb⟩ := hrel
      by_cases hlt : j < n
      · obtain ⟨b, off, ha, hL, hbU, hc⟩ := H.at_ (by omega)
        subst ha
        obtain ⟨x, he, hsz, hat⟩ := hc j hlt
        obtain ⟨d0, d1, d2, d3, d4, d5, d6⟩ := hat.of_block (hb.block b (by omega))
        have hlt' : (j : Int) < (n : Int) := by omega
        have HQ : Hid (formsB ops = (opOk x && (ops.drop (j + 1)).all opOk)) := by show _ = _; rw [hq.out, drop_cons he, List.all_cons]
        have HOK := fun w => opOk_any x w hsz.name hsz.name2 hsz.text
        simp only [LOp.val] at HOK
        clear he hc hq hat H
        go_wp2_with fail
        refine (HOK _).mono ?_
        rintro e w1 ⟨rfl, rfl⟩
        rcases hx : opOk x with _ | _
        · have HY : Hid (formsB ops = false) := by show _ = _; rw [HQ.out, hx]; rfl
          clear HOK HQ
          go_wp2_with fail
          go_ret
          exact ⟨ret_bool HY.out.symm, hb.alloc hb.size _⟩
        · have HY : Hid (formsB ops = (ops.drop (j + 1)).all opOk) := by show _ = _; rw [HQ.out, hx]; rfl
          clear HOK HQ
          go_wp2_with fail
          go_roundg (n - (j + 1))
          case measure => have := hk.out; omega
          case rel => exact ⟨j + 1, by omega, rfl, by go_num, HY.out, hb.alloc hb.size _⟩
      · have HN : Hid (formsB ops = true) := by
          show _ = _
          rw [hq.out, List.drop_of_length_le (by have := hlen.out; omega)]; rfl
        go_wp2_with fail
        go_ret
        exact ⟨ret_bool HN.out.symm, hb⟩

end Go.Proofs.YtloopeipheklpaaGreatDoor

/- Lists that are made shorter: the specification, what goes again. -/
namespace Go.Proofs.YtloopeipheklpaaGreatDoor
open Go.RowKit

/-! append of a whole list. -/
theorem OpsAt.cells {w : World} {L U b off n : Nat} {ops : List LOp} (H : OpsAt w L U (some ⟨b, off, none⟩) n ops) : ∀ j u, (opCells ops)[j]? = some u → w.cell? ((⟨b, off, none⟩ : Addr).add j) = some u := by
  intro j u hu
  have hadd : (⟨b, off, none⟩ : Addr).add j = ⟨b, off + j, none⟩ := by unfold Addr.add; split <;> simp_all
  rw [hadd]
  have hj := (List.getElem?_eq_some_iff.1 hu).1
  rw [opCells_len] at hj
  have hl := H.len
  obtain ⟨b', off', ha, _, _, hc⟩ := H.at_ (by omega)
  simp only [Option.some.injEq, Addr.mk.injEq, and_true] at ha
  obtain ⟨rfl, rfl⟩ := ha
  obtain ⟨o, ho, _, hat⟩ := hc (j / 7) (by omega)
  have hv : ∀ t v, t < 7 → j = j / 7 * 7 + t → o.val[t]? = some v → u = v := fun t v ht e hv => by
    have := opCells_at ops (j / 7) o ho t v hv
    rw [← e, hu] at this
    exact Option.some.inj this
  have e7 : j = j / 7 * 7 + j % 7 := by omega
  have hm : j % 7 < 7 := Nat.mod_lt _ (by omega)
  generalize j % 7 = t at e7 hm
  match t, hm with
  | 0, _ => rw [hv 0 _ (by omega) e7 (by simp [LOp.val]; rfl), e7, ← Nat.add_assoc]; exact hat.c0
  | 1, _ => rw [hv 1 _ (by omega) e7 (by simp [LOp.val]; rfl), e7, ← Nat.add_assoc]; exact hat.c1
  | 2, _ => rw [hv 2 _ (by omega) e7 (by simp [LOp.val]; rfl), e7, ← Nat.add_assoc]; exact hat.c2
  | 3, _ => rw [hv 3 _ (by omega) e7 (by simp [LOp.val]; rfl), e7, ← Nat.add_assoc]; exact hat.c3
  | 4, _ => rw [hv 4 _ (by omega) e7 (by simp [LOp.val]; rfl), e7, ← Nat.add_assoc]; exact hat.c4
  | 5, _ => rw [hv 5 _ (by omega) e7 (by simp [LOp.val]; rfl), e7, ← Nat.add_assoc]; exact hat.c5
  | 6, _ => rw [hv 6 _ (by omega) e7 (by simp [LOp.val]; rfl), e7, ← Nat.add_assoc]; exact hat.c6
end Go.Proofs.YtloopeipheklpaaGreatDoor

/- Lists that are made shorter: the specification, what is moved on. -/
namespace Go.Proofs.YtloopeipheklpaaGreatDoor
open Go.RowKit

theorem OwnOps.one {W : World} {o : LOp} {B q : Nat} (hB : B ≤ W.heap.size) (hq : q = W.heap.size) : OwnOps (W.alloc (Obj.cells o.val 130)) B (.slice (some ⟨q, 0, none⟩) 1 1) [o] := by
  subst hq
  have := World.ownsRow_lit (base := B) (e := 130) (size := 7) W o.val 1 hB (by simp [maxLen]) (by simp [LOp.val])
  simpa [OwnOps, opCells] using this
theorem OwnOps.none_ {W : World} {B q : Nat} (hB : B ≤ W.heap.size) (hq : q = W.heap.size) : OwnOps (W.alloc (Obj.cells #[] 130)) B (.slice (some ⟨q, 0, none⟩) 0 0) [] := by
  subst hq
  exact OwnOps.empty W B hB
theorem OpsAt.none_ (w : World) (L U : Nat) (a : Option Addr) : OpsAt w L U a 0 [] := ⟨rfl, by simp [maxLen], fun h => absurd rfl h⟩
theorem OpsAt.grown {w w' : World} {L U : Nat} {a : Option Addr} {n : Nat} {ops : List LOp} {row : Option Nat} (H : OpsAt w L U a n ops) (hg : w.grownBy w' row) (hne : ∀ k, row = some k → k < L) (hU : U ≤ w.heap.size) : OpsAt w' L U a n ops :=
  ⟨H.len, H.bd, fun hn => by
    obtain ⟨b, off, ha, hL, hbU, hc⟩ := H.at_ hn
    refine ⟨b, off, ha, hL, hbU, fun i hi => ?_⟩
    obtain ⟨o, ho, hs, h0⟩ := hc i hi
    exact ⟨o, ho, hs, h0.of_block (hg.block b (by omega) (fun e => by have := hne b e.symm; omega))⟩⟩
theorem OwnOps.cut {w : World} {B g n cap k : Nat} {l : List LOp} (h : OwnOps w B (.slice (some ⟨g, 0, none⟩) n cap) l) (hn : n = l.length) (hk : k ≤ n) : OwnOps w B (.slice (some ⟨g, 0, none⟩) k cap) (l.take k) := by
  subst hn
  have hl : (l.take k).length = k := by simp; omega
  refine ⟨by rw [opCells_len], .inr ?_⟩
  rcases h.2 with ⟨h', _⟩ | ⟨g', cap', cur, h', hb, hg, hnc, hcm, hcs, htake⟩
  · simp at h'
  · simp only [Value.slice.injEq, Option.some.injEq, Addr.mk.injEq, and_true, true_and] at h'
    obtain ⟨rfl, rfl⟩ := h'
    refine ⟨g, cap, cur, by rw [hl], hb, hg, by omega, hcm, hcs, ?_⟩
    have e1 : opCells l = opCells (l.take k) ++ opCells (l.drop k) := by rw [← opCells_app, List.take_append_drop]
    have e2 : cur.toList.take (k * 7) = (cur.toList.take (l.length * 7)).take (k * 7) := by rw [List.take_take]; congr 1; omega
    rw [hl, e2, htake, e1, List.take_left' (by rw [opCells_len, hl])]
end Go.Proofs.YtloopeipheklpaaGreatDoor

/- Lists that are made shorter: the specification, what is moved on, again and again. -/
namespace Go.Proofs.YtloopeipheklpaaGreatDoor
open Go.RowKit

end Go.Proofs.YtloopeipheklpaaGreatDoor

/- Lists that are made shorter: the specification, whole. -/
namespace Go.Proofs.YtloopeipheklpaaGreatDoor
open Go.RowKit

theorem OwnOps.base {w : World} {B B' : Nat} {v : Value} {l : List LOp} (h : OwnOps w B v l) (hB : B' ≤ B) : OwnOps w B' v l :=
  ⟨h.1, by
    rcases h.2 with h | ⟨g, cap, cu, h1, h2, h3⟩
    · exact .inl h
    · exact .inr ⟨g, cap, cu, h1, by omega, h3⟩⟩
theorem SlimEnd.later {w w1 w' : World} {r : List LOp} {e : Ending} (h : SlimEnd w1 r e w') (hb : Below w.heap.size w w1) : SlimEnd w r e w' := by
  obtain ⟨⟨v, rfl, ho⟩, hb'⟩ := h
  exact ⟨⟨v, rfl, ho.base hb.size⟩, hb.trans (hb'.mono hb.size)⟩

end Go.Proofs.YtloopeipheklpaaGreatDoor

/- Lists that are made shorter: the program: what is deleted. -/
namespace Go.Proofs.YtloopeipheklpaaGreatDoor
open Go.RowKit

end Go.Proofs.YtloopeipheklpaaGreatDoor

/- Lists that are made shorter: the program: texts. -/
namespace Go.Proofs.YtloopeipheklpaaGreatDoor
open Go.RowKit

set_option maxHeartbeats 1000000 in
theorem listOk_any (a : Option Addr) (n c : Nat) (ops : List LOp) (L U : Nat) (w : World) (hU : U ≤ w.heap.size) (H : OpsAt w L U a n ops) :
    Calls Tryz.prog 116 #[.slice a n c] w fun e w' => e = .returned (.bool (formsB ops)) ∧ Below w.heap.size w w' := by
  have hbd := H.bd
  have hlen : Hid (n = ops.length) := H.len
  unfold maxLen at hbd
  by_cases h60 : 60 < n
  · have h60' : (60 : Int) < (n : Int) := by omega
    go_enter Tryz.func116, Tryz.ntmps116
    go_wp2_with fail
    go_ret
    exact ⟨ret_bool (by have := hlen.out; simp [formsB]; omega), Below.refl _ _⟩
  · have h60' : ¬ (60 : Int) < (n : Int) := by omega
    go_enter Tryz.func116, Tryz.ntmps116
    go_wp2_with fail
    go_loopg [10] n (fun g k wr => ∃ j : Nat, j ≤ n ∧ Hid (g = n - j) ∧ k = .int .i64 j ∧ Hid (formsB ops = (ops.drop j).all opOk) ∧ Below w.heap.size w wr)
    case atStart => exact ⟨0, Nat.zero_le _, rfl, rfl, by show _ = _; have := hlen.out; simp [formsB]; omega, Below.refl _ _⟩
    case round =>
      obtain ⟨j, hj, hk, rfl, hq, hb⟩ := hrel
      by_cases hlt : j < n
      · obtain ⟨b, off, ha, hL, hbU, hc⟩ := H.at_ (by omega)
        subst ha
        obtain ⟨x, he, hsz, hat⟩ := hc j hlt
        obtain ⟨d0, d1, d2, d3, d4, d5, d6⟩ := hat.of_block (hb.block b (by omega))
        have hlt' : (j : Int) < (n : Int) := by omega
        have HQ : Hid (formsB ops = (opOk x && (ops.drop (j + 1)).all opOk)) := by show _ = _; rw [hq.out, drop_cons he, List.all_cons]
        have HOK := fun w => implOpOk x w hsz
        simp only [LOp.val] at HOK
        clear he hc hq hat H
        go_wp2_with fail
        refine (HOK _).mono ?_
        rintro e w1 ⟨rfl, hb1⟩
        have hbb : Below w.heap.size w w1 := (hb.alloc hb.size _).trans (hb1.mono (by have := hb.size; simp; omega))
        rcases hx : opOk x with _ | _
        · have HY : Hid (formsB ops = false) := by show _ = _; rw [HQ.out, hx]; rfl
          clear HOK HQ
          go_wp2_with fail
          go_ret
          exact ⟨ret_bool HY.out.symm, hbb⟩
        · have HY : Hid (formsB ops = (ops.drop (j + 1)).all opOk) := by show _ = _; rw [HQ.out, hx]; rfl
          clear HOK HQ
          go_wp2_with fail
          go_roundg (n - (j + 1))
          case measure => have := hk.out; omega
          case rel => exact ⟨j + 1, by omega, rfl, by go_num, HY.out, hbb⟩
      · have HN : Hid (formsB ops = true) := by
          show _ = _
          rw [hq.out, List.drop_of_length_le (by have := hlen.out; omega)]; rfl
        go_wp2_with fail
        go_ret
        exact ⟨ret_bool HN.out.symm, hb⟩

end Go.Proofs.YtloopeipheklpaaGreatDoor

/- Lists that are made shorter: the program: what goes again. -/
namespace Go.Proofs.YtloopeipheklpaaGreatDoor
open Go.RowKit

def GoEnd (g : Int) (e : Ending) : Prop := e = .returned (.tuple #[.int .i64 (if 0 ≤ g then g else 0), .bool (decide (0 ≤ g))])
theorem GoEnd.no {e : Ending} (h : e = .returned (.tuple #[.int .i64 0, .bool false])) : GoEnd (-1) e := by subst h; rfl
end Go.Proofs.YtloopeipheklpaaGreatDoor

/- Lists that are made shorter: the program: what goes again is taken out. -/
namespace Go.Proofs.YtloopeipheklpaaGreatDoor
open Go.RowKit

end Go.Proofs.YtloopeipheklpaaGreatDoor

/- Lists that are made shorter: the program: what goes again, one at a time. -/
namespace Go.Proofs.YtloopeipheklpaaGreatDoor
open Go.RowKit

end Go.Proofs.YtloopeipheklpaaGreatDoor

/- Lists that are made shorter: the program: a rule again and again; pairs. -/
namespace Go.Proofs.YtloopeipheklpaaGreatDoor
open Go.RowKit

end Go.Proofs.YtloopeipheklpaaGreatDoor

/- Lists that are made shorter: the program: where something is then. -/
namespace Go.Proofs.YtloopeipheklpaaGreatDoor
open Go.RowKit

end Go.Proofs.YtloopeipheklpaaGreatDoor

/- Lists that are made shorter: the program: what moves on. -/
namespace Go.Proofs.YtloopeipheklpaaGreatDoor
open Go.RowKit

structure BoxAt (w : World) (q : Nat) (o : LOp) : Prop where
  c0 : w.cell? ⟨q, 0, none⟩ = some (.int .i64 o.kind)
  c1 : w.cell? ⟨q, 1, none⟩ = some (.int .i64 o.dir)
  c2 : w.cell? ⟨q, 2, none⟩ = some (.string o.name)
  c3 : w.cell? ⟨q, 3, none⟩ = some (.int .i64 o.dir2)
  c4 : w.cell? ⟨q, 4, none⟩ = some (.string o.name2)
  c5 : w.cell? ⟨q, 5, none⟩ = some (.int .i64 o.id)
  c6 : w.cell? ⟨q, 6, none⟩ = some (.string o.text)
theorem BoxAt.of {w w' : World} {q : Nat} {o : LOp} (h : BoxAt w q o) (e : w'.heap[q]? = w.heap[q]?) : BoxAt w' q o := by
  have hc : ∀ j, w'.cell? ⟨q, j, none⟩ = w.cell? ⟨q, j, none⟩ := fun j => World.cell?_of_block (w := w) e
  exact ⟨by rw [hc]; exact h.c0, by rw [hc]; exact h.c1, by rw [hc]; exact h.c2, by rw [hc]; exact h.c3, by rw [hc]; exact h.c4, by rw [hc]; exact h.c5, by rw [hc]; exact h.c6⟩
theorem BoxAt.new (w : World) (o : LOp) : BoxAt (w.alloc (.cells #[.int .i64 o.kind, .int .i64 o.dir, .string o.name, .int .i64 o.dir2, .string o.name2, .int .i64 o.id, .string o.text] 130)) w.heap.size o :=
  ⟨by simp [go_sem], by simp [go_sem], by simp [go_sem], by simp [go_sem], by simp [go_sem], by simp [go_sem], by simp [go_sem]⟩
def A0 (o : LOp) : Array Value := #[.int .i64 o.kind, .int .i64 o.dir, .string o.name, .int .i64 o.dir2, .string o.name2, .int .i64 o.id, .string o.text]

end Go.Proofs.YtloopeipheklpaaGreatDoor

/- Lists that are made shorter: the program: what moves on from where it was put. -/
namespace Go.Proofs.YtloopeipheklpaaGreatDoor
open Go.RowKit

/-- Taken first, the frame and the list of what came up written out. -/
theorem takeH {P : Program} {md : Region.Mode} {ops : Array Oper} {Q : Exit → Act → World → Prop} {S : World → Prop} {i : Nat} {oi : Oper} {v : Value} {fuel : Nat} {listed : Array Bool} {a : Act} {w : World} (d : Nat) (l2 : Array Bool) (hi : ops[i]? = some oi)
    (hs : Region.noSelect ops = true) (hf : Region.free md ops listed i = true) (hr : (Region.ready md ops listed).contains i = true)
    (hd : oi.dst = some d) (hl : listed.setIfInBounds i true = l2) (hQ : ∀ c a w, Q (.panic c) (a.put oi.dst v) w → Q (.panic c) a w) (hy : YieldsIf P ops S oi v a) (hS : S w)
    (h : wpAnyH P md ops Q S fuel l2 (a.put (some d) v) w) : wpAnyH P md ops Q S (fuel + 1) listed a w :=
  wpAnyH_take hi hs hf hr hQ hy hS (by rw [hl, hd]; exact h)
theorem listH {P : Program} {md : Region.Mode} {ops : Array Oper} {Q : Exit → Act → World → Prop} {S : World → Prop} {fuel : Nat} {listed l2 : Array Bool} {a : Act} {w : World} (hl : listed = l2) (h : wpAnyH P md ops Q S fuel l2 a w) : wpAnyH P md ops Q S fuel listed a w := by
  rw [hl]; exact h

end Go.Proofs.YtloopeipheklpaaGreatDoor

/- Lists that are made shorter: the program: what moves on, whole; lists with one put anew. -/
namespace Go.Proofs.YtloopeipheklpaaGreatDoor
open Go.RowKit

/-! A row of what is done, read and written. -/
/-! What is left when one goes, or both. -/
end Go.Proofs.YtloopeipheklpaaGreatDoor

/- Lists that are made shorter: the program: steps of a region that make and fill boxes. -/
namespace Go.Proofs.YtloopeipheklpaaGreatDoor
open Go.RowKit

def zrow (z : Array Value) (i : Nat) : Value := z[i]?.getD default
theorem zrow_new (W : World) (z : Array Value) (t : TypeId) : (W.alloc (.cells z t)).rowIs W.heap.size t z.size (zrow z) := World.rowIs_alloc W z t (zrow z) (fun i hi => by unfold zrow; rw [Array.getElem?_eq_getElem hi]; rfl)
section
variable {ops : Array Oper} {ac : Act} {K : Act → World → Prop} {Q : Exit → Act → World → Prop} {E : Prop} {ty : TypeId} {ps : String} {af : Array Edge}
end
end Go.Proofs.YtloopeipheklpaaGreatDoor

/- Logs: compared, by the program and by the specification. -/
namespace Go.Proofs.YtloopeipheklpaaGreatDoor
open Go.RowKit

/-! A box for a log, made and filled in a region that draws. -/
structure LogBox (W : World) (q : Nat) (x y : Int) (a : Option Addr) (n c : Nat) (a' : Option Addr) (n' c' : Nat) : Prop where
  c0 : W.cell? ⟨q, 0, none⟩ = some (.int .i64 x)
  c1 : W.cell? ⟨q, 1, none⟩ = some (.int .i64 y)
  c2 : W.cell? ⟨q, 2, none⟩ = some (.slice a n c)
  c3 : W.cell? ⟨q, 3, none⟩ = some (.slice a' n' c')
theorem LogBox.of {W W' : World} {q : Nat} {x y : Int} {a : Option Addr} {n c : Nat} {a' : Option Addr} {n' c' : Nat} (h : LogBox W q x y a n c a' n' c') (e : W'.heap[q]? = W.heap[q]?) : LogBox W' q x y a n c a' n' c' := by
  have hc : ∀ j, W'.cell? ⟨q, j, none⟩ = W.cell? ⟨q, j, none⟩ := fun j => World.cell?_of_block (w := W) e
  exact ⟨by rw [hc]; exact h.c0, by rw [hc]; exact h.c1, by rw [hc]; exact h.c2, by rw [hc]; exact h.c3⟩
section
variable {ops : Array Oper} {ac : Act} {K : Act → World → Prop} {Q : Exit → Act → World → Prop} {E : Prop} {ty : TypeId} {ps : String} {af : Array Edge}
end

end Go.Proofs.YtloopeipheklpaaGreatDoor

/- Servers: the last logs, in memory; contracts of the law's szShop, toShop, eqShop. -/
namespace Go.Proofs.YtloopeipheklpaaGreatDoor
open Go.RowKit Go.ChangeShapes Go.WideShapes

structure LDone where
  who : Int
  seq : Int
  code : Int
/-- What a slice of last logs is. -/
structure DonesAt (w : World) (L U : Nat) (a : Option Addr) (n : Nat) (bs : List LDone) : Prop where
  len : n = bs.length
  bd : n ≤ maxLen
  at_ : n ≠ 0 → ∃ b off, a = some ⟨b, off, none⟩ ∧ L ≤ b ∧ b < U ∧ ∀ i, i < n → ∃ e, bs[i]? = some e ∧ w.cell? ⟨b, off + i * 3, none⟩ = some (.int .i64 e.who) ∧ w.cell? ⟨b, off + i * 3 + 1, none⟩ = some (.int .i64 e.seq) ∧ w.cell? ⟨b, off + i * 3 + 2, none⟩ = some (.int .i64 e.code)
theorem DonesAt.blocks {w w' : World} {L U : Nat} {a : Option Addr} {n : Nat} {es : List LDone} (h : DonesAt w L U a n es) (hb : ∀ b, L ≤ b → b < U → w'.heap[b]? = w.heap[b]?) : DonesAt w' L U a n es :=
  ⟨h.len, h.bd, fun hn => by
    obtain ⟨b, off, ha, hL, hbU, hc⟩ := h.at_ hn
    refine ⟨b, off, ha, hL, hbU, fun i hi => ?_⟩
    obtain ⟨e, he, h0, h1, h2⟩ := hc i hi
    have hk := hb b hL hbU
    exact ⟨e, he, by rw [World.cell?_of_block (w := w) hk]; exact h0, by rw [World.cell?_of_block (w := w) hk]; exact h1, by rw [World.cell?_of_block (w := w) hk]; exact h2⟩⟩
theorem DonesAt.below {w w' : World} {L U B : Nat} {a : Option Addr} {n : Nat} {es : List LDone} (h : DonesAt w L U a n es) (hb : Below B w w') (hU : U ≤ B) : DonesAt w' L U a n es := h.blocks fun b _ hbU => hb.block b (by omega)
theorem DonesAt.wide {w : World} {L U L' U' : Nat} {a : Option Addr} {n : Nat} {es : List LDone} (h : DonesAt w L U a n es) (hL' : L' ≤ L) (hU : U ≤ U') : DonesAt w L' U' a n es :=
  ⟨h.len, h.bd, fun hn => by
    obtain ⟨b, off, ha, hL, hbU, hc⟩ := h.at_ hn
    exact ⟨b, off, ha, by omega, by omega, hc⟩⟩

section
variable {H : Type} {enc : TypeId × Value → H} {w : World} {spare : Nat → Bool} {held : Bool}
end

theorem EntsAt.blocks_ {w w' : World} {L U : Nat} {a : Option Addr} {n : Nat} {es : List LEnt} (h : EntsAt w L U a n es) (hb : ∀ b, L ≤ b → b < U → w'.heap[b]? = w.heap[b]?) : EntsAt w' L U a n es :=
  ⟨h.len, h.bd, fun hn => by
    obtain ⟨b, off, ha, hL, hbU, hc⟩ := h.at_ hn
    refine ⟨b, off, ha, hL, hbU, fun i hi => ?_⟩
    obtain ⟨e, he, hs, h0, h1⟩ := hc i hi
    have hk := hb b hL hbU
    exact ⟨e, he, hs, by rw [World.cell?_of_block (w := w) hk]; exact h0, by rw [World.cell?_of_block (w := w) hk]; exact h1⟩⟩
theorem ObjsAt.blocks_ {w w' : World} {L U : Nat} {a : Option Addr} {n : Nat} {os : List LObj} (h : ObjsAt w L U a n os) (hb : ∀ b, L ≤ b → b < U → w'.heap[b]? = w.heap[b]?) : ObjsAt w' L U a n os :=
  ⟨h.len, h.bd, fun hn => by
    obtain ⟨b, off, ha, hL, hbU, hc⟩ := h.at_ hn
    refine ⟨b, off, ha, hL, hbU, fun i hi => ?_⟩
    obtain ⟨o, ka, kn, kc, he, hs, h0, h1, h2, h3, hk⟩ := hc i hi
    have hk' := hb b hL hbU
    exact ⟨o, ka, kn, kc, he, hs, by rw [World.cell?_of_block (w := w) hk']; exact h0, by rw [World.cell?_of_block (w := w) hk']; exact h1, by rw [World.cell?_of_block (w := w) hk']; exact h2, by rw [World.cell?_of_block (w := w) hk']; exact h3, hk.blocks_ hb⟩⟩

end Go.Proofs.YtloopeipheklpaaGreatDoor
