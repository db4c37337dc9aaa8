/- Lemmas that the proofs of this seat share: Out, App, Put, Turn. -/
import Derived.Test.YtnolbfijcnldjaaGreatDoorW01
import Derived.Deep.RegionLaw
import Derived.Deep.RegionWith
import Derived.Maps.AppendAt
import Derived.BigRegion
/- Names of a directory in memory of the call's own; taking a name out. -/
namespace Go.Proofs.YtnolbfijcnldjaaGreatDoor
open Go.RowKit

def entCells (es : List LEnt) : List Value := es.flatMap fun e => [.string e.name, .int .i64 e.id]
theorem entCells_len (es : List LEnt) : (entCells es).length = es.length * 2 := by
  induction es with
  | nil => rfl
  | cons e r ih => simp only [entCells, List.flatMap_cons, List.length_append, List.length_cons, List.length_nil] at ih ⊢; omega
theorem entCells_app (es fs : List LEnt) : entCells (es ++ fs) = entCells es ++ entCells fs := by simp [entCells]
theorem entCells_at : ∀ (es : List LEnt) (i : Nat) (e : LEnt), es[i]? = some e → (entCells es)[i * 2]? = some (.string e.name) ∧ (entCells es)[i * 2 + 1]? = some (.int .i64 e.id)
  | [], i, e, h => by simp at h
  | x :: r, 0, e, h => by simp at h; subst h; simp [entCells]
  | x :: r, i + 1, e, h => by
    have ih := entCells_at r i e (by simpa using h)
    have e1 : entCells (x :: r) = [.string x.name, .int .i64 x.id] ++ entCells r := rfl
    rw [e1, List.getElem?_append_right (by simp; omega), List.getElem?_append_right (by simp; omega)]
    have a1 : (i + 1) * 2 - 2 = i * 2 := by omega
    have a2 : (i + 1) * 2 + 1 - 2 = i * 2 + 1 := by omega
    simpa [a1, a2] using ih
/-- A slice of names that the call owns. -/
def OwnEnts (w : World) (B : Nat) (v : Value) (es : List LEnt) : Prop := w.ownsRow B 53 2 v es.length (entCells es)
def outL (name : ByteArray) (es : List LEnt) : List LEnt := es.filter fun e => !(e.name.toList == name.toList)
theorem outL_le (name : ByteArray) (es : List LEnt) : (outL name es).length ≤ es.length := List.length_filter_le _ _
theorem info47' : (Tryz.prog.info? 53).map (fun i => (i.zero, i.size, i.bytes)) = some (some (.agg #[.string ⟨#[]⟩, .int .i64 0]), 2, 24) := by kernel_rfl
theorem OwnEnts.at_ {w : World} {B : Nat} {v : Value} {es : List LEnt} (h : OwnEnts w B v es) (hn : ∀ e ∈ es, e.name.size ≤ maxLen) : ∃ a c, v = .slice a es.length c ∧ EntsAt w B w.heap.size a es.length es := by
  by_cases h0 : es.length = 0
  · obtain rfl : es = [] := List.eq_nil_of_length_eq_zero h0
    rcases h.2 with ⟨rfl, _⟩ | ⟨g, cap, cur, rfl, _⟩
    · exact ⟨_, _, rfl, rfl, by simp [maxLen], fun hn => absurd rfl hn⟩
    · exact ⟨_, _, rfl, rfl, by simp [maxLen], fun hn => absurd rfl hn⟩
  · obtain ⟨g, c, rfl, hb, hlt⟩ := World.ownsRow.form h (by omega)
    have hbd : es.length ≤ maxLen := by
      rcases h.2 with ⟨h', _⟩ | ⟨g', cap', cur, h', _, _, hnc, hcm, _⟩
      · simp at h'
      · omega
    refine ⟨_, _, rfl, rfl, hbd, fun _ => ⟨g, 0, rfl, hb, hlt, fun i hi => ⟨es[i], by simp [hi], hn _ (List.getElem_mem hi), ?_, ?_⟩⟩⟩
    · have := World.ownsRow.cellAt h (i * 2) (by omega)
      rw [Nat.zero_add, this]
      exact (entCells_at es i es[i] (by simp [hi])).1
    · have := World.ownsRow.cellAt h (i * 2 + 1) (by omega)
      rw [Nat.zero_add, this]
      exact (entCells_at es i es[i] (by simp [hi])).2
theorem two_at {w : World} {u v0 v1 : Value} {t : TypeId} {i : Nat} (h : [v0, v1][i]? = some u) : (w.alloc (Obj.cells #[v0, v1] t)).cell? ((⟨w.heap.size, 0, none⟩ : Addr).add i) = some u := by
  match i, h with
  | 0, h => simp at h; subst h; simp [Addr.add]
  | 1, h => simp at h; subst h; simp [Addr.add]
theorem outL_take_yes {name : ByteArray} {es : List LEnt} {k : Nat} {e : LEnt} (h : es[k]? = some e) (hb : (e.name.toList == name.toList) = false) : outL name (es.take (k + 1)) = outL name (es.take k) ++ [e] := by
  simp [outL, List.take_add_one, h, List.filter_append, hb]
theorem outL_take_no {name : ByteArray} {es : List LEnt} {k : Nat} {e : LEnt} (h : es[k]? = some e) (hb : (e.name.toList == name.toList) = true) : outL name (es.take (k + 1)) = outL name (es.take k) := by
  simp [outL, List.take_add_one, h, List.filter_append, hb]
theorem keepEnts {wr w0 w1 : World} {B : Nat} {u v' : Value} {l : List LEnt} {e : LEnt} {o1 : Obj} (hown : Hid (OwnEnts wr B u l)) (hb : Below B w0 wr) (hsz : B ≤ wr.heap.size)
    (hown' : w1.ownsRow B 53 2 v' (l.length + 1) (entCells l ++ [Value.string e.name, Value.int .i64 e.id])) (hgrow : (wr.alloc o1).grownBy w1 u.ownBlock) :
    OwnEnts w1 B v' (l ++ [e]) ∧ Below B w0 w1 := by
  have hr : ∀ k, u.ownBlock = some k → B ≤ k := fun k e => (hown.out.lt k e).1
  have hb1 : Below B wr w1 := below_grown ((Below.refl _ _).alloc (by omega) _) hgrow hr (by simp; omega)
  exact ⟨by unfold OwnEnts; rw [entCells_app, List.length_append]; exact hown', hb.trans hb1⟩

set_option maxHeartbeats 1000000 in
set_option maxRecDepth 20000 in
theorem out_any (a : Option Addr) (n c : Nat) (es : List LEnt) (L U : Nat) (name : ByteArray) (w : World) (hn : n ≤ 1048576) (hU : U ≤ w.heap.size) (H : EntsAt w L U a n es) :
    Calls Tryz.prog 173 #[.slice a n c, .string name] w fun e w' => (∃ v, e = .returned v ∧ Hid (OwnEnts w' w.heap.size v (outL name es))) ∧ Below w.heap.size w w' := by
  obtain ⟨i0, hi, hz0, hz1, hz2⟩ := info_parts info47'
  go_enter Tryz.func173, Tryz.ntmps173
  go_wp2_with fail
  go_loopg [5, 6] n (fun k v i wr => ∃ j : Nat, j ≤ n ∧ Hid (k = n - j) ∧ i = .int .i64 j ∧ Hid (OwnEnts wr w.heap.size v (outL name (es.take j))) ∧ Below w.heap.size w wr)
  case atStart => exact ⟨0, Nat.zero_le _, rfl, rfl, by show OwnEnts _ _ _ _; simpa [OwnEnts, outL, entCells] using World.ownsRow_lit (base := w.heap.size) (e := 53) (size := 2) w #[] 0 (by simp) (by simp [maxLen]) rfl, (Below.refl _ _).alloc (Nat.le_refl _) _⟩
  case round =>
    obtain ⟨j, hj, hk, rfl, hown, hb⟩ := hrel
    have hsz := hb.size
    by_cases hlt : j < n
    · obtain ⟨b, off, ha, hL, hbU, hc⟩ := H.at_ (by omega)
      subst ha
      obtain ⟨e, he, hts, hc0, hc1⟩ := hc j hlt
      rw [← hb.cell (by simp; omega)] at hc0 hc1
      have HE : Hid (es[j]? = some e) := he
      clear he hc
      rcases hq : (e.name.toList == name.toList) with _ | _
      · have HL : Hid (outL name (es.take (j + 1)) = outL name (es.take j) ++ [e]) := outL_take_yes HE.out hq
        have hle : (outL name (es.take j)).length ≤ j := by have := outL_le name (es.take j); simp at this; omega
        go_wp2_with (first
          | (at_builtin; refine wpList_append_own _ rfl _ _ 36 rfl w.heap.size 53 i0 _ 2 24 Tryz.underlying36 hi hz0 hz1 hz2 rfl (by decide) _ _ _ rfl (hown.out.alloc _) ⟨wr.heap.size, 0, none⟩ 1 1 [.string e.name, .int .i64 e.id] rfl rfl ?c1 ?c2 ?c3 ?c4 ?c5 ?_)
          | go_in)
        case c1 => intro i u hi; exact two_at hi
        case c2 => intro u hu; simp at hu; rcases hu with rfl | rfl <;> rfl
        case c3 => unfold maxLen; omega
        case c4 => omega
        case c5 => simp; omega
        intro v' w1 hown' hgrow _
        have R := keepEnts hown hb hsz hown' hgrow
        clear hown' hgrow hown hb
        go_wp2_with fail
        go_roundg (n - (j + 1))
        case measure => have := hk.out; omega
        case rel => exact ⟨j + 1, by omega, rfl, by go_num, by show OwnEnts _ _ _ _; rw [HL.out]; exact R.1, R.2⟩
      · have HL : Hid (outL name (es.take (j + 1)) = outL name (es.take j)) := outL_take_no HE.out hq
        go_wp2_with fail
        go_roundg (n - (j + 1))
        case measure => have := hk.out; omega
        case rel => exact ⟨j + 1, by omega, rfl, by go_num, by show OwnEnts _ _ _ _; rw [HL.out]; exact hown.out, hb⟩
    · obtain rfl : j = n := by omega
      have hown' := hown.out
      rw [List.take_of_length_le (by have := H.len; omega)] at hown'
      go_wp2_with fail
      go_ret
      exact ⟨⟨_, rfl, hown'⟩, hb⟩
end Go.Proofs.YtnolbfijcnldjaaGreatDoor

/- append of names onto names that the call owns: the laws. -/
namespace Go.Proofs.YtnolbfijcnldjaaGreatDoor
open Go.RowKit

theorem entCells_one : ∀ (es : List LEnt), ∀ u ∈ entCells es, u.oneCell' = true := by
  intro es u hu
  simp only [entCells, List.mem_flatMap] at hu
  obtain ⟨e, _, h⟩ := hu
  simp at h
  rcases h with rfl | rfl <;> rfl

/-- What an append onto names of the call's own leaves. -/
structure AppEnd (w w' : World) (B g g' n cap' : Nat) (l : List LEnt) : Prop where
  own : OwnEnts w' B (.slice (some ⟨g', 0, none⟩) n cap') l
  grown : w.grownBy w' (some g)
  at_ : g' = g ∨ g' = w.heap.size
  lt : g' < w'.heap.size

theorem run_app_ents (w : World) (B g n cap : Nat) (l news : List LEnt) (ty : TypeId) (hn : n = l.length) (hown : OwnEnts w B (.slice (some ⟨g, 0, none⟩) n cap) l) (ad : Addr) (m c : Nat) (hm : m = news.length)
    (hnews : ∀ j u, (entCells news)[j]? = some u → w.cell? (ad.add j) = some u) (hbd : n + m ≤ 4000000) (hB : B ≤ w.heap.size) :
    ∃ g' cap' w', (Builtin.append_ #[36, 36] ty #[.slice (some ⟨g, 0, none⟩) n cap, .slice (some ad) m c]).run Tryz.prog w = .ok (.slice (some ⟨g', 0, none⟩) (n + m) cap') w' ∧ AppEnd w w' B g g' (n + m) cap' (l ++ news) := by
  obtain ⟨i0, hi, hz0, hz1, hz2⟩ := info_parts info47'
  subst hn hm
  obtain ⟨v', w', hr, h2, h3, h4, h5⟩ := run_append_own_at (P := Tryz.prog) w B 36 ty 53 i0 _ 2 24 Tryz.underlying36 hi hz0 hz1 hz2 rfl (by decide) _ _ _ hown ad news.length c (entCells news) (entCells_len _) hnews (entCells_one _) (by unfold maxLen; omega) (by omega) hB
  have h2' := h2
  rcases h2.2 with ⟨hv, _⟩ | ⟨g', cap', cur, rfl, hb, hg, _⟩
  · have := (h4.1 hv).1; cases this
  · refine ⟨g', cap', w', hr, ⟨?_, h3, ?_, (Array.getElem?_eq_some_iff.1 hg).1⟩⟩
    · unfold OwnEnts; rw [entCells_app, List.length_append]; exact h2'
    · simpa [Value.ownBlock] using h5

theorem wp_app_ents (w : World) {o : Oper} {a : Act} {K : Act → World → Prop} {Q : Exit → Act → World → Prop} (s x : Operand)
    (ho : o.op = .call { callee := .builtin .append, args := #[s, x], argTypes := #[36, 36] }) (B g n cap : Nat) (l news : List LEnt) (hn : n = l.length) (hown : OwnEnts w B (.slice (some ⟨g, 0, none⟩) n cap) l) (ad : Addr) (m c : Nat) (hm : m = news.length)
    (hs : a.eval s = .slice (some ⟨g, 0, none⟩) n cap) (hx : a.eval x = .slice (some ad) m c)
    (hnews : ∀ j u, (entCells news)[j]? = some u → w.cell? (ad.add j) = some u) (hbd : n + m ≤ 4000000) (hB : B ≤ w.heap.size)
    (h : ∀ g' cap' w', AppEnd w w' B g g' (n + m) cap' (l ++ news) → K (a.put o.dst (.slice (some ⟨g', 0, none⟩) (n + m) cap')) w') : o.wp Tryz.prog a w K Q := by
  obtain ⟨g', cap', w', hr, h2⟩ := run_app_ents w B g n cap l news o.type hn hown ad m c hm hnews hbd hB
  unfold Oper.wp execOp
  simp only [ho, resolve, invoke, builtin, Sem.run_bind, Sem.run_pure, Result.andThen_ok, List.map_toArray, List.map_cons, List.map_nil, hs, hx, hr]
  exact h g' cap' w' h2

theorem wpList_app_ents (w : World) {ops : Array Oper} {rest : List Oper} {o : Oper} {a : Act} {Q : Exit → Act → World → Prop} (hgd : o.guard = none) (s x : Operand)
    (ho : o.op = .call { callee := .builtin .append, args := #[s, x], argTypes := #[36, 36] }) (B g n cap : Nat) (l news : List LEnt) (hn : n = l.length) (hown : OwnEnts w B (.slice (some ⟨g, 0, none⟩) n cap) l) (ad : Addr) (m c : Nat) (hm : m = news.length)
    (hs : a.eval s = .slice (some ⟨g, 0, none⟩) n cap) (hx : a.eval x = .slice (some ad) m c)
    (hnews : ∀ j u, (entCells news)[j]? = some u → w.cell? (ad.add j) = some u) (hbd : n + m ≤ 4000000) (hB : B ≤ w.heap.size)
    (h : ∀ g' cap' w', AppEnd w w' B g g' (n + m) cap' (l ++ news) → wpList Tryz.prog ops Q rest (a.put o.dst (.slice (some ⟨g', 0, none⟩) (n + m) cap')) w') : wpList Tryz.prog ops Q (o :: rest) a w :=
  wpList_plain hgd fun _ hK => wp_app_ents w s x ho B g n cap l news hn hown ad m c hm hs hx hnews hbd hB fun g' cap' w' h2 => hK _ _ (h g' cap' w' h2)

theorem step_app_ents (w : World) {ops : Array Oper} {o : Oper} {a : Act} {K : Act → World → Prop} {Q : Exit → Act → World → Prop} {E : Prop} (hgd : o.guard = none) (s x : Operand)
    (ho : o.op = .call { callee := .builtin .append, args := #[s, x], argTypes := #[36, 36] }) (B g n cap : Nat) (l news : List LEnt) (hn : n = l.length) (hown : OwnEnts w B (.slice (some ⟨g, 0, none⟩) n cap) l) (ad : Addr) (m c : Nat) (hm : m = news.length)
    (hs : a.eval s = .slice (some ⟨g, 0, none⟩) n cap) (hx : a.eval x = .slice (some ad) m c)
    (hnews : ∀ j u, (entCells news)[j]? = some u → w.cell? (ad.add j) = some u) (hbd : n + m ≤ 4000000) (hB : B ≤ w.heap.size)
    (h : ∀ g' cap' w', AppEnd w w' B g g' (n + m) cap' (l ++ news) → K (a.put o.dst (.slice (some ⟨g', 0, none⟩) (n + m) cap')) w') :
    if Region.wanted o (yielded ops a.tmps) = true then Oper.wp Tryz.prog o a w K Q else E := by
  have hw : Region.wanted o (yielded ops a.tmps) = true := by simp [Region.wanted, hgd]
  rw [if_pos hw]
  exact wp_app_ents w s x ho B g n cap l news hn hown ad m c hm hs hx hnews hbd hB h

theorem OwnEnts.grown {w w' : World} {B g n cap : Nat} {es : List LEnt} {row : Option Nat} (h : OwnEnts w B (.slice (some ⟨g, 0, none⟩) n cap) es) (hg : w.grownBy w' row) (hne : some g ≠ row) : OwnEnts w' B (.slice (some ⟨g, 0, none⟩) n cap) es :=
  World.ownsRow.kept h hg (.inr (by simpa [Value.ownBlock] using hne))
theorem OwnEnts.cut {w : World} {B g n cap k : Nat} {es : List LEnt} (h : OwnEnts w B (.slice (some ⟨g, 0, none⟩) n cap) es) (hn : n = es.length) (hk : k ≤ n) : OwnEnts w B (.slice (some ⟨g, 0, none⟩) k cap) (es.take k) := by
  subst hn
  have hl : (es.take k).length = k := by simp; omega
  refine ⟨by rw [entCells_len], .inr ?_⟩
  rcases h.2 with ⟨h', _⟩ | ⟨g', cap', cur, h', hb, hg, hnc, hcm, hcs, htake⟩
  · simp at h'
  · simp only [Value.slice.injEq, Option.some.injEq, Addr.mk.injEq, and_true, true_and] at h'
    obtain ⟨rfl, rfl⟩ := h'
    refine ⟨g, cap, cur, by rw [hl], hb, hg, by omega, hcm, hcs, ?_⟩
    have e1 : entCells es = entCells (es.take k) ++ entCells (es.drop k) := by rw [← entCells_app, List.take_append_drop]
    have e2 : cur.toList.take (k * 2) = (cur.toList.take (es.length * 2)).take (k * 2) := by rw [List.take_take]; congr 1; omega
    rw [hl, e2, htake, e1, List.take_left' (by rw [entCells_len, hl])]
theorem OwnEnts.rest {w : World} {B g n cap k : Nat} {es : List LEnt} (h : OwnEnts w B (.slice (some ⟨g, 0, none⟩) n cap) es) (hn : n = es.length) (hk : k ≤ n) : ∀ j u, (entCells (es.drop k))[j]? = some u → w.cell? ((⟨g, k * 2, none⟩ : Addr).add j) = some u := by
  intro j u hu
  subst hn
  have hl : (es.take k).length = k := by simp; omega
  have e1 : entCells es = entCells (es.take k) ++ entCells (es.drop k) := by rw [← entCells_app, List.take_append_drop]
  have hlen : (entCells (es.take k)).length = k * 2 := by rw [entCells_len, hl]
  have h1 : (entCells es)[k * 2 + j]? = some u := by rw [e1, List.getElem?_append_right (by omega)]; rw [hlen]; simpa using hu
  have hj : k * 2 + j < es.length * 2 := by
    have := (List.getElem?_eq_some_iff.1 h1).1
    rwa [entCells_len] at this
  have h2 := World.ownsRow.cellAt h (k * 2 + j) hj
  have hadd : (⟨g, k * 2, none⟩ : Addr).add j = ⟨g, k * 2 + j, none⟩ := by unfold Addr.add; split <;> simp_all
  rw [hadd, h2]; exact h1
theorem OwnEnts.empty (w : World) (B : Nat) (hB : B ≤ w.heap.size) : OwnEnts (w.alloc (Obj.cells #[] 53)) B (.slice (some ⟨w.heap.size, 0, none⟩) 0 0) [] := by
  simpa [OwnEnts, entCells] using World.ownsRow_lit (base := B) (e := 53) (size := 2) w #[] 0 hB (by simp [maxLen]) rfl
end Go.Proofs.YtnolbfijcnldjaaGreatDoor

/- Putting a name into a directory. -/
namespace Go.Proofs.YtnolbfijcnldjaaGreatDoor
open Go.RowKit

theorem OwnEnts.of_heap {w w' : World} {B : Nat} {v : Value} {es : List LEnt} (hh : w'.heap = w.heap) (h : OwnEnts w B v es) : OwnEnts w' B v es := by
  unfold OwnEnts World.ownsRow at *; rw [hh]; exact h
theorem put_len {a : Nat} {l : List LEnt} {x : LEnt} (h : a = l.length) : a + 1 = (l ++ [x]).length := by simp [h]
theorem put_news {Wx w2 : World} {C g g1 n cap : Nat} {l : List LEnt} (hg : Wx.grownBy w2 (some g)) (hne : g1 ≠ g) (h : OwnEnts Wx C (.slice (some ⟨g1, 0, none⟩) n cap) l) : ∀ j u, (entCells l)[j]? = some u → w2.cell? ((⟨g1, 0, none⟩ : Addr).add j) = some u := by
  have h2 := OwnEnts.grown h hg (by simpa using hne)
  exact World.ownsRow.cells h2 rfl
def lessN (name : ByteArray) (e : LEnt) : Bool := Op.bytesLess e.name.toList name.toList
/-- Where a name goes. -/
def placeL (name : ByteArray) (es : List LEnt) : Nat := (es.takeWhile (lessN name)).length
def putL (x : LEnt) (es : List LEnt) : List LEnt := es.take (placeL x.name es) ++ [x] ++ es.drop (placeL x.name es)
theorem placeL_le (name : ByteArray) : ∀ es : List LEnt, placeL name es ≤ es.length
  | [] => Nat.le_refl _
  | e :: r => by
    unfold placeL
    rw [List.takeWhile_cons]
    split
    · have := placeL_le name r; simpa [placeL] using this
    · simp
theorem placeL_at {name : ByteArray} : ∀ {es : List LEnt} {k : Nat}, (∀ i, i < k → ∃ e, es[i]? = some e ∧ lessN name e = true) → (k = es.length ∨ ∃ e, es[k]? = some e ∧ lessN name e = false) → placeL name es = k
  | [], k, h, h' => by
    rcases h' with h' | ⟨e, he, _⟩
    · simpa [placeL] using h'.symm
    · simp at he
  | e :: r, 0, _, h' => by
    rcases h' with h' | ⟨x, hx, hl⟩
    · simp at h'
    · simp at hx; subst hx; simp [placeL, hl]
  | e :: r, k + 1, h, h' => by
    obtain ⟨x, hx, hl⟩ := h 0 (by omega)
    simp at hx; subst hx
    have ih := placeL_at (name := name) (es := r) (k := k) (fun i hi => by simpa using h (i + 1) (by omega)) (by simpa using h')
    simp only [placeL, List.takeWhile_cons, hl, if_true, List.length_cons] at ih ⊢
    rw [ih]

def PutEnd (w : World) (B g n : Nat) (x : LEnt) (es : List LEnt) (e : Ending) (w' : World) : Prop := ∃ g' cap', e = .returned (.slice (some ⟨g', 0, none⟩) (n + 1) cap') ∧ OwnEnts w' B (.slice (some ⟨g', 0, none⟩) (n + 1) cap') (putL x es) ∧ w.grownBy w' (some g) ∧ (g' = g ∨ w.heap.size ≤ g')
theorem put_end {w w1 w2 w3 : World} {B g g2 g3 n j cap2 cap3 : Nat} {x : LEnt} {es : List LEnt} {o : Obj} (hp : placeL x.name es = j) (hj : j ≤ n) (hG : w.grownBy w1 (some g)) (hz : w.heap.size + 2 ≤ w1.heap.size)
    (h2 : AppEnd (w1.alloc o).drew w2 B g g2 (j + 1) cap2 (es.take j ++ [x])) (h3 : AppEnd w2 w3 B g2 g3 (j + 1 + (n - j)) cap3 (es.take j ++ [x] ++ es.drop j)) :
    PutEnd w B g n x es (.returned (.slice (some ⟨g3, 0, none⟩) (j + 1 + (n - j)) cap3)) w3 := by
  have hnn : j + 1 + (n - j) = n + 1 := by omega
  have hz2 := h2.grown.size
  have hzx : (w1.alloc o).drew.heap.size = w1.heap.size + 1 := by simp
  have hgx : w1.grownBy (w1.alloc o).drew (some g) := ⟨rfl, rfl, rfl, by simp, fun k hk _ => (World.grownBy_alloc w1 o none).block k hk (by simp)⟩
  have hg2 : g2 = g ∨ w.heap.size ≤ g2 := by rcases h2.at_ with h | h <;> omega
  refine ⟨g3, cap3, by rw [hnn], ?_, ?_, ?_⟩
  · have := h3.own
    rw [hnn] at this
    unfold putL
    rw [hp]
    exact this
  · refine ((hG.trans hgx).trans h2.grown).andThen h3.grown fun k hk => ?_
    simp at hk
    subst hk
    rcases hg2 with h | h
    · exact .inr (by rw [h])
    · exact .inl h
  · rcases h3.at_ with h | h
    · rw [h]; exact hg2
    · right; omega

set_option maxHeartbeats 1000000 in
set_option maxRecDepth 20000 in
theorem put_any (B g cap n : Nat) (es : List LEnt) (x : LEnt) (w : World) (hn : n = es.length) (hn2 : n ≤ 1000000) (hB : B ≤ w.heap.size) (H : OwnEnts w B (.slice (some ⟨g, 0, none⟩) n cap) es) :
    Calls Tryz.prog 172 #[.slice (some ⟨g, 0, none⟩) n cap, .agg #[.string x.name, .int .i64 x.id]] w fun e w' => PutEnd w B g n x es e w' := by
  obtain ⟨i0, hi, hz0, hz1, hz2⟩ := info_parts info47'
  have HO : Hid (OwnEnts w B (.slice (some ⟨g, 0, none⟩) n cap) es) := H
  have hgw : g < w.heap.size := (World.ownsRow.lt H g rfl).2
  have hcap : n ≤ cap := by
    rcases H.2 with ⟨h', _⟩ | ⟨g', cap', cur, h', _, _, hnc, hcm, _⟩
    · simp at h'
    · simp at h'; omega
  have hcells : Hid (∀ i, i < n → ∃ e, es[i]? = some e ∧ w.cell? ⟨g, i * 2, none⟩ = some (.string e.name) ∧ w.cell? ⟨g, i * 2 + 1, none⟩ = some (.int .i64 e.id)) := by
    intro i hi
    have h1 := World.ownsRow.cellAt (hn ▸ H) (i * 2) (by omega)
    have h2 := World.ownsRow.cellAt (hn ▸ H) (i * 2 + 1) (by omega)
    have h3 := entCells_at es i (es[i]'(by omega)) (by simp)
    exact ⟨es[i]'(by omega), by simp, by rw [h1]; exact h3.1, by rw [h2]; exact h3.2⟩
  have HN : Hid (n = es.length) := hn
  clear H hn
  go_enter Tryz.func172, Tryz.ntmps172
  go_wp2_with fail
  go_loopg [5] n (fun k i wr => ∃ j : Nat, j ≤ n ∧ Hid (k = n - j) ∧ i = .int .i64 j ∧ Hid (∀ i, i < j → ∃ e, es[i]? = some e ∧ lessN x.name e = true) ∧ Hid (∃ m, wr = (w.alloc (.cells #[.string x.name, .int .i64 x.id] 53)).drewN m))
  case atStart => exact ⟨0, Nat.zero_le _, rfl, rfl, fun i hi => by omega, 0, rfl⟩
  case round =>
    obtain ⟨j, hj, hk, rfl, hless, hwr⟩ := hrel
    by_cases hlt : j < n
    · obtain ⟨e, he, hc0, hc1⟩ := hcells.out j hlt
      have hbx : wr.cell? ⟨w.heap.size, 0, none⟩ = some (.string x.name) := by obtain ⟨m, rfl⟩ := hwr.out; show World.cell? (w.alloc _) _ = _; simp [go_sem]
      have hd0 : wr.cell? ⟨g, j * 2, none⟩ = some (.string e.name) := by obtain ⟨m, rfl⟩ := hwr.out; show World.cell? (w.alloc _) _ = _; rw [((Below.refl w.heap.size w).alloc (Nat.le_refl _) _).cell (by simpa using hgw)]; exact hc0
      have HE : Hid (es[j]? = some e) := he
      have hlt' : decide ((j : Int) < (n : Int)) = true := by simp; omega
      have hlt2 : (j : Int) < (n : Int) := by omega
      have hlt3 : decide (j < n) = true := by simpa using hlt
      clear hc0 hc1 he
      rcases hq : lessN x.name e with _ | _
      · have t1 : Op.bytesLess e.name.toList x.name.toList = false := hq
        have HP : Hid (placeL x.name es = j) := placeL_at hless.out (.inr ⟨e, HE.out, hq⟩)
        go_wp2_with fail
        go_quiet (fail)
        obtain ⟨W, hW⟩ : ∃ W, Hid (W = wr.drewN nq) := ⟨_, rfl⟩
        rw [← hW.out]
        have HWsz : Hid (W.heap.size = w.heap.size + 1) := by show _ = _; rw [hW.out]; obtain ⟨m, hm⟩ := hwr.out; rw [hm]; simp
        have hW0 : W.cell? ⟨w.heap.size, 0, none⟩ = some (.string x.name) := by rw [hW.out]; obtain ⟨m, hm⟩ := hwr.out; rw [hm]; show World.cell? (w.alloc _) _ = _; simp [go_sem]
        have hW1 : W.cell? ⟨w.heap.size, 1, none⟩ = some (.int .i64 x.id) := by rw [hW.out]; obtain ⟨m, hm⟩ := hwr.out; rw [hm]; show World.cell? (w.alloc _) _ = _; simp [go_sem]
        have hWg : Hid (w.grownBy W (some g)) := by
          show World.grownBy _ _ _
          rw [hW.out]; obtain ⟨m, hm⟩ := hwr.out; rw [hm]
          exact ⟨rfl, rfl, rfl, by simp, fun k hk _ => (World.grownBy_alloc w _ none).block k hk (by simp)⟩
        have HOW : Hid (OwnEnts W B (.slice (some ⟨g, 0, none⟩) n cap) es) := by
          show OwnEnts _ _ _ _
          rw [hW.out]; obtain ⟨m, hm⟩ := hwr.out; rw [hm]
          exact World.ownsRow.alloc HO.out _
        -- the two appends
        go_wp2_with (first
          | (at_builtin; refine wpList_app_ents _ rfl _ _ rfl W.heap.size W.heap.size 0 0 [] (es.drop j) rfl (OwnEnts.empty W _ (Nat.le_refl _)) ⟨g, j * 2, none⟩ (n - j) (cap - j) (by rw [List.length_drop, HN.out]) rfl rfl ?c1 ?c2 ?c3 ?_)
          | go_in)
        case c1 => exact OwnEnts.rest (HOW.out.grown (World.grownBy_alloc W _ none) (by simp)) HN.out hj
        case c2 => omega
        case c3 => simp
        intro g1 cap1 w1 hend1
        have hWsz := HWsz.out
        have HT : Hid (OwnEnts w1 W.heap.size (.slice (some ⟨g1, 0, none⟩) (n - j) cap1) (es.drop j)) := by show OwnEnts _ _ _ _; simpa using hend1.own
        have HL : Hid (OwnEnts w1 B (.slice (some ⟨g, 0, none⟩) j cap) (es.take j)) := ((HOW.out.grown (World.grownBy_alloc W _ none) (by simp)).grown hend1.grown (by simp; omega)).cut HN.out hj
        have hbx0 : w1.cell? ⟨w.heap.size, 0, none⟩ = some (.string x.name) := by
          rw [hend1.grown.cell_far _ (by simp; omega) (by simp; omega), (World.grownBy_alloc W _ none).cell_far _ (by simp; omega) (by simp)]; exact hW0
        have hbx1 : w1.cell? ⟨w.heap.size, 1, none⟩ = some (.int .i64 x.id) := by
          rw [hend1.grown.cell_far _ (by simp; omega) (by simp; omega), (World.grownBy_alloc W _ none).cell_far _ (by simp; omega) (by simp)]; exact hW1
        have hG1 : Hid (w.grownBy w1 (some g)) := hWg.out.trans ((World.grownBy_alloc W (Obj.cells #[] 53) (some g)).andThen hend1.grown (fun k hk => by simp at hk; omega))
        have hzz : W.heap.size + 1 ≤ w1.heap.size := by simpa using hend1.grown.size
        have hg1 : W.heap.size ≤ g1 := by
          rcases hend1.at_ with h | h
          · omega
          · simp at h; omega
        have hg1' := hend1.lt
        have hjc : j ≤ cap := by omega
        have hg1n : g1 ≠ g := by omega
        have hlen1 : Hid (j = (es.take j).length) := by show _ = _; have := HN.out; simp; omega
        have hlen2 : Hid (n - j = (es.drop j).length) := by show _ = _; have := HN.out; simp; omega
        have hzw : w.heap.size + 2 ≤ w1.heap.size := by omega
        clear hend1 hWsz
        go_wp2_with fail
        go_region_law (first
          | ((refine step_app_ents _ rfl (.tmp 30) (.tmp 32) rfl B g j cap (es.take j) [x] hlen1.out (OwnEnts.of_heap rfl (World.ownsRow.alloc HL.out _)) ⟨w1.heap.size, 0, none⟩ 1 1 rfl (by simp [Act.eval]) (by simp [Act.eval]) (fun i u hu => two_at hu) (by omega) (by simp; omega) ?_; intro g2 cap2 w2 hend2))
          | ((refine step_app_ents _ rfl (.tmp 33) (.tmp 34) rfl B g2 (j + 1) cap2 (es.take j ++ [x]) (es.drop j) (put_len hlen1.out) (OwnEnts.of_heap rfl hend2.own) ⟨g1, 0, none⟩ (n - j) cap1 hlen2.out (by simp [Act.eval]) (by simp [Act.eval]) (put_news hend2.grown hg1n (OwnEnts.of_heap rfl (World.ownsRow.alloc HT.out (Obj.cells #[.string x.name, .int .i64 x.id] 53)))) (by omega) (by have := hend2.grown.size; simp at this; simp; omega) ?_; intro g3 cap3 w3 hend3)))
        all_goals
          go_wp2_with fail
          go_ret
          exact put_end HP.out (by omega) hG1.out hzw hend2 hend3
      · have t1 : Op.bytesLess e.name.toList x.name.toList = true := hq
        go_wp2_with fail
        go_quiet (fail)
        go_wp2_with fail
        go_roundg (n - (j + 1))
        case measure => have := hk.out; omega
        case rel =>
          refine ⟨j + 1, by omega, rfl, by go_num, fun i hi => ?_, by obtain ⟨m, hm⟩ := hwr.out; exact ⟨m + nq, by rw [hm, World.drewN_drewN]⟩⟩
          rcases Nat.lt_or_ge i j with h | h
          · exact hless.out i h
          · obtain rfl : i = j := by omega
            exact ⟨e, HE.out, hq⟩
    · have hlt3 : decide (j < n) = false := by simpa using hlt
      by_cases hcj : j = cap
      · subst hcj
        have HLT : Hid (¬ j < n) := hlt
        clear hlt hcap
        have HP : Hid (placeL x.name es = j) := placeL_at hless.out (.inl (by have := HN.out; have := HLT.out; omega))
        go_wp2_with fail
        go_quiet (fail)
        obtain ⟨W, hW⟩ : ∃ W, Hid (W = wr.drewN nq) := ⟨_, rfl⟩
        rw [← hW.out]
        have HWsz : Hid (W.heap.size = w.heap.size + 1) := by show _ = _; rw [hW.out]; obtain ⟨m, hm⟩ := hwr.out; rw [hm]; simp
        have hW0 : W.cell? ⟨w.heap.size, 0, none⟩ = some (.string x.name) := by rw [hW.out]; obtain ⟨m, hm⟩ := hwr.out; rw [hm]; show World.cell? (w.alloc _) _ = _; simp [go_sem]
        have hW1 : W.cell? ⟨w.heap.size, 1, none⟩ = some (.int .i64 x.id) := by rw [hW.out]; obtain ⟨m, hm⟩ := hwr.out; rw [hm]; show World.cell? (w.alloc _) _ = _; simp [go_sem]
        have hWg : Hid (w.grownBy W (some g)) := by
          show World.grownBy _ _ _
          rw [hW.out]; obtain ⟨m, hm⟩ := hwr.out; rw [hm]
          exact ⟨rfl, rfl, rfl, by simp, fun k hk _ => (World.grownBy_alloc w _ none).block k hk (by simp)⟩
        have HOW : Hid (OwnEnts W B (.slice (some ⟨g, 0, none⟩) n j) es) := by
          show OwnEnts _ _ _ _
          rw [hW.out]; obtain ⟨m, hm⟩ := hwr.out; rw [hm]
          exact World.ownsRow.alloc HO.out _
        -- the two appends
        go_wp2_with (first
          | (at_builtin; refine wpList_app_ents _ rfl _ _ rfl W.heap.size W.heap.size 0 0 [] (es.drop j) rfl (OwnEnts.empty W _ (Nat.le_refl _)) _ (n - j) _ (by rw [List.length_drop, HN.out]) rfl rfl ?c1 ?c2 ?c3 ?_)
          | go_in)
        case c1 => intro i u hu; rw [List.drop_of_length_le (by have := HN.out; have := HLT.out; omega)] at hu; simp [entCells] at hu
        case c2 => omega
        case c3 => simp
        intro g1 cap1 w1 hend1
        have hWsz := HWsz.out
        have HT : Hid (OwnEnts w1 W.heap.size (.slice (some ⟨g1, 0, none⟩) (n - j) cap1) (es.drop j)) := by show OwnEnts _ _ _ _; simpa using hend1.own
        have HL : Hid (OwnEnts w1 B (.slice (some ⟨g, 0, none⟩) j j) (es.take j)) := ((HOW.out.grown (World.grownBy_alloc W _ none) (by simp)).grown hend1.grown (by simp; omega)).cut HN.out hj
        have hbx0 : w1.cell? ⟨w.heap.size, 0, none⟩ = some (.string x.name) := by
          rw [hend1.grown.cell_far _ (by simp; omega) (by simp; omega), (World.grownBy_alloc W _ none).cell_far _ (by simp; omega) (by simp)]; exact hW0
        have hbx1 : w1.cell? ⟨w.heap.size, 1, none⟩ = some (.int .i64 x.id) := by
          rw [hend1.grown.cell_far _ (by simp; omega) (by simp; omega), (World.grownBy_alloc W _ none).cell_far _ (by simp; omega) (by simp)]; exact hW1
        have hG1 : Hid (w.grownBy w1 (some g)) := hWg.out.trans ((World.grownBy_alloc W (Obj.cells #[] 53) (some g)).andThen hend1.grown (fun k hk => by simp at hk; omega))
        have hzz : W.heap.size + 1 ≤ w1.heap.size := by simpa using hend1.grown.size
        have hg1 : W.heap.size ≤ g1 := by
          rcases hend1.at_ with h | h
          · omega
          · simp at h; omega
        have hg1' := hend1.lt
        have hjc : j ≤ j := by omega
        have hg1n : g1 ≠ g := by omega
        have hlen1 : Hid (j = (es.take j).length) := by show _ = _; have := HN.out; simp; omega
        have hlen2 : Hid (n - j = (es.drop j).length) := by show _ = _; have := HN.out; simp; omega
        have hzw : w.heap.size + 2 ≤ w1.heap.size := by omega
        clear hend1 hWsz
        go_wp2_with fail
        go_region_law (first
          | ((refine step_app_ents _ rfl (.tmp 30) (.tmp 32) rfl B g j j (es.take j) [x] hlen1.out (OwnEnts.of_heap rfl (World.ownsRow.alloc HL.out _)) ⟨w1.heap.size, 0, none⟩ 1 1 rfl (by simp [Act.eval]) (by simp [Act.eval]) (fun i u hu => two_at hu) (by omega) (by simp; omega) ?_; intro g2 cap2 w2 hend2))
          | ((refine step_app_ents _ rfl (.tmp 33) (.tmp 34) rfl B g2 (j + 1) cap2 (es.take j ++ [x]) (es.drop j) (put_len hlen1.out) (OwnEnts.of_heap rfl hend2.own) ⟨g1, 0, none⟩ (n - j) cap1 hlen2.out (by simp [Act.eval]) (by simp [Act.eval]) (put_news hend2.grown hg1n (OwnEnts.of_heap rfl (World.ownsRow.alloc HT.out (Obj.cells #[.string x.name, .int .i64 x.id] 53)))) (by omega) (by have := hend2.grown.size; simp at this; simp; omega) ?_; intro g3 cap3 w3 hend3)))
        all_goals
          go_wp2_with fail
          go_ret
          exact put_end HP.out (by omega) hG1.out hzw hend2 hend3
      · have HP : Hid (placeL x.name es = j) := placeL_at hless.out (.inl (by have := HN.out; omega))
        go_wp2_with fail
        go_quiet (fail)
        obtain ⟨W, hW⟩ : ∃ W, Hid (W = wr.drewN nq) := ⟨_, rfl⟩
        rw [← hW.out]
        have HWsz : Hid (W.heap.size = w.heap.size + 1) := by show _ = _; rw [hW.out]; obtain ⟨m, hm⟩ := hwr.out; rw [hm]; simp
        have hW0 : W.cell? ⟨w.heap.size, 0, none⟩ = some (.string x.name) := by rw [hW.out]; obtain ⟨m, hm⟩ := hwr.out; rw [hm]; show World.cell? (w.alloc _) _ = _; simp [go_sem]
        have hW1 : W.cell? ⟨w.heap.size, 1, none⟩ = some (.int .i64 x.id) := by rw [hW.out]; obtain ⟨m, hm⟩ := hwr.out; rw [hm]; show World.cell? (w.alloc _) _ = _; simp [go_sem]
        have hWg : Hid (w.grownBy W (some g)) := by
          show World.grownBy _ _ _
          rw [hW.out]; obtain ⟨m, hm⟩ := hwr.out; rw [hm]
          exact ⟨rfl, rfl, rfl, by simp, fun k hk _ => (World.grownBy_alloc w _ none).block k hk (by simp)⟩
        have HOW : Hid (OwnEnts W B (.slice (some ⟨g, 0, none⟩) n cap) es) := by
          show OwnEnts _ _ _ _
          rw [hW.out]; obtain ⟨m, hm⟩ := hwr.out; rw [hm]
          exact World.ownsRow.alloc HO.out _
        -- the two appends
        go_wp2_with (first
          | (at_builtin; refine wpList_app_ents _ rfl _ _ rfl W.heap.size W.heap.size 0 0 [] (es.drop j) rfl (OwnEnts.empty W _ (Nat.le_refl _)) ⟨g, j * 2, none⟩ (n - j) (cap - j) (by rw [List.length_drop, HN.out]) rfl rfl ?c1 ?c2 ?c3 ?_)
          | go_in)
        case c1 => intro i u hu; rw [List.drop_of_length_le (by have := HN.out; omega)] at hu; simp [entCells] at hu
        case c2 => omega
        case c3 => simp
        intro g1 cap1 w1 hend1
        have hWsz := HWsz.out
        have HT : Hid (OwnEnts w1 W.heap.size (.slice (some ⟨g1, 0, none⟩) (n - j) cap1) (es.drop j)) := by show OwnEnts _ _ _ _; simpa using hend1.own
        have HL : Hid (OwnEnts w1 B (.slice (some ⟨g, 0, none⟩) j cap) (es.take j)) := ((HOW.out.grown (World.grownBy_alloc W _ none) (by simp)).grown hend1.grown (by simp; omega)).cut HN.out hj
        have hbx0 : w1.cell? ⟨w.heap.size, 0, none⟩ = some (.string x.name) := by
          rw [hend1.grown.cell_far _ (by simp; omega) (by simp; omega), (World.grownBy_alloc W _ none).cell_far _ (by simp; omega) (by simp)]; exact hW0
        have hbx1 : w1.cell? ⟨w.heap.size, 1, none⟩ = some (.int .i64 x.id) := by
          rw [hend1.grown.cell_far _ (by simp; omega) (by simp; omega), (World.grownBy_alloc W _ none).cell_far _ (by simp; omega) (by simp)]; exact hW1
        have hG1 : Hid (w.grownBy w1 (some g)) := hWg.out.trans ((World.grownBy_alloc W (Obj.cells #[] 53) (some g)).andThen hend1.grown (fun k hk => by simp at hk; omega))
        have hzz : W.heap.size + 1 ≤ w1.heap.size := by simpa using hend1.grown.size
        have hg1 : W.heap.size ≤ g1 := by
          rcases hend1.at_ with h | h
          · omega
          · simp at h; omega
        have hg1' := hend1.lt
        have hjc : j ≤ cap := by omega
        have hg1n : g1 ≠ g := by omega
        have hlen1 : Hid (j = (es.take j).length) := by show _ = _; have := HN.out; simp; omega
        have hlen2 : Hid (n - j = (es.drop j).length) := by show _ = _; have := HN.out; simp; omega
        have hzw : w.heap.size + 2 ≤ w1.heap.size := by omega
        clear hend1 hWsz
        go_wp2_with fail
        go_region_law (first
          | ((refine step_app_ents _ rfl (.tmp 30) (.tmp 32) rfl B g j cap (es.take j) [x] hlen1.out (OwnEnts.of_heap rfl (World.ownsRow.alloc HL.out _)) ⟨w1.heap.size, 0, none⟩ 1 1 rfl (by simp [Act.eval]) (by simp [Act.eval]) (fun i u hu => two_at hu) (by omega) (by simp; omega) ?_; intro g2 cap2 w2 hend2))
          | ((refine step_app_ents _ rfl (.tmp 33) (.tmp 34) rfl B g2 (j + 1) cap2 (es.take j ++ [x]) (es.drop j) (put_len hlen1.out) (OwnEnts.of_heap rfl hend2.own) ⟨g1, 0, none⟩ (n - j) cap1 hlen2.out (by simp [Act.eval]) (by simp [Act.eval]) (put_news hend2.grown hg1n (OwnEnts.of_heap rfl (World.ownsRow.alloc HT.out (Obj.cells #[.string x.name, .int .i64 x.id] 53)))) (by omega) (by have := hend2.grown.size; simp at this; simp; omega) ?_; intro g3 cap3 w3 hend3)))
        all_goals
          go_wp2_with fail
          go_ret
          exact put_end HP.out (by omega) hG1.out hzw hend2 hend3
end Go.Proofs.YtnolbfijcnldjaaGreatDoor

/- A tree in memory of the call's own; counting a turn. -/
namespace Go.Proofs.YtnolbfijcnldjaaGreatDoor
open Go.RowKit

structure OwnT (w : World) (B b c : Nat) (os : List LObj) (vs : Nat → Value) : Prop where
  lo : B ≤ b
  row : ∃ cur, w.heap[b]? = some (.cells cur 38 (0, 0)) ∧ cur.size = c * 4 ∧ os.length ≤ c ∧ c ≤ maxLen
  at_ : ∀ i o, os[i]? = some o → o.text.size ≤ maxLen ∧ w.cell? ⟨b, i * 4, none⟩ = some (.int .i64 o.kind) ∧ w.cell? ⟨b, i * 4 + 1, none⟩ = some (.int .i64 o.ver) ∧ w.cell? ⟨b, i * 4 + 2, none⟩ = some (.string o.text) ∧ w.cell? ⟨b, i * 4 + 3, none⟩ = some (vs i) ∧ OwnEnts w B (vs i) o.kids ∧ ∀ e ∈ o.kids, e.name.size ≤ maxLen
  apart : ∀ i j g, i < os.length → j < os.length → i ≠ j → (vs i).ownBlock = some g → (vs j).ownBlock ≠ some g

theorem OwnT.lt {w : World} {B b c : Nat} {os : List LObj} {vs : Nat → Value} (h : OwnT w B b c os vs) : b < w.heap.size := by
  obtain ⟨cur, hg, _⟩ := h.row
  exact (Array.getElem?_eq_some_iff.1 hg).1
theorem OwnT.frozen {w : World} {B b c : Nat} {os : List LObj} {vs : Nat → Value} (h : OwnT w B b c os vs) (k : Nat) : w.frozen? ⟨b, k, none⟩ = false := by
  obtain ⟨cur, hg, _⟩ := h.row
  exact frozen_of_row w b k cur 38 hg
theorem OwnT.to_objs {w : World} {B b c : Nat} {os : List LObj} {vs : Nat → Value} (h : OwnT w B b c os vs) : ObjsAt w B w.heap.size (some ⟨b, 0, none⟩) os.length os := by
  obtain ⟨cur, hg, hcs, hlc, hcm⟩ := h.row
  refine ⟨rfl, by omega, fun _ => ⟨b, 0, rfl, h.lo, h.lt, fun i hi => ?_⟩⟩
  have ho : os[i]? = some os[i] := by simp [hi]
  obtain ⟨h1, h2, h3, h4, h5, h6, h7⟩ := h.at_ i _ ho
  obtain ⟨ka, kc, hv, hents⟩ := h6.at_ h7
  refine ⟨os[i], ka, os[i].kids.length, kc, ho, h1, by simpa using h2, by simpa using h3, by simpa using h4, ?_, hents⟩
  rw [← hv]; simpa using h5
/-- The names of an object are in another block than the objects. -/
theorem OwnT.kids_ne {w : World} {B b c : Nat} {os : List LObj} {vs : Nat → Value} (h : OwnT w B b c os vs) {v : Value} {es : List LEnt} (ho : OwnEnts w B v es) : v.ownBlock ≠ some b := by
  intro hv
  obtain ⟨cur, hg, _⟩ := h.row
  rcases ho.2 with ⟨rfl, _⟩ | ⟨g, cap, cur', rfl, _, hg', _⟩
  · simp [Value.ownBlock] at hv
  · simp [Value.ownBlock] at hv
    subst hv
    rw [hg] at hg'
    simp at hg'
theorem kept_set {w : World} {B b k : Nat} {u v : Value} {es : List LEnt} (h : OwnEnts w B v es) (hne : v.ownBlock ≠ some b) : OwnEnts (w.setCell ⟨b, k, none⟩ u) B v es :=
  World.ownsRow.kept h (row := some b) ⟨rfl, rfl, rfl, by simp, fun i _ hi => Below.heap_setCell w ⟨b, k, none⟩ u i (by intro e; exact hi (by simp [e]))⟩ (.inr hne)
theorem OwnT.setKind {w : World} {B b c : Nat} {os : List LObj} {vs : Nat → Value} (h : OwnT w B b c os vs) {i : Nat} {o : LObj} (ho : os[i]? = some o) (z : Int) : OwnT (w.setCell ⟨b, i * 4, none⟩ (.int .i64 z)) B b c (os.set i { o with kind := z }) vs := by
  obtain ⟨cur, hg, hcs, hlc, hcm⟩ := h.row
  refine ⟨h.lo, ⟨_, heap_setCell_same w b (i * 4) cur 38 _ hg, by simpa using hcs, by simpa using hlc, hcm⟩, fun j p hp => ?_, fun j k g hj hk => h.apart j k g (by simpa using hj) (by simpa using hk)⟩
  by_cases hji : j = i
  · subst hji
    have hlt : j < os.length := (List.getElem?_eq_some_iff.1 ho).1
    rw [List.getElem?_set_self hlt] at hp
    simp at hp; subst hp
    obtain ⟨h1, h2, h3, h4, h5, h6, h7⟩ := h.at_ j o ho
    refine ⟨h1, ?_, ?_, ?_, ?_, kept_set h6 (h.kids_ne h6), h7⟩
    · rw [World.cell?_setCell_same _ _ _ h2]
    · rw [World.cell?_setCell_other _ _ _ _ (by simp)]; exact h3
    · rw [World.cell?_setCell_other _ _ _ _ (by simp)]; exact h4
    · rw [World.cell?_setCell_other _ _ _ _ (by simp)]; exact h5
  · rw [List.getElem?_set_ne (Ne.symm hji)] at hp
    obtain ⟨h1, h2, h3, h4, h5, h6, h7⟩ := h.at_ j p hp
    refine ⟨h1, ?_, ?_, ?_, ?_, kept_set h6 (h.kids_ne h6), h7⟩ <;> (rw [World.cell?_setCell_other _ _ _ _ (by simp <;> omega)]; assumption)
theorem OwnT.setVer {w : World} {B b c : Nat} {os : List LObj} {vs : Nat → Value} (h : OwnT w B b c os vs) {i : Nat} {o : LObj} (ho : os[i]? = some o) (z : Int) : OwnT (w.setCell ⟨b, i * 4 + 1, none⟩ (.int .i64 z)) B b c (os.set i { o with ver := z }) vs := by
  obtain ⟨cur, hg, hcs, hlc, hcm⟩ := h.row
  refine ⟨h.lo, ⟨_, heap_setCell_same w b (i * 4 + 1) cur 38 _ hg, by simpa using hcs, by simpa using hlc, hcm⟩, fun j p hp => ?_, fun j k g hj hk => h.apart j k g (by simpa using hj) (by simpa using hk)⟩
  by_cases hji : j = i
  · subst hji
    have hlt : j < os.length := (List.getElem?_eq_some_iff.1 ho).1
    rw [List.getElem?_set_self hlt] at hp
    simp at hp; subst hp
    obtain ⟨h1, h2, h3, h4, h5, h6, h7⟩ := h.at_ j o ho
    refine ⟨h1, ?_, ?_, ?_, ?_, kept_set h6 (h.kids_ne h6), h7⟩
    · rw [World.cell?_setCell_other _ _ _ _ (by simp)]; exact h2
    · rw [World.cell?_setCell_same _ _ _ h3]
    · rw [World.cell?_setCell_other _ _ _ _ (by simp)]; exact h4
    · rw [World.cell?_setCell_other _ _ _ _ (by simp)]; exact h5
  · rw [List.getElem?_set_ne (Ne.symm hji)] at hp
    obtain ⟨h1, h2, h3, h4, h5, h6, h7⟩ := h.at_ j p hp
    refine ⟨h1, ?_, ?_, ?_, ?_, kept_set h6 (h.kids_ne h6), h7⟩ <;> (rw [World.cell?_setCell_other _ _ _ _ (by simp <;> omega)]; assumption)
theorem OwnT.setText {w : World} {B b c : Nat} {os : List LObj} {vs : Nat → Value} (h : OwnT w B b c os vs) {i : Nat} {o : LObj} (ho : os[i]? = some o) (z : ByteArray) (hz : z.size ≤ maxLen) : OwnT (w.setCell ⟨b, i * 4 + 2, none⟩ (.string z)) B b c (os.set i { o with text := z }) vs := by
  obtain ⟨cur, hg, hcs, hlc, hcm⟩ := h.row
  refine ⟨h.lo, ⟨_, heap_setCell_same w b (i * 4 + 2) cur 38 _ hg, by simpa using hcs, by simpa using hlc, hcm⟩, fun j p hp => ?_, fun j k g hj hk => h.apart j k g (by simpa using hj) (by simpa using hk)⟩
  by_cases hji : j = i
  · subst hji
    have hlt : j < os.length := (List.getElem?_eq_some_iff.1 ho).1
    rw [List.getElem?_set_self hlt] at hp
    simp at hp; subst hp
    obtain ⟨h1, h2, h3, h4, h5, h6, h7⟩ := h.at_ j o ho
    refine ⟨hz, ?_, ?_, ?_, ?_, kept_set h6 (h.kids_ne h6), h7⟩
    · rw [World.cell?_setCell_other _ _ _ _ (by simp)]; exact h2
    · rw [World.cell?_setCell_other _ _ _ _ (by simp)]; exact h3
    · rw [World.cell?_setCell_same _ _ _ h4]
    · rw [World.cell?_setCell_other _ _ _ _ (by simp)]; exact h5
  · rw [List.getElem?_set_ne (Ne.symm hji)] at hp
    obtain ⟨h1, h2, h3, h4, h5, h6, h7⟩ := h.at_ j p hp
    refine ⟨h1, ?_, ?_, ?_, ?_, kept_set h6 (h.kids_ne h6), h7⟩ <;> (rw [World.cell?_setCell_other _ _ _ _ (by simp <;> omega)]; assumption)

/-- What is in another block than one's own stays. -/
theorem OwnT.grown {w w' : World} {B b c : Nat} {os : List LObj} {vs : Nat → Value} (h : OwnT w B b c os vs) {row : Option Nat} (hg : w.grownBy w' row) (hb : some b ≠ row) (hv : ∀ i, i < os.length → (vs i).ownBlock = none ∨ (vs i).ownBlock ≠ row) : OwnT w' B b c os vs := by
  obtain ⟨cur, hr, hcs, hlc, hcm⟩ := h.row
  refine ⟨h.lo, ⟨cur, by rw [hg.block b h.lt hb]; exact hr, hcs, hlc, hcm⟩, fun i o ho => ?_, h.apart⟩
  obtain ⟨h1, h2, h3, h4, h5, h6, h7⟩ := h.at_ i o ho
  have hlt : i < os.length := (List.getElem?_eq_some_iff.1 ho).1
  refine ⟨h1, ?_, ?_, ?_, ?_, World.ownsRow.kept h6 hg (hv i hlt), h7⟩ <;> (rw [hg.cell_far _ h.lt hb]; assumption)
theorem OwnT.alloc {w : World} {B b c : Nat} {os : List LObj} {vs : Nat → Value} (h : OwnT w B b c os vs) (o : Obj) : OwnT (w.alloc o) B b c os vs :=
  h.grown (World.grownBy_alloc w o none) (by simp) fun i _ => by cases hv : (vs i).ownBlock <;> simp
theorem OwnT.of_heap {w w' : World} {B b c : Nat} {os : List LObj} {vs : Nat → Value} (hh : w'.heap = w.heap) (h : OwnT w B b c os vs) : OwnT w' B b c os vs := by
  refine ⟨h.lo, by rw [hh]; exact h.row, fun i o ho => ?_, h.apart⟩
  obtain ⟨h1, h2, h3, h4, h5, h6, h7⟩ := h.at_ i o ho
  have hc : ∀ a, w'.cell? a = w.cell? a := fun a => World.cell?_of_block (by rw [hh])
  exact ⟨h1, by rw [hc]; exact h2, by rw [hc]; exact h3, by rw [hc]; exact h4, by rw [hc]; exact h5, OwnEnts.of_heap hh h6, h7⟩

/-- What l3Turn leaves. -/
def TurnEnd (w : World) (B b c i : Nat) (o : LObj) (os : List LObj) (vs : Nat → Value) (e : Ending) (w' : World) : Prop :=
  e = .returned (.agg #[.slice (some ⟨b, 0, none⟩) os.length c]) ∧ OwnT w' B b c (os.set i { o with ver := o.ver + 1 }) vs ∧ w.grownBy w' (some b)

set_option maxHeartbeats 1000000 in
theorem turn_any (B b c i : Nat) (o : LObj) (os : List LObj) (vs : Nat → Value) (n : Nat) (id : Int) (w : World) (hi : id = i) (hn : n = os.length) (ho : os[i]? = some o) (hv0 : -1000000000 ≤ o.ver) (hv1 : o.ver ≤ 1000000000) (H : OwnT w B b c os vs) :
    Calls Tryz.prog 123 #[.agg #[.slice (some ⟨b, 0, none⟩) n c], .int .i64 id] w fun e w' => TurnEnd w B b c i o os vs e w' := by
  have HI : Hid (id = i) := hi
  have HN : Hid (n = os.length) := hn
  have HO : Hid (os[i]? = some o) := ho
  have hlt : i < n := by rw [hn]; exact (List.getElem?_eq_some_iff.1 ho).1
  have hbl := H.lt
  have hc1 : w.cell? ⟨b, i * 4 + 1, none⟩ = some (.int .i64 o.ver) := (H.at_ i o ho).2.2.1
  have hf1 : w.frozen? ⟨b, i * 4 + 1, none⟩ = false := H.frozen _
  clear ho hn
  subst hi
  have hlt' : (i : Int) < (n : Int) := by omega
  have hlt0 : (0 : Int) ≤ (i : Int) := by omega
  go_enter Tryz.func123, Tryz.ntmps123
  go_wp2_with fail
  go_region
  all_goals
    go_wp2_with fail
    refine bodyPost_ret (v := .agg #[.slice (some ⟨b, 0, none⟩) n c]) (by simp [results, Tryz.results123, go_sem]) rfl ⟨by rw [← HN.out], OwnT.of_heap (by rfl) (((H.setVer HO.out (o.ver + 1)).alloc (Obj.cells #[.slice (some ⟨b, 0, none⟩) n c] 25)).alloc (Obj.cells #[.slice (some ⟨b, 0, none⟩) n c] 25)), ⟨rfl, rfl, rfl, by simp; omega, fun k hk hne => ?_⟩⟩
    have e1 : (w.setCell ⟨b, i * 4 + 1, none⟩ (Value.int IntKind.i64 (o.ver + 1))).heap[k]? = w.heap[k]? := Below.heap_setCell w ⟨b, i * 4 + 1, none⟩ _ k (by intro e; exact hne (by simp [e]))
    rw [← e1]
    exact (((World.grownBy_alloc _ _ none).block k (by simp; omega) (by simp)).trans ((World.grownBy_alloc _ _ none).block k (by simpa using hk) (by simp)))
end Go.Proofs.YtnolbfijcnldjaaGreatDoor
