/- Names of a directory in memory of the call's own; taking a name out. -/
import Derived.Test.YtdjffkiiglilnaaDrawers
namespace Go.Proofs.Ytdjffkiiglilnaa
open Go.RowKit

def entCells (es : List LEnt) : List Value := es.flatMap fun e => [.string e.name, .int .i64 e.id]
theorem entCells_len (es : List LEnt) : (entCells es).length = es.length * 2 := by
  induction es with
  | nil => rfl
  | cons e r ih => simp only [entCells, List.flatMap_cons, List.length_append, List.length_cons, List.length_nil] at ih ⊢; omega
theorem entCells_app (es fs : List LEnt) : entCells (es ++ fs) = entCells es ++ entCells fs := by simp [entCells]
theorem entCells_at : ∀ (es : List LEnt) (i : Nat) (e : LEnt), es[i]? = some e → (entCells es)[i * 2]? = some (.string e.name) ∧ (entCells es)[i * 2 + 1]? = some (.int .i64 e.id)
  | [], i, e, h => by simp at h
  | x :: r, 0, e, h => by simp at h; subst h; simp [entCells]
  | x :: r, i + 1, e, h => by
    have ih := entCells_at r i e (by simpa using h)
    have e1 : entCells (x :: r) = [.string x.name, .int .i64 x.id] ++ entCells r := rfl
    rw [e1, List.getElem?_append_right (by simp; omega), List.getElem?_append_right (by simp; omega)]
    have a1 : (i + 1) * 2 - 2 = i * 2 := by omega
    have a2 : (i + 1) * 2 + 1 - 2 = i * 2 + 1 := by omega
    simpa [a1, a2] using ih
/-- A slice of names that the call owns. -/
def OwnEnts (w : World) (B : Nat) (v : Value) (es : List LEnt) : Prop := w.ownsRow B 137 2 v es.length (entCells es)
def outL (name : ByteArray) (es : List LEnt) : List LEnt := es.filter fun e => !(e.name.toList == name.toList)
theorem outL_le (name : ByteArray) (es : List LEnt) : (outL name es).length ≤ es.length := List.length_filter_le _ _
theorem info47' : (Try.prog.info? 137).map (fun i => (i.zero, i.size, i.bytes)) = some (some (.agg #[.string ⟨#[]⟩, .int .i64 0]), 2, 24) := by kernel_rfl
theorem OwnEnts.at_ {w : World} {B : Nat} {v : Value} {es : List LEnt} (h : OwnEnts w B v es) (hn : ∀ e ∈ es, e.name.size ≤ maxLen) : ∃ a c, v = .slice a es.length c ∧ EntsAt w B w.heap.size a es.length es := by
  by_cases h0 : es.length = 0
  · obtain rfl : es = [] := List.eq_nil_of_length_eq_zero h0
    rcases h.2 with ⟨rfl, _⟩ | ⟨g, cap, cur, rfl, _⟩
    · exact ⟨_, _, rfl, rfl, by simp [maxLen], fun hn => absurd rfl hn⟩
    · exact ⟨_, _, rfl, rfl, by simp [maxLen], fun hn => absurd rfl hn⟩
  · obtain ⟨g, c, rfl, hb, hlt⟩ := World.ownsRow.form h (by omega)
    have hbd : es.length ≤ maxLen := by
      rcases h.2 with ⟨h', _⟩ | ⟨g', cap', cur, h', _, _, hnc, hcm, _⟩
      · simp at h'
      · omega
    refine ⟨_, _, rfl, rfl, hbd, fun _ => ⟨g, 0, rfl, hb, hlt, fun i hi => ⟨es[i], by simp [hi], hn _ (List.getElem_mem hi), ?_, ?_⟩⟩⟩
    · have := World.ownsRow.cellAt h (i * 2) (by omega)
      rw [Nat.zero_add, this]
      exact (entCells_at es i es[i] (by simp [hi])).1
    · have := World.ownsRow.cellAt h (i * 2 + 1) (by omega)
      rw [Nat.zero_add, this]
      exact (entCells_at es i es[i] (by simp [hi])).2
theorem two_at {w : World} {u v0 v1 : Value} {t : TypeId} {i : Nat} (h : [v0, v1][i]? = some u) : (w.alloc (Obj.cells #[v0, v1] t)).cell? ((⟨w.heap.size, 0, none⟩ : Addr).add i) = some u := by
  match i, h with
  | 0, h => simp at h; subst h; simp [Addr.add]
  | 1, h => simp at h; subst h; simp [Addr.add]
theorem outL_take_yes {name : ByteArray} {es : List LEnt} {k : Nat} {e : LEnt} (h : es[k]? = some e) (hb : (e.name.toList == name.toList) = false) : outL name (es.take (k + 1)) = outL name (es.take k) ++ [e] := by
  simp [outL, List.take_add_one, h, List.filter_append, hb]
theorem outL_take_no {name : ByteArray} {es : List LEnt} {k : Nat} {e : LEnt} (h : es[k]? = some e) (hb : (e.name.toList == name.toList) = true) : outL name (es.take (k + 1)) = outL name (es.take k) := by
  simp [outL, List.take_add_one, h, List.filter_append, hb]
theorem keepEnts {wr w0 w1 : World} {B : Nat} {u v' : Value} {l : List LEnt} {e : LEnt} {o1 : Obj} (hown : Hid (OwnEnts wr B u l)) (hb : Below B w0 wr) (hsz : B ≤ wr.heap.size)
    (hown' : w1.ownsRow B 137 2 v' (l.length + 1) (entCells l ++ [Value.string e.name, Value.int .i64 e.id])) (hgrow : (wr.alloc o1).grownBy w1 u.ownBlock) :
    OwnEnts w1 B v' (l ++ [e]) ∧ Below B w0 w1 := by
  have hr : ∀ k, u.ownBlock = some k → B ≤ k := fun k e => (hown.out.lt k e).1
  have hb1 : Below B wr w1 := below_grown ((Below.refl _ _).alloc (by omega) _) hgrow hr (by simp; omega)
  exact ⟨by unfold OwnEnts; rw [entCells_app, List.length_append]; exact hown', hb.trans hb1⟩

set_option maxHeartbeats 1000000 in
set_option maxRecDepth 20000 in
theorem out_any (a : Option Addr) (n c : Nat) (es : List LEnt) (L U : Nat) (name : ByteArray) (w : World) (hn : n ≤ 1048576) (hU : U ≤ w.heap.size) (H : EntsAt w L U a n es) :
    Calls Try.prog 148 #[.slice a n c, .string name] w fun e w' => (∃ v, e = .returned v ∧ Hid (OwnEnts w' w.heap.size v (outL name es))) ∧ Below w.heap.size w w' := by
  obtain ⟨i0, hi, hz0, hz1, hz2⟩ := info_parts info47'
  go_enter Try.func148, Try.ntmps148
  go_wp2_with fail
  go_loopg [5, 6] n (fun k v i wr => ∃ j : Nat, j ≤ n ∧ Hid (k = n - j) ∧ i = .int .i64 j ∧ Hid (OwnEnts wr w.heap.size v (outL name (es.take j))) ∧ Below w.heap.size w wr)
  case atStart => exact ⟨0, Nat.zero_le _, rfl, rfl, by show OwnEnts _ _ _ _; simpa [OwnEnts, outL, entCells] using World.ownsRow_lit (base := w.heap.size) (e := 137) (size := 2) w #[] 0 (by simp) (by simp [maxLen]) rfl, (Below.refl _ _).alloc (Nat.le_refl _) _⟩
  case round =>
    obtain ⟨j, hj, hk, rfl, hown, hb⟩ := hrel
    have hsz := hb.size
    by_cases hlt : j < n
    · obtain ⟨b, off, ha, hL, hbU, hc⟩ := H.at_ (by omega)
      subst ha
      obtain ⟨e, he, hts, hc0, hc1⟩ := hc j hlt
      rw [← hb.cell (by simp; omega)] at hc0 hc1
      have HE : Hid (es[j]? = some e) := he
      clear he hc
      rcases hq : (e.name.toList == name.toList) with _ | _
      · have HL : Hid (outL name (es.take (j + 1)) = outL name (es.take j) ++ [e]) := outL_take_yes HE.out hq
        have hle : (outL name (es.take j)).length ≤ j := by have := outL_le name (es.take j); simp at this; omega
        go_wp2_with (first
          | (at_builtin; refine wpList_append_own _ rfl _ _ 36 rfl w.heap.size 137 i0 _ 2 24 Try.underlying36 hi hz0 hz1 hz2 rfl (by decide) _ _ _ rfl (hown.out.alloc _) ⟨wr.heap.size, 0, none⟩ 1 1 [.string e.name, .int .i64 e.id] rfl rfl ?c1 ?c2 ?c3 ?c4 ?c5 ?_)
          | go_in)
        case c1 => intro i u hi; exact two_at hi
        case c2 => intro u hu; simp at hu; rcases hu with rfl | rfl <;> rfl
        case c3 => unfold maxLen; omega
        case c4 => omega
        case c5 => simp; omega
        intro v' w1 hown' hgrow _
        have R := keepEnts hown hb hsz hown' hgrow
        clear hown' hgrow hown hb
        go_wp2_with fail
        go_roundg (n - (j + 1))
        case measure => have := hk.out; omega
        case rel => exact ⟨j + 1, by omega, rfl, by go_num, by show OwnEnts _ _ _ _; rw [HL.out]; exact R.1, R.2⟩
      · have HL : Hid (outL name (es.take (j + 1)) = outL name (es.take j)) := outL_take_no HE.out hq
        go_wp2_with fail
        go_roundg (n - (j + 1))
        case measure => have := hk.out; omega
        case rel => exact ⟨j + 1, by omega, rfl, by go_num, by show OwnEnts _ _ _ _; rw [HL.out]; exact hown.out, hb⟩
    · obtain rfl : j = n := by omega
      have hown' := hown.out
      rw [List.take_of_length_le (by have := H.len; omega)] at hown'
      go_wp2_with fail
      go_ret
      exact ⟨⟨_, rfl, hown'⟩, hb⟩
end Go.Proofs.Ytdjffkiiglilnaa
