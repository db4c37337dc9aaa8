/- Lemmas that the proofs of this seat share: InsA, Place, Rop, SlimF, SlimS, SlimS2, SlimS3, SlimS4, SlimS5, SlimI, SlimI2, SlimI3, SlimI4, SlimI5, SlimI6, SlimI7, SlimI8, SlimI9. -/
import Derived.Test.YthdpimkcalmlnaaGreatDoorU08
import Derived.Laws.CopyRow
import Derived.Lib.AppendZerosOnto
import Derived.Lib.Overlaps
import Derived.Lib.Bytealg
import Derived.Lib.Walk
import Derived.Test.YthdpimkcalmlnaaGreatDoorU02
import Derived.Test.YthdpimkcalmlnaaGreatDoorU05
import Derived.Deep.QuietTactic
import Derived.BigQuiet
import Derived.Deep.Upon
import Derived.Deep.DeepCutAuto
import Derived.Deep.RegionHeld
import Derived.OrdersHeld
import Derived.BigRegion
/- Rows of names that are spliced: copy of elements of two cells; the plain lists. -/
namespace Go.Proofs.YthdpimkcalmlnaaGreatDoor
open Go.RowKit

def splice (l : List Value) (o : Nat) (cs : List Value) : List Value := l.take o ++ cs ++ l.drop (o + cs.length)
theorem splice_len (l : List Value) (o : Nat) (cs : List Value) (h : o + cs.length ≤ l.length) : (splice l o cs).length = l.length := by
  simp [splice]; omega
theorem splice_get (l : List Value) (o : Nat) (cs : List Value) (h : o + cs.length ≤ l.length) (j : Nat) : (splice l o cs)[j]? = if j < o then l[j]? else if j < o + cs.length then cs[j - o]? else l[j]? := by
  have h1 : min o l.length = o := by omega
  unfold splice
  by_cases ha : j < o
  · rw [List.append_assoc, List.getElem?_append_left (by simp; omega), if_pos ha, List.getElem?_take, if_pos ha]
  · rw [if_neg ha]
    by_cases hb : j < o + cs.length
    · rw [if_pos hb, List.append_assoc, List.getElem?_append_right (by simp; omega), List.getElem?_append_left (by simp; omega)]
      simp [h1]
    · rw [if_neg hb, List.getElem?_append_right (by simp; omega), List.getElem?_drop]
      congr 1
      simp [h1]
      omega
/-- Shifted up by two, and two put in. -/
theorem splice_shift (l E : List Value) (p : Nat) (u v : Value) (hp : p ≤ E.length) (hl : E.length + 2 ≤ l.length) (hE : l.take E.length = E) :
    (splice (splice l (p + 2) (E.drop p)) p [u, v]).take (E.length + 2) = E.take p ++ [u, v] ++ E.drop p := by
  have hget : ∀ j, j < E.length → l[j]? = E[j]? := fun j hj => by rw [← hE]; simp [hj]
  apply List.ext_getElem?
  intro j
  rw [List.getElem?_take]
  by_cases h0 : j < E.length + 2
  · rw [if_pos h0, splice_get _ _ _ (by rw [splice_len _ _ _ (by simp; omega)]; simp; omega), splice_get _ _ _ (by simp; omega)]
    by_cases h1 : j < p
    · rw [if_pos h1, if_pos (by omega), List.append_assoc, List.getElem?_append_left (by simp; omega), List.getElem?_take, if_pos h1]
      exact hget j (by omega)
    · rw [if_neg h1]
      by_cases h2 : j < p + 2
      · rw [if_pos (by simpa using h2), List.append_assoc, List.getElem?_append_right (by simp; omega), List.getElem?_append_left (by simp; omega)]
        simp [show min p E.length = p by omega]
      · rw [if_neg (by simpa using h2), if_neg h2, if_pos (by simp; omega), List.getElem?_append_right (by simp; omega)]
        congr 1
        simp [show min p E.length = p by omega]
  · rw [if_neg h0]
    symm
    apply List.getElem?_eq_none
    simp; omega
/-- A new row: what was ahead, two, what was behind. -/
theorem splice_new (l E : List Value) (p : Nat) (u v : Value) (hp : p ≤ E.length) (hl : E.length + 2 ≤ l.length) (hE : l.take p = E.take p) :
    (splice (splice l p [u, v]) (p + 2) (E.drop p)).take (E.length + 2) = E.take p ++ [u, v] ++ E.drop p := by
  have hget : ∀ j, j < p → l[j]? = E[j]? := fun j hj => by
    have h1 : (l.take p)[j]? = (E.take p)[j]? := by rw [hE]
    simpa [List.getElem?_take, hj] using h1
  apply List.ext_getElem?
  intro j
  rw [List.getElem?_take]
  by_cases h0 : j < E.length + 2
  · rw [if_pos h0, splice_get _ _ _ (by rw [splice_len _ _ _ (by simp; omega)]; simp; omega), splice_get _ _ _ (by simp; omega)]
    by_cases h1 : j < p
    · rw [if_pos (by omega), if_pos h1, List.append_assoc, List.getElem?_append_left (by simp; omega), List.getElem?_take, if_pos h1]
      exact hget j (by omega)
    · by_cases h2 : j < p + 2
      · rw [if_pos h2, if_neg h1, if_pos (by simpa using h2), List.append_assoc, List.getElem?_append_right (by simp; omega), List.getElem?_append_left (by simp; omega)]
        simp [show min p E.length = p by omega]
      · rw [if_neg h2, if_pos (by simp; omega), List.getElem?_append_right (by simp; omega)]
        congr 1
        simp [show min p E.length = p by omega]
  · rw [if_neg h0]
    symm
    apply List.getElem?_eq_none
    simp; omega

theorem entCells_take (es : List LEnt) (k : Nat) : (entCells es).take (k * 2) = entCells (es.take k) := by
  by_cases hk : k ≤ es.length
  · have e1 : entCells es = entCells (es.take k) ++ entCells (es.drop k) := by rw [← entCells_app, List.take_append_drop]
    rw [e1, List.take_left' (by rw [entCells_len]; simp; omega)]
  · rw [List.take_of_length_le (by rw [entCells_len]; omega), List.take_of_length_le (by omega)]
theorem entCells_drop (es : List LEnt) (k : Nat) : (entCells es).drop (k * 2) = entCells (es.drop k) := by
  by_cases hk : k ≤ es.length
  · have e1 : entCells es = entCells (es.take k) ++ entCells (es.drop k) := by rw [← entCells_app, List.take_append_drop]
    rw [e1, List.drop_left' (by rw [entCells_len]; simp; omega)]
  · rw [List.drop_of_length_le (by rw [entCells_len]; omega), List.drop_of_length_le (by omega)]
    rfl
theorem entCells_ins (es : List LEnt) (k : Nat) (x : LEnt) : (entCells es).take (k * 2) ++ [.string x.name, .int .i64 x.id] ++ (entCells es).drop (k * 2) = entCells (es.take k ++ [x] ++ es.drop k) := by
  rw [entCells_take, entCells_drop, entCells_app, entCells_app]
  simp [entCells]

theorem run_copy_row2 {P : Program} (w : World) (dT sT ty elem : TypeId) (g o dLen dCap : Nat) (a : Addr) (sLen sCap : Nat) (cur : Array Value) (t : TypeId) (cs : List Value)
    (hu : P.underlying dT = some (.slice elem)) (hs : (P.info? elem).map (·.size) = some 2)
    (hg : w.heap[g]? = some (.cells cur t (0, 0))) (hn : cs.length = Nat.min sLen dLen * 2)
    (hsrc : ∀ j v, cs[j]? = some v → w.cell? (a.add j) = some v) (hfit : o + cs.length ≤ cur.size) (h1 : ∀ v ∈ cs, v.oneCell' = true) :
    (Builtin.copy_ #[dT, sT] ty #[.slice (some ⟨g, o, none⟩) dLen dCap, .slice (some a) sLen sCap]).run P w =
      .ok (goInt (Nat.min sLen dLen)) (w.setRow g (splice cur.toList o cs).toArray) := by
  have hl := run_loadCells_list (P := P) w a cs hsrc
  have hst := run_storeCells_at P g o t cs 0 cur w hg (by simpa using hfit) h1
  cases hq : P.info? elem with
  | none => simp [hq] at hs
  | some i =>
    have hi : i.size = 2 := by simpa [hq] using hs
    simp [Builtin.copy_, run_underlying hu, Builtin.lenOf, Builtin.firstCells, sizeOf, typeInfo, hq, hi, ← hn, hl, hst, splice]
theorem wp_copy_run' {P : Program} (w : World) {o : Oper} {a : Act} {K : Act → World → Prop} {Q : Exit → Act → World → Prop} (d s : Operand) (t t' : TypeId)
    (ho : o.op = .call { callee := .builtin .copy, args := #[d, s], argTypes := #[t, t'] }) (v u : Value) (hd : a.eval d = v) (hs : a.eval s = u) {v' : Value} {w' : World}
    (hr : (Builtin.copy_ #[t, t'] o.type #[v, u]).run P w = .ok v' w') (h : K (a.put o.dst v') w') : o.wp P a w K Q := by
  unfold Oper.wp execOp
  simp only [ho, resolve, invoke, builtin, Sem.run_bind, Sem.run_pure, Result.andThen_ok, List.map_toArray, List.map_cons, List.map_nil, hd, hs, hr]
  exact h
theorem wpList_copy_run' {P : Program} (w : World) {ops : Array Oper} {rest : List Oper} {o : Oper} {a : Act} {Q : Exit → Act → World → Prop} (hgd : o.guard = none) (d s : Operand) (t t' : TypeId)
    (ho : o.op = .call { callee := .builtin .copy, args := #[d, s], argTypes := #[t, t'] }) (v u : Value) (hd : a.eval d = v) (hs : a.eval s = u) {v' : Value} {w' : World}
    (hr : (Builtin.copy_ #[t, t'] o.type #[v, u]).run P w = .ok v' w') (h : wpList P ops Q rest (a.put o.dst v') w') : wpList P ops Q (o :: rest) a w :=
  wpList_plain hgd fun _ hK => wp_copy_run' w d s t t' ho v u hd hs hr (hK _ _ h)

theorem setRow_grown {w0 w : World} {g : Nat} {c : Array Value} {row : Option Nat} (h : w0.grownBy w row) (hg : row = some g ∨ w0.heap.size ≤ g) : w0.grownBy (w.setRow g c) row :=
  ⟨h.os, h.tape, h.output, by simpa using h.size, fun k hk hne => by
    rw [setRow_other w g k c (by rcases hg with rfl | hg <;> intro e <;> subst e <;> simp_all <;> omega)]
    exact h.block k hk hne⟩

/-- A row of one's own, its block laid open. -/
theorem OwnEnts.open_ {w : World} {B g n cap : Nat} {es : List LEnt} (h : OwnEnts w B (.slice (some ⟨g, 0, none⟩) n cap) es) : ∃ cur, B ≤ g ∧ w.heap[g]? = some (.cells cur 213 (0, 0)) ∧ n = es.length ∧ n ≤ cap ∧ cap ≤ maxLen ∧ cur.size = cap * 2 ∧ cur.toList.take (n * 2) = entCells es := by
  rcases h.2 with ⟨h', _⟩ | ⟨g', cap', cur, h', hb, hg, hnc, hcm, hcs, htake⟩
  · simp at h'
  · simp only [Value.slice.injEq, Option.some.injEq, Addr.mk.injEq, and_true] at h'
    obtain ⟨rfl, rfl, rfl⟩ := h'
    exact ⟨cur, hb, hg, rfl, hnc, hcm, hcs, htake⟩
theorem OwnEnts.mk_ {w : World} {B g n cap : Nat} {es : List LEnt} {cur : Array Value} (hB : B ≤ g) (hg : w.heap[g]? = some (.cells cur 213 (0, 0))) (hn : n = es.length) (hnc : n ≤ cap) (hcm : cap ≤ maxLen) (hcs : cur.size = cap * 2) (ht : cur.toList.take (n * 2) = entCells es) : OwnEnts w B (.slice (some ⟨g, 0, none⟩) n cap) es := by
  subst hn
  exact ⟨by rw [entCells_len], .inr ⟨g, cap, cur, rfl, hB, hg, hnc, hcm, hcs, ht⟩⟩

/-! The place of a name. -/
def PlaceEnd (es : List LEnt) (name : ByteArray) (e : Ending) : Prop := ∃ (x : Nat) (b : Bool), e = .returned (.tuple #[.int .i64 x, .bool b]) ∧ x ≤ es.length ∧ Low es name x ∧ High es name x
theorem placeL_of {es : List LEnt} {name : ByteArray} {x : Nat} (hx : x ≤ es.length) (hl : Low es name x) (hh : High es name x) : placeL name es = x := by
  induction es generalizing x with
  | nil => simp at hx; subst hx; rfl
  | cons e r ih =>
    by_cases h0 : x = 0
    · subst h0
      have h := hh 0 (Nat.le_refl _) e rfl
      have hn : lessN name e = false := by
        rw [Bool.eq_false_iff]
        intro h1
        unfold lessN at h1
        rw [Go.ByteArray.toList_eq, Go.ByteArray.toList_eq] at h1
        exact h ((cmp_less _ _).2 h1)
      simp [placeL, hn]
    · obtain ⟨y, rfl⟩ : ∃ y, x = y + 1 := ⟨x - 1, by omega⟩
      have h := hl 0 (by omega) e rfl
      have hn : lessN name e = true := by
        unfold lessN
        rw [Go.ByteArray.toList_eq, Go.ByteArray.toList_eq]
        exact (cmp_less _ _).1 h
      have h2 := ih (x := y) (by simpa using hx) (fun i hi e' he => hl (i + 1) (by omega) e' (by simpa using he)) (fun i hi e' he => hh (i + 1) (by omega) e' (by simpa using he))
      simp only [placeL] at h2 ⊢
      simp [hn, h2]
theorem putL_of {es : List LEnt} {x : LEnt} {k : Nat} (hk : k ≤ es.length) (hl : Low es x.name k) (hh : High es x.name k) : putL x es = es.take k ++ [x] ++ es.drop k := by
  unfold putL; rw [placeL_of hk hl hh]
theorem less_self : ∀ a : List UInt8, Op.bytesLess a a = false
  | [] => rfl
  | a :: x => by
    have ih := less_self x
    have h : ¬ a < a := by rw [UInt8.lt_iff_toNat_lt]; omega
    simp [Op.bytesLess, ih, h]
/-- The name that is there is at its place. -/
theorem place_there {es : List LEnt} {name : ByteArray} {x k : Nat} {e : LEnt} (ha : Asc es) (hl : Low es name x) (hh : High es name x) (hk : es[k]? = some e) (hn : e.name = name) : x = k := by
  have hz : ¬ Lib.compareBytes (nm e) name.data.toList < 0 := by
    rw [cmp_less, ← hn]
    intro h
    exact absurd (show Op.bytesLess e.name.data.toList e.name.data.toList = true from h) (by rw [less_self]; simp)
  rcases Nat.lt_trichotomy x k with h | h | h
  · obtain ⟨y, hy⟩ : ∃ y, es[x]? = some y := ⟨es[x]'(by have := (List.getElem?_eq_some_iff.1 hk).1; omega), by simp⟩
    have h1 := ha x k y e h hy hk
    have h2 := hh x (Nat.le_refl _) y hy
    rw [cmp_less, ← hn] at h2
    exact absurd h1 h2
  · exact h
  · exact absurd (hl k h e hk) hz
theorem outL_of {es : List LEnt} {name : ByteArray} {k : Nat} {e : LEnt} (ha : Asc es) (hk : es[k]? = some e) (hn : e.name = name) : outL name es = es.take k ++ es.drop (k + 1) := by
  have hlt := (List.getElem?_eq_some_iff.1 hk).1
  have hne : ∀ i y, es[i]? = some y → i ≠ k → (y.name.toList == name.toList) = false := fun i y hy hik => by
    rw [Go.ByteArray.toList_eq, Go.ByteArray.toList_eq, ← hn]
    rcases Nat.lt_or_gt_of_ne hik with h | h
    · have h1 := ha i k y e h hy hk
      rw [beq_eq_false_iff_ne]
      intro h2
      rw [show nm y = nm e from h2, less_self] at h1
      cases h1
    · have h1 := ha k i e y h hk hy
      rw [beq_eq_false_iff_ne]
      intro h2
      rw [show nm y = nm e from h2, less_self] at h1
      cases h1
  have hsp : es = es.take k ++ e :: es.drop (k + 1) := by
    have h1 : es = es.take k ++ es.drop k := (List.take_append_drop k es).symm
    have h2 : es.drop k = e :: es.drop (k + 1) := by
      rw [List.drop_eq_getElem_cons hlt]
      congr 1
      simpa [hlt] using hk
    rw [← h2]; exact h1
  have hl : outL name (es.take k) = es.take k := List.filter_eq_self.2 fun y hy => by
    obtain ⟨i, hi, rfl⟩ := List.getElem_of_mem hy
    have hi' : i < k := by simp at hi; omega
    have := hne i (es.take k)[i] (by simp [show i < es.length by omega]) (by omega)
    simpa using this
  have hr : outL name (es.drop (k + 1)) = es.drop (k + 1) := List.filter_eq_self.2 fun y hy => by
    obtain ⟨i, hi, rfl⟩ := List.getElem_of_mem hy
    have hi' : k + 1 + i < es.length := by simp at hi; omega
    have := hne (k + 1 + i) (es.drop (k + 1))[i] (by simp [hi']) (by omega)
    simpa using this
  have hm : (e.name.toList == name.toList) = true := by rw [hn]; simp
  calc outL name es = outL name (es.take k ++ e :: es.drop (k + 1)) := by rw [← hsp]
    _ = outL name (es.take k) ++ outL name (e :: es.drop (k + 1)) := by simp [outL, List.filter_append]
    _ = outL name (es.take k) ++ outL name (es.drop (k + 1)) := by
      congr 1
      simp [outL, hm]
    _ = _ := by rw [hl, hr]
end Go.Proofs.YthdpimkcalmlnaaGreatDoor

/- The place of a name in a directory, by the program. -/
namespace Go.Proofs.YthdpimkcalmlnaaGreatDoor
open Go.RowKit

set_option maxHeartbeats 1000000 in
set_option maxRecDepth 100000 in
theorem search2_any (a : Option Addr) (n c : Nat) (es : List LEnt) (L U : Nat) (name : ByteArray) (w : World) (hn : n ≤ 1048576) (ha : Asc es) (hU : U ≤ w.heap.size) (H : EntsAt w L U a n es) :
    Calls Tryz.prog 224 #[.slice a n c, .string name, .func (.func 225) #[] #[]] w fun e w' => PlaceEnd es name e ∧ Below w.heap.size w w' := by
  have HL : Hid (n = es.length) := H.len
  go_enter Tryz.func224, Tryz.ntmps224
  go_wp2_with fail
  go_loopg [9, 10] (n + 1) (fun g i j wr => ∃ x y : Nat, x ≤ y ∧ y ≤ n ∧ Hid (g = y - x + 1) ∧ i = .int .i64 x ∧ j = .int .i64 y ∧ Hid (Low es name x ∧ High es name y) ∧ Below w.heap.size w wr)
  case atStart => exact ⟨0, n, by omega, by omega, by show _ = _; omega, rfl, rfl, ⟨fun i hi => by omega, fun i hi e he => by have := (List.getElem?_eq_some_iff.1 he).1; have := HL.out; omega⟩, Below.refl _ _⟩
  case round =>
    obtain ⟨x, y, hxy, hy, hg, rfl, rfl, hq, hb⟩ := hrel
    by_cases hlt : x < y
    · have hlt' : (x : Int) < (y : Int) := by omega
      obtain ⟨h, hh⟩ : ∃ h : Nat, ((x : Int) + (y : Int)) / 2 = (h : Int) := ⟨(x + y) / 2, by omega⟩
      have hh1 : x ≤ h := by omega
      have hh2 : h < y := by omega
      obtain ⟨b, off, ha', hL, hbU, hc⟩ := H.at_ (by omega)
      subst ha'
      obtain ⟨e, he, hsz, hc0, hc1⟩ := hc h (by omega)
      rw [← hb.cell (by simp; omega)] at hc0 hc1
      have HE : Hid (es[h]? = some e) := he
      clear he hc
      have hhn : (h : Int) < (n : Int) := by omega
      have hh0 : (0 : Int) ≤ (h : Int) := by omega
      go_wp2_with fail
      refine (closure_any _ _ _ _).mono ?_
      rintro z w1 ⟨rfl, rfl⟩
      have hb1 : ∀ o, Below w.heap.size w (wr.alloc o) := fun o => hb.alloc hb.size _
      by_cases hcm : Lib.compareBytes e.name.data.toList name.data.toList < 0
      · have HC : Hid (Lib.compareBytes (nm e) name.data.toList < 0) := hcm
        go_wp2_with fail
        go_roundg (y - (h + 1) + 1)
        case measure => have := hg.out; omega
        case rel => exact ⟨h + 1, y, by omega, by omega, rfl, by go_num, rfl, ⟨low_up ha HE.out HC.out, hq.out.2⟩, hb1 _⟩
      · have HC : Hid (¬ Lib.compareBytes (nm e) name.data.toList < 0) := hcm
        go_wp2_with fail
        go_roundg (h - x + 1)
        case measure => have := hg.out; omega
        case rel => exact ⟨x, h, by omega, by omega, rfl, rfl, rfl, ⟨hq.out.1, high_down ha HE.out (by have := HC.out; omega)⟩, hb1 _⟩
    · have hxy' : x = y := by omega
      subst hxy'
      by_cases hxn : x < n
      · obtain ⟨b, off, ha', hL, hbU, hc⟩ := H.at_ (by omega)
        subst ha'
        obtain ⟨e, he, hsz, hc0, hc1⟩ := hc x hxn
        rw [← hb.cell (by simp; omega)] at hc0 hc1
        have HE : Hid (es[x]? = some e) := he
        clear he hc
        have hxn' : (x : Int) < (n : Int) := by omega
        have hx0 : (0 : Int) ≤ (x : Int) := by omega
        have hb1 : ∀ o, Below w.heap.size w (wr.alloc o) := fun o => hb.alloc hb.size _
        go_wp2_with fail
        refine (closure_any _ _ _ _).mono ?_
        rintro z w1 ⟨rfl, rfl⟩
        by_cases hcm : Lib.compareBytes e.name.data.toList name.data.toList = 0
        · have t1 : (Lib.compareBytes e.name.data.toList name.data.toList == 0) = true := by simpa using hcm
          clear hcm
          go_wp2_with fail
          go_ret2
          exact ⟨⟨x, true, rfl, by have := HL.out; omega, hq.out.1, hq.out.2⟩, hb1 _⟩
        · have t1 : (Lib.compareBytes e.name.data.toList name.data.toList == 0) = false := by simpa using hcm
          clear hcm
          go_wp2_with fail
          go_ret2
          exact ⟨⟨x, false, rfl, by have := HL.out; omega, hq.out.1, hq.out.2⟩, hb1 _⟩
      · have hxn' : ¬ (x : Int) < (n : Int) := by omega
        go_wp2_with fail
        go_ret2
        exact ⟨⟨x, false, rfl, by have := HL.out; omega, hq.out.1, hq.out.2⟩, hb⟩

set_option maxHeartbeats 400000 in
theorem place2_any (a : Option Addr) (n c : Nat) (es : List LEnt) (L U : Nat) (name : ByteArray) (w : World) (hn : n ≤ 1048576) (ha : Asc es) (hU : U ≤ w.heap.size) (H : EntsAt w L U a n es) :
    Calls Tryz.prog 222 #[.slice a n c, .string name] w fun e w' => PlaceEnd es name e ∧ Below w.heap.size w w' := by
  go_enter Tryz.func222, Tryz.ntmps222
  go_wp2_with fail
  refine (search2_any _ _ _ _ L U _ _ hn ha hU H).mono ?_
  rintro z w1 ⟨⟨x, b, rfl, hr⟩, hb⟩
  have HR : Hid (x ≤ es.length ∧ Low es name x ∧ High es name x) := hr
  clear hr
  go_wp2_with fail
  go_ret2
  exact ⟨⟨x, b, rfl, HR.out⟩, hb⟩

end Go.Proofs.YthdpimkcalmlnaaGreatDoor

/- Rows of what is done, of one's own, that grow. -/
namespace Go.Proofs.YthdpimkcalmlnaaGreatDoor
open Go.RowKit

/-- The cells of what is done, one behind the other. -/
def opCells (l : List LOp) : List Value := l.flatMap fun o => o.val.toList
theorem opCells_len (l : List LOp) : (opCells l).length = l.length * 7 := by
  induction l with
  | nil => rfl
  | cons o r ih => simp only [opCells, List.flatMap_cons, List.length_append, List.length_cons] at ih ⊢; rw [ih]; simp [LOp.val]; omega
theorem opCells_app (l r : List LOp) : opCells (l ++ r) = opCells l ++ opCells r := by simp [opCells]
def OwnOps (w : World) (B : Nat) (v : Value) (l : List LOp) : Prop := w.ownsRow B 35 7 v l.length (opCells l)
structure AppOEnd (w w' : World) (B : Nat) (u v : Value) (l : List LOp) : Prop where
  own : OwnOps w' B v l
  grown : w.grownBy w' u.ownBlock
  at_ : ∀ g, v.ownBlock = some g → u.ownBlock = some g ∨ g = w.heap.size
end Go.Proofs.YthdpimkcalmlnaaGreatDoor

/- Lists that are made shorter: what that is, on lists. -/
namespace Go.Proofs.YthdpimkcalmlnaaGreatDoor
open Go.RowKit

/-! Some of a list. -/
/-! Texts that are void. -/
/-! What is made and goes again. -/
theorem drop_cons {α : Type} {l : List α} {k : Nat} {x : α} (h : l[k]? = some x) : l.drop k = x :: l.drop (k + 1) := by
  obtain ⟨hk, rfl⟩ := List.getElem?_eq_some_iff.1 h
  exact List.drop_eq_getElem_cons hk
/-! What is moved and moved on. -/
/-! Again and again. -/
def formsB (ops : List LOp) : Bool := decide (ops.length ≤ 60) && ops.all opOk

/-! What is kept. -/
end Go.Proofs.YthdpimkcalmlnaaGreatDoor

/- Lists that are made shorter: the specification. -/
namespace Go.Proofs.YthdpimkcalmlnaaGreatDoor
open Go.RowKit

theorem opCells_at : ∀ (l : List LOp) (i : Nat) (o : LOp), l[i]? = some o → ∀ t u, o.val[t]? = some u → (opCells l)[i * 7 + t]? = some u
  | [], i, o, h, _, _, _ => by simp at h
  | x :: r, 0, o, h, t, u, hu => by
    simp at h
    subst h
    have ht : t < x.val.toList.length := by
      have := (Array.getElem?_eq_some_iff.1 hu).1
      simpa using this
    simp only [opCells, List.flatMap_cons]
    rw [List.getElem?_append_left (by omega)]
    simpa using hu
  | x :: r, i + 1, o, h, t, u, hu => by
    have ih := opCells_at r i o (by simpa using h) t u hu
    simp only [opCells, List.flatMap_cons]
    have h7 : x.val.toList.length = 7 := by simp [LOp.val]
    rw [List.getElem?_append_right (by omega), h7]
    have e : (i + 1) * 7 + t - 7 = i * 7 + t := by omega
    rw [e]
    exact ih
theorem OwnOps.at_ {w : World} {B : Nat} {v : Value} {l : List LOp} (h : OwnOps w B v l) (hn : ∀ o ∈ l, OpSz o) : ∃ a c, v = .slice a l.length c ∧ OpsAt w B w.heap.size a l.length l := by
  by_cases h0 : l.length = 0
  · obtain rfl : l = [] := List.eq_nil_of_length_eq_zero h0
    rcases h.2 with ⟨rfl, _⟩ | ⟨g, cap, cur, rfl, _⟩
    · exact ⟨_, _, rfl, rfl, by simp [maxLen], fun hn => absurd rfl hn⟩
    · exact ⟨_, _, rfl, rfl, by simp [maxLen], fun hn => absurd rfl hn⟩
  · obtain ⟨g, c, rfl, hb, hlt⟩ := World.ownsRow.form h (by omega)
    have hbd : l.length ≤ maxLen := by
      rcases h.2 with ⟨h', _⟩ | ⟨g', cap', cur, h', _, _, hnc, hcm, _⟩
      · simp at h'
      · omega
    have hc : ∀ i (hi : i < l.length) t u, t < 7 → (l[i]).val[t]? = some u → w.cell? ⟨g, 0 + i * 7 + t, none⟩ = some u := fun i hi t u ht hu => by
      have := World.ownsRow.cellAt h (i * 7 + t) (by omega)
      rw [Nat.zero_add, this]
      exact opCells_at l i l[i] (by simp [hi]) t u hu
    exact ⟨_, _, rfl, rfl, hbd, fun _ => ⟨g, 0, rfl, hb, hlt, fun i hi => ⟨l[i], by simp [hi], hn _ (List.getElem_mem hi), hc i hi 0 _ (by omega) (by simp [LOp.val]), hc i hi 1 _ (by omega) (by simp [LOp.val]), hc i hi 2 _ (by omega) (by simp [LOp.val]), hc i hi 3 _ (by omega) (by simp [LOp.val]), hc i hi 4 _ (by omega) (by simp [LOp.val]), hc i hi 5 _ (by omega) (by simp [LOp.val]), hc i hi 6 _ (by omega) (by simp [LOp.val])⟩⟩⟩
theorem OpsAt.sz {w : World} {L U : Nat} {a : Option Addr} {n : Nat} {ops : List LOp} (h : OpsAt w L U a n ops) : ∀ o ∈ ops, OpSz o := fun o ho => by
  obtain ⟨i, hi, rfl⟩ := List.getElem_of_mem ho
  have hl := h.len
  obtain ⟨b, off, _, _, _, hc⟩ := h.at_ (by omega)
  obtain ⟨o', ho', hs, _⟩ := hc i (by omega)
  rw [List.getElem?_eq_getElem hi] at ho'
  cases ho'
  exact hs
theorem AppOEnd.below {w0 wr w1 : World} {B : Nat} {u v : Value} {l r : List LOp} {o1 : Obj} (hE : AppOEnd (wr.alloc o1) w1 B u v r) (hown : OwnOps wr B u l) (hb : Below B w0 wr) (hsz : B ≤ wr.heap.size) : Below B w0 w1 := by
  have hr : ∀ k, u.ownBlock = some k → B ≤ k := fun k e => (hown.lt k e).1
  exact hb.trans (below_grown ((Below.refl _ _).alloc (by omega) _) hE.grown hr (by simp; omega))
theorem OwnOps.empty (w : World) (B : Nat) (hB : B ≤ w.heap.size) : OwnOps (w.alloc (Obj.cells #[] 35)) B (.slice (some ⟨w.heap.size, 0, none⟩) 0 0) [] := by
  simpa [OwnOps, opCells] using World.ownsRow_lit (base := B) (e := 35) (size := 7) w #[] 0 hB (by simp [maxLen]) rfl

theorem OwnOps.next {w w' : World} {B : Nat} {v : Value} {l : List LOp} (h : OwnOps w B v l) (hb : Below w.heap.size w w') : OwnOps w' B v l := by
  refine ⟨h.1, ?_⟩
  rcases h.2 with hn | ⟨g, cap, cur, rfl, hB, hgg, rest⟩
  · exact .inl hn
  · refine .inr ⟨g, cap, cur, rfl, hB, ?_, rest⟩
    rw [hb.block g (Array.getElem?_eq_some_iff.1 hgg).1]
    exact hgg
/-- What a rule leaves: a list of its own, and all else as it was. -/
def SlimEnd (w : World) (r : List LOp) (e : Ending) (w' : World) : Prop := (∃ v, e = .returned v ∧ OwnOps w' w.heap.size v r) ∧ Below w.heap.size w w'

set_option maxHeartbeats 1000000 in
theorem forms_any (a : Option Addr) (n c : Nat) (ops : List LOp) (L U : Nat) (w : World) (hU : U ≤ w.heap.size) (H : OpsAt w L U a n ops) :
    Calls Tryz.prog 58 #[.slice a n c] w fun e w' => e = .returned (.bool (formsB ops)) ∧ Below w.heap.size w w' := by
  have hbd := H.bd
  have hlen : Hid (n = ops.length) := H.len
  unfold maxLen at hbd
  by_cases h60 : 60 < n
  · have h60' : (60 : Int) < (n : Int) := by omega
    go_enter Tryz.func58, Tryz.ntmps58
    go_wp2_with fail
    go_ret
    exact ⟨ret_bool (by have := hlen.out; simp [formsB]; omega), Below.refl _ _⟩
  · have h60' : ¬ (60 : Int) < (n : Int) := by omega
    go_enter Tryz.func58, Tryz.ntmps58
    go_wp2_with fail
    go_loopg [3] n (fun g k wr => ∃ j : Nat, j ≤ n ∧ Hid (g = n - j) ∧ k = .int .i64 j ∧ Hid (formsB ops = (ops.drop j).all opOk) ∧ Below w.heap.size w wr)
    case atStart => exact ⟨0, Nat.zero_le _, rfl, rfl, by show _ = _; have := hlen.out; simp [formsB]; omega, Below.refl _ _⟩
    case round =>
      obtain ⟨j, hj, hk, rfl, hq, hb⟩ := hrel
      by_cases hlt : j < n
      · obtain ⟨b, off, ha, hL, hbU, hc⟩ := H.at_ (by omega)
        subst ha
        obtain ⟨x, he, hsz, hat⟩ := hc j hlt
        obtain ⟨d0, d1, d2, d3, d4, d5, d6⟩ := hat.of_block (hb.block b (by omega))
        have hlt' : (j : Int) < (n : Int) := by omega
        have HQ : Hid (formsB ops = (opOk x && (ops.drop (j + 1)).all opOk)) := by show _ = _; rw [hq.out, drop_cons he, List.all_cons]
        have HOK := fun w => opOk_any x w hsz.name hsz.name2 hsz.text
        simp only [LOp.val] at HOK
        clear he hc hq hat H
        go_wp2_with fail
        refine (HOK _).mono ?_
        rintro e w1 ⟨rfl, rfl⟩
        rcases hx : opOk x with _ | _
        · have HY : Hid (formsB ops = false) := by show _ = _; rw [HQ.out, hx]; rfl
          clear HOK HQ
          go_wp2_with fail
          go_ret
          exact ⟨ret_bool HY.out.symm, hb.alloc hb.size _⟩
        · have HY : Hid (formsB ops = (ops.drop (j + 1)).all opOk) := by show _ = _; rw [HQ.out, hx]; rfl
          clear HOK HQ
          go_wp2_with fail
          go_roundg (n - (j + 1))
          case measure => have := hk.out; omega
          case rel => exact ⟨j + 1, by omega, rfl, by go_num, HY.out, hb.alloc hb.size _⟩
      · have HN : Hid (formsB ops = true) := by
          show _ = _
          rw [hq.out, List.drop_of_length_le (by have := hlen.out; omega)]; rfl
        go_wp2_with fail
        go_ret
        exact ⟨ret_bool HN.out.symm, hb⟩

end Go.Proofs.YthdpimkcalmlnaaGreatDoor

/- Lists that are made shorter: the specification, what goes again. -/
namespace Go.Proofs.YthdpimkcalmlnaaGreatDoor
open Go.RowKit

/-! append of a whole list. -/
theorem OpsAt.cells {w : World} {L U b off n : Nat} {ops : List LOp} (H : OpsAt w L U (some ⟨b, off, none⟩) n ops) : ∀ j u, (opCells ops)[j]? = some u → w.cell? ((⟨b, off, none⟩ : Addr).add j) = some u := by
  intro j u hu
  have hadd : (⟨b, off, none⟩ : Addr).add j = ⟨b, off + j, none⟩ := by unfold Addr.add; split <;> simp_all
  rw [hadd]
  have hj := (List.getElem?_eq_some_iff.1 hu).1
  rw [opCells_len] at hj
  have hl := H.len
  obtain ⟨b', off', ha, _, _, hc⟩ := H.at_ (by omega)
  simp only [Option.some.injEq, Addr.mk.injEq, and_true] at ha
  obtain ⟨rfl, rfl⟩ := ha
  obtain ⟨o, ho, _, hat⟩ := hc (j / 7) (by omega)
  have hv : ∀ t v, t < 7 → j = j / 7 * 7 + t → o.val[t]? = some v → u = v := fun t v ht e hv => by
    have := opCells_at ops (j / 7) o ho t v hv
    rw [← e, hu] at this
    exact Option.some.inj this
  have e7 : j = j / 7 * 7 + j % 7 := by omega
  have hm : j % 7 < 7 := Nat.mod_lt _ (by omega)
  generalize j % 7 = t at e7 hm
  match t, hm with
  | 0, _ => rw [hv 0 _ (by omega) e7 (by simp [LOp.val]; rfl), e7, ← Nat.add_assoc]; exact hat.c0
  | 1, _ => rw [hv 1 _ (by omega) e7 (by simp [LOp.val]; rfl), e7, ← Nat.add_assoc]; exact hat.c1
  | 2, _ => rw [hv 2 _ (by omega) e7 (by simp [LOp.val]; rfl), e7, ← Nat.add_assoc]; exact hat.c2
  | 3, _ => rw [hv 3 _ (by omega) e7 (by simp [LOp.val]; rfl), e7, ← Nat.add_assoc]; exact hat.c3
  | 4, _ => rw [hv 4 _ (by omega) e7 (by simp [LOp.val]; rfl), e7, ← Nat.add_assoc]; exact hat.c4
  | 5, _ => rw [hv 5 _ (by omega) e7 (by simp [LOp.val]; rfl), e7, ← Nat.add_assoc]; exact hat.c5
  | 6, _ => rw [hv 6 _ (by omega) e7 (by simp [LOp.val]; rfl), e7, ← Nat.add_assoc]; exact hat.c6
end Go.Proofs.YthdpimkcalmlnaaGreatDoor

/- Lists that are made shorter: the specification, what is moved on. -/
namespace Go.Proofs.YthdpimkcalmlnaaGreatDoor
open Go.RowKit

theorem OwnOps.one {W : World} {o : LOp} {B q : Nat} (hB : B ≤ W.heap.size) (hq : q = W.heap.size) : OwnOps (W.alloc (Obj.cells o.val 35)) B (.slice (some ⟨q, 0, none⟩) 1 1) [o] := by
  subst hq
  have := World.ownsRow_lit (base := B) (e := 35) (size := 7) W o.val 1 hB (by simp [maxLen]) (by simp [LOp.val])
  simpa [OwnOps, opCells] using this
theorem OpsAt.grown {w w' : World} {L U : Nat} {a : Option Addr} {n : Nat} {ops : List LOp} {row : Option Nat} (H : OpsAt w L U a n ops) (hg : w.grownBy w' row) (hne : ∀ k, row = some k → k < L) (hU : U ≤ w.heap.size) : OpsAt w' L U a n ops :=
  ⟨H.len, H.bd, fun hn => by
    obtain ⟨b, off, ha, hL, hbU, hc⟩ := H.at_ hn
    refine ⟨b, off, ha, hL, hbU, fun i hi => ?_⟩
    obtain ⟨o, ho, hs, h0⟩ := hc i hi
    exact ⟨o, ho, hs, h0.of_block (hg.block b (by omega) (fun e => by have := hne b e.symm; omega))⟩⟩
theorem OwnOps.cut {w : World} {B g n cap k : Nat} {l : List LOp} (h : OwnOps w B (.slice (some ⟨g, 0, none⟩) n cap) l) (hn : n = l.length) (hk : k ≤ n) : OwnOps w B (.slice (some ⟨g, 0, none⟩) k cap) (l.take k) := by
  subst hn
  have hl : (l.take k).length = k := by simp; omega
  refine ⟨by rw [opCells_len], .inr ?_⟩
  rcases h.2 with ⟨h', _⟩ | ⟨g', cap', cur, h', hb, hg, hnc, hcm, hcs, htake⟩
  · simp at h'
  · simp only [Value.slice.injEq, Option.some.injEq, Addr.mk.injEq, and_true, true_and] at h'
    obtain ⟨rfl, rfl⟩ := h'
    refine ⟨g, cap, cur, by rw [hl], hb, hg, by omega, hcm, hcs, ?_⟩
    have e1 : opCells l = opCells (l.take k) ++ opCells (l.drop k) := by rw [← opCells_app, List.take_append_drop]
    have e2 : cur.toList.take (k * 7) = (cur.toList.take (l.length * 7)).take (k * 7) := by rw [List.take_take]; congr 1; omega
    rw [hl, e2, htake, e1, List.take_left' (by rw [opCells_len, hl])]
end Go.Proofs.YthdpimkcalmlnaaGreatDoor

/- Lists that are made shorter: the specification, what is moved on, again and again. -/
namespace Go.Proofs.YthdpimkcalmlnaaGreatDoor
open Go.RowKit

end Go.Proofs.YthdpimkcalmlnaaGreatDoor

/- Lists that are made shorter: the specification, whole. -/
namespace Go.Proofs.YthdpimkcalmlnaaGreatDoor
open Go.RowKit

theorem OwnOps.base {w : World} {B B' : Nat} {v : Value} {l : List LOp} (h : OwnOps w B v l) (hB : B' ≤ B) : OwnOps w B' v l :=
  ⟨h.1, by
    rcases h.2 with h | ⟨g, cap, cu, h1, h2, h3⟩
    · exact .inl h
    · exact .inr ⟨g, cap, cu, h1, by omega, h3⟩⟩
theorem SlimEnd.later {w w1 w' : World} {r : List LOp} {e : Ending} (h : SlimEnd w1 r e w') (hb : Below w.heap.size w w1) : SlimEnd w r e w' := by
  obtain ⟨⟨v, rfl, ho⟩, hb'⟩ := h
  exact ⟨⟨v, rfl, ho.base hb.size⟩, hb.trans (hb'.mono hb.size)⟩

end Go.Proofs.YthdpimkcalmlnaaGreatDoor

/- Lists that are made shorter: the program: what is deleted. -/
namespace Go.Proofs.YthdpimkcalmlnaaGreatDoor
open Go.RowKit

end Go.Proofs.YthdpimkcalmlnaaGreatDoor

/- Lists that are made shorter: the program: texts. -/
namespace Go.Proofs.YthdpimkcalmlnaaGreatDoor
open Go.RowKit

set_option maxHeartbeats 1000000 in
theorem listOk_any (a : Option Addr) (n c : Nat) (ops : List LOp) (L U : Nat) (w : World) (hU : U ≤ w.heap.size) (H : OpsAt w L U a n ops) :
    Calls Tryz.prog 60 #[.slice a n c] w fun e w' => e = .returned (.bool (formsB ops)) ∧ Below w.heap.size w w' := by
  have hbd := H.bd
  have hlen : Hid (n = ops.length) := H.len
  unfold maxLen at hbd
  by_cases h60 : 60 < n
  · have h60' : (60 : Int) < (n : Int) := by omega
    go_enter Tryz.func60, Tryz.ntmps60
    go_wp2_with fail
    go_ret
    exact ⟨ret_bool (by have := hlen.out; simp [formsB]; omega), Below.refl _ _⟩
  · have h60' : ¬ (60 : Int) < (n : Int) := by omega
    go_enter Tryz.func60, Tryz.ntmps60
    go_wp2_with fail
    go_loopg [10] n (fun g k wr => ∃ j : Nat, j ≤ n ∧ Hid (g = n - j) ∧ k = .int .i64 j ∧ Hid (formsB ops = (ops.drop j).all opOk) ∧ Below w.heap.size w wr)
    case atStart => exact ⟨0, Nat.zero_le _, rfl, rfl, by show _ = _; have := hlen.out; simp [formsB]; omega, Below.refl _ _⟩
    case round =>
      obtain ⟨j, hj, hk, rfl, hq, hb⟩ := hrel
      by_cases hlt : j < n
      · obtain ⟨b, off, ha, hL, hbU, hc⟩ := H.at_ (by omega)
        subst ha
        obtain ⟨x, he, hsz, hat⟩ := hc j hlt
        obtain ⟨d0, d1, d2, d3, d4, d5, d6⟩ := hat.of_block (hb.block b (by omega))
        have hlt' : (j : Int) < (n : Int) := by omega
        have HQ : Hid (formsB ops = (opOk x && (ops.drop (j + 1)).all opOk)) := by show _ = _; rw [hq.out, drop_cons he, List.all_cons]
        have HOK := fun w => implOpOk x w hsz
        simp only [LOp.val] at HOK
        clear he hc hq hat H
        go_wp2_with fail
        refine (HOK _).mono ?_
        rintro e w1 ⟨rfl, hb1⟩
        have hbb : Below w.heap.size w w1 := (hb.alloc hb.size _).trans (hb1.mono (by have := hb.size; simp; omega))
        rcases hx : opOk x with _ | _
        · have HY : Hid (formsB ops = false) := by show _ = _; rw [HQ.out, hx]; rfl
          clear HOK HQ
          go_wp2_with fail
          go_ret
          exact ⟨ret_bool HY.out.symm, hbb⟩
        · have HY : Hid (formsB ops = (ops.drop (j + 1)).all opOk) := by show _ = _; rw [HQ.out, hx]; rfl
          clear HOK HQ
          go_wp2_with fail
          go_roundg (n - (j + 1))
          case measure => have := hk.out; omega
          case rel => exact ⟨j + 1, by omega, rfl, by go_num, HY.out, hbb⟩
      · have HN : Hid (formsB ops = true) := by
          show _ = _
          rw [hq.out, List.drop_of_length_le (by have := hlen.out; omega)]; rfl
        go_wp2_with fail
        go_ret
        exact ⟨ret_bool HN.out.symm, hb⟩

end Go.Proofs.YthdpimkcalmlnaaGreatDoor

/- Lists that are made shorter: the program: what goes again. -/
namespace Go.Proofs.YthdpimkcalmlnaaGreatDoor
open Go.RowKit

def GoEnd (g : Int) (e : Ending) : Prop := e = .returned (.tuple #[.int .i64 (if 0 ≤ g then g else 0), .bool (decide (0 ≤ g))])
theorem GoEnd.no {e : Ending} (h : e = .returned (.tuple #[.int .i64 0, .bool false])) : GoEnd (-1) e := by subst h; rfl
end Go.Proofs.YthdpimkcalmlnaaGreatDoor

/- Lists that are made shorter: the program: what goes again is taken out. -/
namespace Go.Proofs.YthdpimkcalmlnaaGreatDoor
open Go.RowKit

end Go.Proofs.YthdpimkcalmlnaaGreatDoor

/- Lists that are made shorter: the program: what goes again, one at a time. -/
namespace Go.Proofs.YthdpimkcalmlnaaGreatDoor
open Go.RowKit

end Go.Proofs.YthdpimkcalmlnaaGreatDoor

/- Lists that are made shorter: the program: a rule again and again; pairs. -/
namespace Go.Proofs.YthdpimkcalmlnaaGreatDoor
open Go.RowKit

end Go.Proofs.YthdpimkcalmlnaaGreatDoor

/- Lists that are made shorter: the program: where something is then. -/
namespace Go.Proofs.YthdpimkcalmlnaaGreatDoor
open Go.RowKit

end Go.Proofs.YthdpimkcalmlnaaGreatDoor

/- Lists that are made shorter: the program: what moves on. -/
namespace Go.Proofs.YthdpimkcalmlnaaGreatDoor
open Go.RowKit

structure BoxAt (w : World) (q : Nat) (o : LOp) : Prop where
  c0 : w.cell? ⟨q, 0, none⟩ = some (.int .i64 o.kind)
  c1 : w.cell? ⟨q, 1, none⟩ = some (.int .i64 o.dir)
  c2 : w.cell? ⟨q, 2, none⟩ = some (.string o.name)
  c3 : w.cell? ⟨q, 3, none⟩ = some (.int .i64 o.dir2)
  c4 : w.cell? ⟨q, 4, none⟩ = some (.string o.name2)
  c5 : w.cell? ⟨q, 5, none⟩ = some (.int .i64 o.id)
  c6 : w.cell? ⟨q, 6, none⟩ = some (.string o.text)
theorem BoxAt.of {w w' : World} {q : Nat} {o : LOp} (h : BoxAt w q o) (e : w'.heap[q]? = w.heap[q]?) : BoxAt w' q o := by
  have hc : ∀ j, w'.cell? ⟨q, j, none⟩ = w.cell? ⟨q, j, none⟩ := fun j => World.cell?_of_block (w := w) e
  exact ⟨by rw [hc]; exact h.c0, by rw [hc]; exact h.c1, by rw [hc]; exact h.c2, by rw [hc]; exact h.c3, by rw [hc]; exact h.c4, by rw [hc]; exact h.c5, by rw [hc]; exact h.c6⟩
end Go.Proofs.YthdpimkcalmlnaaGreatDoor

/- Lists that are made shorter: the program: what moves on from where it was put. -/
namespace Go.Proofs.YthdpimkcalmlnaaGreatDoor
open Go.RowKit

/-- Taken first, the frame and the list of what came up written out. -/
theorem takeH {P : Program} {md : Region.Mode} {ops : Array Oper} {Q : Exit → Act → World → Prop} {S : World → Prop} {i : Nat} {oi : Oper} {v : Value} {fuel : Nat} {listed : Array Bool} {a : Act} {w : World} (d : Nat) (l2 : Array Bool) (hi : ops[i]? = some oi)
    (hs : Region.noSelect ops = true) (hf : Region.free md ops listed i = true) (hr : (Region.ready md ops listed).contains i = true)
    (hd : oi.dst = some d) (hl : listed.setIfInBounds i true = l2) (hQ : ∀ c a w, Q (.panic c) (a.put oi.dst v) w → Q (.panic c) a w) (hy : YieldsIf P ops S oi v a) (hS : S w)
    (h : wpAnyH P md ops Q S fuel l2 (a.put (some d) v) w) : wpAnyH P md ops Q S (fuel + 1) listed a w :=
  wpAnyH_take hi hs hf hr hQ hy hS (by rw [hl, hd]; exact h)
theorem listH {P : Program} {md : Region.Mode} {ops : Array Oper} {Q : Exit → Act → World → Prop} {S : World → Prop} {fuel : Nat} {listed l2 : Array Bool} {a : Act} {w : World} (hl : listed = l2) (h : wpAnyH P md ops Q S fuel l2 a w) : wpAnyH P md ops Q S fuel listed a w := by
  rw [hl]; exact h

end Go.Proofs.YthdpimkcalmlnaaGreatDoor
