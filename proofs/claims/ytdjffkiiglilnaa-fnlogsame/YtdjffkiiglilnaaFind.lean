/- What a name names: contracts of the program and of the specification. -/
import Derived.Test.YtdjffkiiglilnaaUnder
import Derived.Lib.Bytealg
import Derived.Lib.Walk
namespace Go.Proofs.Ytdjffkiiglilnaa
open Go.RowKit

theorem cmp_less : ∀ a b : List UInt8, Lib.compareBytes a b < 0 ↔ Op.bytesLess a b = true
  | [], [] => by simp [Lib.compareBytes, Op.bytesLess]
  | [], _ :: _ => by simp [Lib.compareBytes, Op.bytesLess]
  | _ :: _, [] => by simp [Lib.compareBytes, Op.bytesLess]
  | a :: x, b :: y => by
    have ih := cmp_less x y
    simp only [Lib.compareBytes, Op.bytesLess]
    by_cases h1 : a < b
    · simp [h1]
    · by_cases h2 : b < a
      · have h3 : ¬ a = b := by intro h; rw [h] at h2; exact absurd h2 (by rw [UInt8.lt_iff_toNat_lt]; omega)
        simp [h1, h2, h3]
      · have h3 : a = b := by
          rw [UInt8.lt_iff_toNat_lt] at h1 h2
          exact UInt8.toNat_inj.1 (by omega)
        subst h3
        simp [h1, ih]
theorem cmp_zero : ∀ a b : List UInt8, Lib.compareBytes a b = 0 ↔ a = b
  | [], [] => by simp [Lib.compareBytes]
  | [], _ :: _ => by simp [Lib.compareBytes]
  | _ :: _, [] => by simp [Lib.compareBytes]
  | a :: x, b :: y => by
    have ih := cmp_zero x y
    simp only [Lib.compareBytes]
    by_cases h1 : a < b
    · have h3 : ¬ a = b := by intro h; rw [h] at h1; exact absurd h1 (by rw [UInt8.lt_iff_toNat_lt]; omega)
      simp [h1, h3]
    · by_cases h2 : b < a
      · have h3 : ¬ a = b := by intro h; rw [h] at h2; exact absurd h2 (by rw [UInt8.lt_iff_toNat_lt]; omega)
        simp [h1, h2, h3]
      · have h3 : a = b := by
          rw [UInt8.lt_iff_toNat_lt] at h1 h2
          exact UInt8.toNat_inj.1 (by omega)
        subst h3
        simp [h1, ih]
theorem less_trans : ∀ a b c : List UInt8, Op.bytesLess a b = true → Op.bytesLess b c = true → Op.bytesLess a c = true
  | _, [], _, h, _ => by simp [Op.bytesLess] at h
  | _, _ :: _, [], _, h => by simp [Op.bytesLess] at h
  | [], _ :: _, _ :: _, _, _ => rfl
  | a :: x, b :: y, c :: z, h, k => by
    simp only [Op.bytesLess, Bool.or_eq_true, Bool.and_eq_true, decide_eq_true_eq, beq_iff_eq] at h k ⊢
    rcases h with h | ⟨rfl, h⟩
    · rcases k with k | ⟨rfl, k⟩
      · left; rw [UInt8.lt_iff_toNat_lt] at *; omega
      · exact .inl h
    · rcases k with k | ⟨rfl, k⟩
      · exact .inl k
      · exact .inr ⟨rfl, less_trans x y z h k⟩

def nm (e : LEnt) : List UInt8 := e.name.data.toList
/-- The names ascend. -/
def Asc (es : List LEnt) : Prop := ∀ (i j : Nat) x y, i < j → es[i]? = some x → es[j]? = some y → Op.bytesLess (nm x) (nm y) = true
theorem asc_of {es : List LEnt} (h : kidsB es = true) : Asc es := by
  have hk : ∀ i, i < es.length → kidAt es i = true := by
    intro i hi
    unfold kidsB at h
    rw [List.all_eq_true] at h
    exact h i (by simpa using hi)
  have hs : ∀ (i : Nat) x y, es[i]? = some x → es[i + 1]? = some y → Op.bytesLess (nm x) (nm y) = true := by
    intro i x y hx hy
    have h1 := hk (i + 1) (List.getElem?_eq_some_iff.1 hy).1
    have h2 : entB y = true := by
      apply Classical.byContradiction
      intro hc
      rw [kidAt_ent hy (by simpa using hc)] at h1
      cases h1
    rw [kidAt_succ hy hx h2] at h1
    unfold nameLess at h1
    rwa [ByteArray.toList_eq, ByteArray.toList_eq] at h1
  intro i j
  induction j with
  | zero => intro x y h; omega
  | succ j ih =>
    intro x y hij hx hy
    by_cases e : i = j
    · subst e
      exact hs i x y hx hy
    · have hj : j < es.length := by have := (List.getElem?_eq_some_iff.1 hy).1; omega
      obtain ⟨z, hz⟩ : ∃ z, es[j]? = some z := ⟨es[j], List.getElem?_eq_getElem hj⟩
      exact less_trans _ _ _ (ih x z (by omega) hx hz) (hs j z y hz hy)
def findV (es : List LEnt) (name : ByteArray) : Int := match es.find? (fun e => sEq e.name name) with | some e => e.id | none => -1
theorem findV_at {es : List LEnt} {k : Nat} {e : LEnt} {name : ByteArray} (he : es[k]? = some e) (h : ∀ i, i < k → ∀ x, es[i]? = some x → x.name ≠ name) (hi : e.name = name) : findV es name = e.id := by
  unfold findV
  have hk : k < es.length := (List.getElem?_eq_some_iff.1 he).1
  have e1 : es = es.take k ++ e :: es.drop (k + 1) := by
    have : es[k] = e := (List.getElem?_eq_some_iff.1 he).2
    rw [← this, ← List.drop_eq_getElem_cons hk, List.take_append_drop]
  have e2 : (es.take k).find? (fun e => sEq e.name name) = none := by
    rw [List.find?_eq_none]
    intro x hx
    obtain ⟨i, hi'⟩ := List.getElem?_of_mem hx
    have hlt : i < k := by have := (List.getElem?_eq_some_iff.1 hi').1; simp at this; omega
    rw [List.getElem?_take_of_lt hlt] at hi'
    exact fun hc => h i hlt x hi' ((sEq_iff _ _).1 hc)
  conv => lhs; rw [e1]
  rw [List.find?_append, e2]
  simp [(sEq_iff _ _).2 hi]
theorem findV_none {es : List LEnt} {name : ByteArray} (h : ∀ (i : Nat) x, es[i]? = some x → x.name ≠ name) : findV es name = -1 := by
  unfold findV
  have : es.find? (fun e => sEq e.name name) = none := by
    rw [List.find?_eq_none]
    intro x hx
    obtain ⟨i, hi⟩ := List.getElem?_of_mem hx
    exact fun hc => h i x hi ((sEq_iff _ _).1 hc)
  rw [this]
theorem nm_inj {e : LEnt} {name : ByteArray} (h : nm e = name.data.toList) : e.name = name := by
  refine (sEq_iff _ _).1 ?_
  unfold sEq
  rw [ByteArray.toList_eq, ByteArray.toList_eq]
  unfold nm at h
  simp [h]
def Low (es : List LEnt) (name : ByteArray) (x : Nat) : Prop := ∀ i, i < x → ∀ e, es[i]? = some e → Lib.compareBytes (nm e) name.data.toList < 0
def High (es : List LEnt) (name : ByteArray) (y : Nat) : Prop := ∀ i, y ≤ i → ∀ e, es[i]? = some e → ¬ Lib.compareBytes (nm e) name.data.toList < 0
theorem low_up {es : List LEnt} (ha : Asc es) {name : ByteArray} {h : Nat} {e : LEnt} (he : es[h]? = some e) (hc : Lib.compareBytes (nm e) name.data.toList < 0) : Low es name (h + 1) := by
  intro i hi x hx
  by_cases e' : i = h
  · subst e'; rw [he] at hx; cases hx; exact hc
  · rw [cmp_less] at hc ⊢
    exact less_trans _ _ _ (ha i h x e (by omega) hx he) hc
theorem high_down {es : List LEnt} (ha : Asc es) {name : ByteArray} {h : Nat} {e : LEnt} (he : es[h]? = some e) (hc : ¬ Lib.compareBytes (nm e) name.data.toList < 0) : High es name h := by
  intro i hi x hx
  by_cases e' : i = h
  · subst e'; rw [he] at hx; cases hx; exact hc
  · intro hx'
    apply hc
    rw [cmp_less] at hx' ⊢
    exact less_trans _ _ _ (ha h i e x (by omega) he hx) hx'
theorem low_ne {es : List LEnt} {name : ByteArray} {x : Nat} (h : Low es name x) : ∀ i, i < x → ∀ e, es[i]? = some e → e.name ≠ name := by
  intro i hi e he hn
  have := h i hi e he
  rw [show nm e = name.data.toList by unfold nm; rw [hn], (cmp_zero _ _).2 rfl] at this
  omega
theorem search_hit {es : List LEnt} {name : ByteArray} {x : Nat} {e : LEnt} (hl : Low es name x) (he : es[x]? = some e) (hc : Lib.compareBytes (nm e) name.data.toList = 0) : findV es name = e.id :=
  findV_at he (low_ne hl) (nm_inj ((cmp_zero _ _).1 hc))
theorem search_miss {es : List LEnt} (ha : Asc es) {name : ByteArray} {x : Nat} {e : LEnt} (hl : Low es name x) (hh : High es name x) (he : es[x]? = some e) (hc : Lib.compareBytes (nm e) name.data.toList ≠ 0) : findV es name = -1 := by
  refine findV_none fun i y hy hn => ?_
  by_cases h1 : i < x
  · exact low_ne hl i h1 y hy hn
  · have hz : nm y = name.data.toList := by unfold nm; rw [hn]
    by_cases h2 : i = x
    · subst h2; rw [he] at hy; cases hy
      exact hc ((cmp_zero _ _).2 hz)
    · have h3 := ha x i e y (by omega) he hy
      rw [hz, ← cmp_less] at h3
      exact hh x (Nat.le_refl _) e he h3
theorem search_end {es : List LEnt} {name : ByteArray} (hl : Low es name es.length) : findV es name = -1 :=
  findV_none fun i y hy => low_ne hl i (List.getElem?_eq_some_iff.1 hy).1 y hy

/-- How a search ends: found, and where; or not. -/
def SearchEnd (es : List LEnt) (name : ByteArray) (e : Ending) : Prop := ∃ (x : Nat) (b : Bool), e = .returned (.tuple #[.int .i64 x, .bool b]) ∧ ((b = true ∧ ∃ k, es[x]? = some k ∧ findV es name = k.id) ∨ (b = false ∧ findV es name = -1))

set_option maxHeartbeats 400000 in
theorem l1Find_any (a : Option Addr) (n c : Nat) (es : List LEnt) (L U : Nat) (name : ByteArray) (w : World) (H : EntsAt w L U a n es) :
    Calls Try.prog 146 #[.slice a n c, .string name] w fun e w' => e = .returned (.int .i64 (findV es name)) ∧ w' = w := by
  have hbd := H.bd
  unfold maxLen at hbd
  go_enter Try.func146, Try.ntmps146
  go_wp2_with fail
  go_loopg [5] n (fun g i wr => ∃ j : Nat, j ≤ n ∧ Hid (g = n - j) ∧ i = .int .i64 j ∧ Hid (∀ i, i < j → ∀ x, es[i]? = some x → x.name ≠ name) ∧ wr = w)
  case atStart => exact ⟨0, Nat.zero_le _, by show _ = _; omega, rfl, fun i hi => by omega, rfl⟩
  case round =>
    obtain ⟨j, hj, hk, rfl, hq, rfl⟩ := hrel
    by_cases hlt : j < n
    · obtain ⟨b, off, ha, hL, hbU, hc⟩ := H.at_ (by omega)
      subst ha
      obtain ⟨e, he, hsz, hc0, hc1⟩ := hc j hlt
      have HE : Hid (es[j]? = some e) := he
      clear he hc
      cases hid : sEq e.name name
      · have t1 : (e.name.toList == name.toList) = false := hid
        have HI : Hid (e.name ≠ name) := fun hc => by rw [(sEq_iff _ _).2 hc] at hid; cases hid
        clear hid
        go_wp2_with fail
        go_roundg (n - (j + 1))
        case measure => have := hk.out; omega
        case rel =>
          refine ⟨j + 1, by omega, rfl, by go_num, fun i hi x hx => ?_, rfl⟩
          by_cases ee : i = j
          · subst ee
            rw [HE.out] at hx
            cases hx
            exact HI.out
          · exact hq.out i (by omega) x hx
      · have t1 : (e.name.toList == name.toList) = true := hid
        have HI : Hid (e.name = name) := (sEq_iff _ _).1 hid
        clear hid
        go_wp2_with fail
        go_ret
        exact ⟨ret_int (findV_at HE.out hq.out HI.out).symm, rfl⟩
    · go_wp2_with fail
      go_ret
      exact ⟨ret_int (findV_none (fun i x hx => hq.out i (by have := (List.getElem?_eq_some_iff.1 hx).1; have := H.len; omega) x hx)).symm, rfl⟩

def kidsOf (os : List LObj) (i : Nat) : List LEnt := match os[i]? with | some o => o.kids | none => []
theorem kidsOf_at {t : List LObj} {i : Nat} {o : LObj} (h : t[i]? = some o) : kidsOf t i = o.kids := by unfold kidsOf; rw [h]
def treeFindV (os : List LObj) (dir : Int) (name : ByteArray) : Int := if specOk os = true ∧ 0 ≤ dir ∧ dir < 32 then findV (kidsOf os dir.toNat) name else -1
theorem tf_no {os : List LObj} (h : specOk os = false) (dir : Int) (name : ByteArray) : treeFindV os dir name = -1 := by simp [treeFindV, h]
theorem tf_out {os : List LObj} {dir : Int} (h : ¬ (0 ≤ dir ∧ dir < 32)) (name : ByteArray) : treeFindV os dir name = -1 := by
  unfold treeFindV
  rw [if_neg (fun hc => h hc.2)]
theorem tf_yes {os : List LObj} (h : specOk os = true) {k : Nat} (hk : k < 32) {o : LObj} (ho : os[k]? = some o) (name : ByteArray) : treeFindV os k name = findV o.kids name := by
  unfold treeFindV
  rw [if_pos ⟨h, by omega, by omega⟩, Int.toNat_natCast, kidsOf_at ho]
theorem kids_none {o : LObj} (h : objB o = true) (hk : o.kind = 0) : o.kids = [] := by
  unfold objB at h
  rw [Bool.and_eq_true] at h
  have h2 := h.2
  unfold partsB at h2
  rw [if_pos hk, Bool.and_eq_true] at h2
  have h3 := h2.2
  unfold nil? at h3
  exact List.length_eq_zero_iff.1 (by simpa using h3)
theorem asc_ok {o : LObj} (h : objB o = true) : Asc o.kids := by
  by_cases hk : kidsB o.kids = true
  · exact asc_of hk
  · unfold objB at h
    rw [Bool.and_eq_true] at h
    have h2 := h.2
    have hn : o.kids = [] := by
      unfold partsB at h2
      split at h2
      · rw [Bool.and_eq_true] at h2
        exact List.length_eq_zero_iff.1 (by simpa [nil?] using h2.2)
      · split at h2
        · rw [Bool.and_eq_true] at h2
          exact List.length_eq_zero_iff.1 (by simpa [nil?] using h2.2)
        · split at h2
          · rw [Bool.and_eq_true] at h2
            exact absurd h2.2 hk
          · cases h2
    rw [hn]
    intro i j x y _ hx
    simp at hx

end Go.Proofs.Ytdjffkiiglilnaa
