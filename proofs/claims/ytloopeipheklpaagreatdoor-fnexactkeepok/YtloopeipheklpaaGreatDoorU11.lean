/- Lemmas that the proofs of this seat share: Find, Facts2, FrAll. -/
import Derived.Test.YtloopeipheklpaaGreatDoorU09
import Derived.Lib.Bytealg
import Derived.Lib.Walk
import Derived.Test.YtloopeipheklpaaGreatDoorU10
import Derived.Test.YtloopeipheklpaaGreatDoorU07
import Derived.Deep.QuietTactic
import Derived.BigQuiet
/- What a name names: contracts of the program and of the specification. -/
namespace Go.Proofs.YtloopeipheklpaaGreatDoor
open Go.RowKit

set_option maxRecDepth 100000 in
theorem cmpString (a b : ByteArray) (w : World) :
    Calls Tryz.prog 291 #[.string a, .string b] w fun e w' => e = .returned (.int .i64 (Lib.compareBytes a.data.toList b.data.toList)) ∧ w' = w := by
  go_enter Tryz.func291, Tryz.ntmps291
  go_wp2
  rw [run_callFunc_extern Tryz.func293 (by kernel_rfl) (by kernel_rfl) (by kernel_rfl) (e := Extern.BytealgCompare.compare) (by kernel_rfl), Lib.run_compareString]
  simp only [Result.andThen]
  rw [Oper.upon_value]
  go_wp2
  go_ret
  exact ⟨rfl, rfl⟩
theorem compare_any (a b : ByteArray) (w : World) :
    Calls Tryz.prog 288 #[.string a, .string b] w fun e w' => e = .returned (.int .i64 (Lib.compareBytes a.data.toList b.data.toList)) ∧ w' = w := by
  go_enter Tryz.func288, Tryz.ntmps288
  go_wp2_with (go_at_call 291; refine (cmpString _ _ _).mono ?_; rintro e w' ⟨rfl, rfl⟩)
  go_ret
  exact ⟨rfl, rfl⟩
theorem closure_any (s : ByteArray) (i : Int) (b : ByteArray) (w : World) :
    Calls Tryz.prog 287 #[.agg #[.string s, .int .i64 i], .string b] w fun e w' => e = .returned (.int .i64 (Lib.compareBytes s.data.toList b.data.toList)) ∧ w' = w.alloc (.cells #[.string s, .int .i64 i] 247) := by
  go_enter Tryz.func287, Tryz.ntmps287
  go_wp2_with (go_at_call 288; refine (compare_any _ _ _).mono ?_; rintro e w' ⟨rfl, rfl⟩)
  go_ret
  exact ⟨rfl, rfl⟩


theorem cmp_less : ∀ a b : List UInt8, Lib.compareBytes a b < 0 ↔ Op.bytesLess a b = true
  | [], [] => by simp [Lib.compareBytes, Op.bytesLess]
  | [], _ :: _ => by simp [Lib.compareBytes, Op.bytesLess]
  | _ :: _, [] => by simp [Lib.compareBytes, Op.bytesLess]
  | a :: x, b :: y => by
    have ih := cmp_less x y
    simp only [Lib.compareBytes, Op.bytesLess]
    by_cases h1 : a < b
    · simp [h1]
    · by_cases h2 : b < a
      · have h3 : ¬ a = b := by intro h; rw [h] at h2; exact absurd h2 (by rw [UInt8.lt_iff_toNat_lt]; omega)
        simp [h1, h2, h3]
      · have h3 : a = b := by
          rw [UInt8.lt_iff_toNat_lt] at h1 h2
          exact UInt8.toNat_inj.1 (by omega)
        subst h3
        simp [h1, ih]
theorem cmp_zero : ∀ a b : List UInt8, Lib.compareBytes a b = 0 ↔ a = b
  | [], [] => by simp [Lib.compareBytes]
  | [], _ :: _ => by simp [Lib.compareBytes]
  | _ :: _, [] => by simp [Lib.compareBytes]
  | a :: x, b :: y => by
    have ih := cmp_zero x y
    simp only [Lib.compareBytes]
    by_cases h1 : a < b
    · have h3 : ¬ a = b := by intro h; rw [h] at h1; exact absurd h1 (by rw [UInt8.lt_iff_toNat_lt]; omega)
      simp [h1, h3]
    · by_cases h2 : b < a
      · have h3 : ¬ a = b := by intro h; rw [h] at h2; exact absurd h2 (by rw [UInt8.lt_iff_toNat_lt]; omega)
        simp [h1, h2, h3]
      · have h3 : a = b := by
          rw [UInt8.lt_iff_toNat_lt] at h1 h2
          exact UInt8.toNat_inj.1 (by omega)
        subst h3
        simp [h1, ih]
theorem less_trans : ∀ a b c : List UInt8, Op.bytesLess a b = true → Op.bytesLess b c = true → Op.bytesLess a c = true
  | _, [], _, h, _ => by simp [Op.bytesLess] at h
  | _, _ :: _, [], _, h => by simp [Op.bytesLess] at h
  | [], _ :: _, _ :: _, _, _ => rfl
  | a :: x, b :: y, c :: z, h, k => by
    simp only [Op.bytesLess, Bool.or_eq_true, Bool.and_eq_true, decide_eq_true_eq, beq_iff_eq] at h k ⊢
    rcases h with h | ⟨rfl, h⟩
    · rcases k with k | ⟨rfl, k⟩
      · left; rw [UInt8.lt_iff_toNat_lt] at *; omega
      · exact .inl h
    · rcases k with k | ⟨rfl, k⟩
      · exact .inl k
      · exact .inr ⟨rfl, less_trans x y z h k⟩

def nm (e : LEnt) : List UInt8 := e.name.data.toList
/-- The names ascend. -/
def Asc (es : List LEnt) : Prop := ∀ (i j : Nat) x y, i < j → es[i]? = some x → es[j]? = some y → Op.bytesLess (nm x) (nm y) = true
theorem asc_of {es : List LEnt} (h : kidsB es = true) : Asc es := by
  have hk : ∀ i, i < es.length → kidAt es i = true := by
    intro i hi
    unfold kidsB at h
    rw [List.all_eq_true] at h
    exact h i (by simpa using hi)
  have hs : ∀ (i : Nat) x y, es[i]? = some x → es[i + 1]? = some y → Op.bytesLess (nm x) (nm y) = true := by
    intro i x y hx hy
    have h1 := hk (i + 1) (List.getElem?_eq_some_iff.1 hy).1
    have h2 : entB y = true := by
      apply Classical.byContradiction
      intro hc
      rw [kidAt_ent hy (by simpa using hc)] at h1
      cases h1
    rw [kidAt_succ hy hx h2] at h1
    unfold nameLess at h1
    rwa [ByteArray.toList_eq, ByteArray.toList_eq] at h1
  intro i j
  induction j with
  | zero => intro x y h; omega
  | succ j ih =>
    intro x y hij hx hy
    by_cases e : i = j
    · subst e
      exact hs i x y hx hy
    · have hj : j < es.length := by have := (List.getElem?_eq_some_iff.1 hy).1; omega
      obtain ⟨z, hz⟩ : ∃ z, es[j]? = some z := ⟨es[j], List.getElem?_eq_getElem hj⟩
      exact less_trans _ _ _ (ih x z (by omega) hx hz) (hs j z y hz hy)
def findV (es : List LEnt) (name : ByteArray) : Int := match es.find? (fun e => sEq e.name name) with | some e => e.id | none => -1
theorem findV_at {es : List LEnt} {k : Nat} {e : LEnt} {name : ByteArray} (he : es[k]? = some e) (h : ∀ i, i < k → ∀ x, es[i]? = some x → x.name ≠ name) (hi : e.name = name) : findV es name = e.id := by
  unfold findV
  have hk : k < es.length := (List.getElem?_eq_some_iff.1 he).1
  have e1 : es = es.take k ++ e :: es.drop (k + 1) := by
    have : es[k] = e := (List.getElem?_eq_some_iff.1 he).2
    rw [← this, ← List.drop_eq_getElem_cons hk, List.take_append_drop]
  have e2 : (es.take k).find? (fun e => sEq e.name name) = none := by
    rw [List.find?_eq_none]
    intro x hx
    obtain ⟨i, hi'⟩ := List.getElem?_of_mem hx
    have hlt : i < k := by have := (List.getElem?_eq_some_iff.1 hi').1; simp at this; omega
    rw [List.getElem?_take_of_lt hlt] at hi'
    exact fun hc => h i hlt x hi' ((sEq_iff _ _).1 hc)
  conv => lhs; rw [e1]
  rw [List.find?_append, e2]
  simp [(sEq_iff _ _).2 hi]
theorem findV_none {es : List LEnt} {name : ByteArray} (h : ∀ (i : Nat) x, es[i]? = some x → x.name ≠ name) : findV es name = -1 := by
  unfold findV
  have : es.find? (fun e => sEq e.name name) = none := by
    rw [List.find?_eq_none]
    intro x hx
    obtain ⟨i, hi⟩ := List.getElem?_of_mem hx
    exact fun hc => h i x hi ((sEq_iff _ _).1 hc)
  rw [this]
theorem nm_inj {e : LEnt} {name : ByteArray} (h : nm e = name.data.toList) : e.name = name := by
  refine (sEq_iff _ _).1 ?_
  unfold sEq
  rw [ByteArray.toList_eq, ByteArray.toList_eq]
  unfold nm at h
  simp [h]
def Low (es : List LEnt) (name : ByteArray) (x : Nat) : Prop := ∀ i, i < x → ∀ e, es[i]? = some e → Lib.compareBytes (nm e) name.data.toList < 0
def High (es : List LEnt) (name : ByteArray) (y : Nat) : Prop := ∀ i, y ≤ i → ∀ e, es[i]? = some e → ¬ Lib.compareBytes (nm e) name.data.toList < 0
theorem low_up {es : List LEnt} (ha : Asc es) {name : ByteArray} {h : Nat} {e : LEnt} (he : es[h]? = some e) (hc : Lib.compareBytes (nm e) name.data.toList < 0) : Low es name (h + 1) := by
  intro i hi x hx
  by_cases e' : i = h
  · subst e'; rw [he] at hx; cases hx; exact hc
  · rw [cmp_less] at hc ⊢
    exact less_trans _ _ _ (ha i h x e (by omega) hx he) hc
theorem high_down {es : List LEnt} (ha : Asc es) {name : ByteArray} {h : Nat} {e : LEnt} (he : es[h]? = some e) (hc : ¬ Lib.compareBytes (nm e) name.data.toList < 0) : High es name h := by
  intro i hi x hx
  by_cases e' : i = h
  · subst e'; rw [he] at hx; cases hx; exact hc
  · intro hx'
    apply hc
    rw [cmp_less] at hx' ⊢
    exact less_trans _ _ _ (ha h i e x (by omega) he hx) hx'
theorem low_ne {es : List LEnt} {name : ByteArray} {x : Nat} (h : Low es name x) : ∀ i, i < x → ∀ e, es[i]? = some e → e.name ≠ name := by
  intro i hi e he hn
  have := h i hi e he
  rw [show nm e = name.data.toList by unfold nm; rw [hn], (cmp_zero _ _).2 rfl] at this
  omega
theorem search_hit {es : List LEnt} {name : ByteArray} {x : Nat} {e : LEnt} (hl : Low es name x) (he : es[x]? = some e) (hc : Lib.compareBytes (nm e) name.data.toList = 0) : findV es name = e.id :=
  findV_at he (low_ne hl) (nm_inj ((cmp_zero _ _).1 hc))
theorem search_miss {es : List LEnt} (ha : Asc es) {name : ByteArray} {x : Nat} {e : LEnt} (hl : Low es name x) (hh : High es name x) (he : es[x]? = some e) (hc : Lib.compareBytes (nm e) name.data.toList ≠ 0) : findV es name = -1 := by
  refine findV_none fun i y hy hn => ?_
  by_cases h1 : i < x
  · exact low_ne hl i h1 y hy hn
  · have hz : nm y = name.data.toList := by unfold nm; rw [hn]
    by_cases h2 : i = x
    · subst h2; rw [he] at hy; cases hy
      exact hc ((cmp_zero _ _).2 hz)
    · have h3 := ha x i e y (by omega) he hy
      rw [hz, ← cmp_less] at h3
      exact hh x (Nat.le_refl _) e he h3
theorem search_end {es : List LEnt} {name : ByteArray} (hl : Low es name es.length) : findV es name = -1 :=
  findV_none fun i y hy => low_ne hl i (List.getElem?_eq_some_iff.1 hy).1 y hy

/-- How a search ends: found, and where; or not. -/
def SearchEnd (es : List LEnt) (name : ByteArray) (e : Ending) : Prop := ∃ (x : Nat) (b : Bool), e = .returned (.tuple #[.int .i64 x, .bool b]) ∧ ((b = true ∧ ∃ k, es[x]? = some k ∧ findV es name = k.id) ∨ (b = false ∧ findV es name = -1))

set_option maxHeartbeats 1000000 in
set_option maxRecDepth 100000 in
theorem search_any (a : Option Addr) (n c : Nat) (es : List LEnt) (L U : Nat) (name : ByteArray) (w : World) (hn : n ≤ 1048576) (ha : Asc es) (hU : U ≤ w.heap.size) (H : EntsAt w L U a n es) :
    Calls Tryz.prog 286 #[.slice a n c, .string name, .func (.func 287) #[] #[]] w fun e w' => SearchEnd es name e ∧ Below w.heap.size w w' := by
  have HL : Hid (n = es.length) := H.len
  go_enter Tryz.func286, Tryz.ntmps286
  go_wp2_with fail
  go_loopg [9, 10] (n + 1) (fun g i j wr => ∃ x y : Nat, x ≤ y ∧ y ≤ n ∧ Hid (g = y - x + 1) ∧ i = .int .i64 x ∧ j = .int .i64 y ∧ Hid (Low es name x ∧ High es name y) ∧ Below w.heap.size w wr)
  case atStart => exact ⟨0, n, by omega, by omega, by show _ = _; omega, rfl, rfl, ⟨fun i hi => by omega, fun i hi e he => by have := (List.getElem?_eq_some_iff.1 he).1; have := HL.out; omega⟩, Below.refl _ _⟩
  case round =>
    obtain ⟨x, y, hxy, hy, hg, rfl, rfl, hq, hb⟩ := hrel
    by_cases hlt : x < y
    · have hlt' : (x : Int) < (y : Int) := by omega
      obtain ⟨h, hh⟩ : ∃ h : Nat, ((x : Int) + (y : Int)) / 2 = (h : Int) := ⟨(x + y) / 2, by omega⟩
      have hh1 : x ≤ h := by omega
      have hh2 : h < y := by omega
      obtain ⟨b, off, ha', hL, hbU, hc⟩ := H.at_ (by omega)
      subst ha'
      obtain ⟨e, he, hsz, hc0, hc1⟩ := hc h (by omega)
      rw [← hb.cell (by simp; omega)] at hc0 hc1
      have HE : Hid (es[h]? = some e) := he
      clear he hc
      have hhn : (h : Int) < (n : Int) := by omega
      have hh0 : (0 : Int) ≤ (h : Int) := by omega
      go_wp2_with fail
      refine (closure_any _ _ _ _).mono ?_
      rintro z w1 ⟨rfl, rfl⟩
      have hb1 : ∀ o, Below w.heap.size w (wr.alloc o) := fun o => hb.alloc hb.size _
      by_cases hcm : Lib.compareBytes e.name.data.toList name.data.toList < 0
      · have HC : Hid (Lib.compareBytes (nm e) name.data.toList < 0) := hcm
        go_wp2_with fail
        go_roundg (y - (h + 1) + 1)
        case measure => have := hg.out; omega
        case rel => exact ⟨h + 1, y, by omega, by omega, rfl, by go_num, rfl, ⟨low_up ha HE.out HC.out, hq.out.2⟩, hb1 _⟩
      · have HC : Hid (¬ Lib.compareBytes (nm e) name.data.toList < 0) := hcm
        go_wp2_with fail
        go_roundg (h - x + 1)
        case measure => have := hg.out; omega
        case rel => exact ⟨x, h, by omega, by omega, rfl, rfl, rfl, ⟨hq.out.1, high_down ha HE.out (by have := HC.out; omega)⟩, hb1 _⟩
    · have hxy' : x = y := by omega
      subst hxy'
      by_cases hxn : x < n
      · obtain ⟨b, off, ha', hL, hbU, hc⟩ := H.at_ (by omega)
        subst ha'
        obtain ⟨e, he, hsz, hc0, hc1⟩ := hc x hxn
        rw [← hb.cell (by simp; omega)] at hc0 hc1
        have HE : Hid (es[x]? = some e) := he
        clear he hc
        have hxn' : (x : Int) < (n : Int) := by omega
        have hx0 : (0 : Int) ≤ (x : Int) := by omega
        have hb1 : ∀ o, Below w.heap.size w (wr.alloc o) := fun o => hb.alloc hb.size _
        go_wp2_with fail
        refine (closure_any _ _ _ _).mono ?_
        rintro z w1 ⟨rfl, rfl⟩
        by_cases hcm : Lib.compareBytes e.name.data.toList name.data.toList = 0
        · have HC : Hid (Lib.compareBytes (nm e) name.data.toList = 0) := hcm
          have t1 : (Lib.compareBytes e.name.data.toList name.data.toList == 0) = true := by simpa using hcm
          clear hcm
          go_wp2_with fail
          go_ret2
          exact ⟨⟨x, true, rfl, .inl ⟨rfl, e, HE.out, search_hit hq.out.1 HE.out HC.out⟩⟩, hb1 _⟩
        · have HC : Hid (Lib.compareBytes (nm e) name.data.toList ≠ 0) := hcm
          have t1 : (Lib.compareBytes e.name.data.toList name.data.toList == 0) = false := by simpa using hcm
          clear hcm
          go_wp2_with fail
          go_ret2
          exact ⟨⟨x, false, rfl, .inr ⟨rfl, search_miss ha hq.out.1 hq.out.2 HE.out HC.out⟩⟩, hb1 _⟩
      · have hxn' : ¬ (x : Int) < (n : Int) := by omega
        have HN : Hid (findV es name = -1) := by
          show _ = _
          refine search_end ?_
          have : es.length = x := by have := HL.out; omega
          rw [this]
          exact hq.out.1
        go_wp2_with fail
        go_ret2
        exact ⟨⟨x, false, rfl, .inr ⟨rfl, HN.out⟩⟩, hb⟩

set_option maxHeartbeats 400000 in
theorem place_any (a : Option Addr) (n c : Nat) (es : List LEnt) (L U : Nat) (name : ByteArray) (w : World) (hn : n ≤ 1048576) (ha : Asc es) (hU : U ≤ w.heap.size) (H : EntsAt w L U a n es) :
    Calls Tryz.prog 284 #[.slice a n c, .string name] w fun e w' => SearchEnd es name e ∧ Below w.heap.size w w' := by
  go_enter Tryz.func284, Tryz.ntmps284
  go_wp2_with fail
  refine (search_any _ _ _ _ L U _ _ hn ha hU H).mono ?_
  rintro z w1 ⟨⟨x, b, rfl, hr⟩, hb⟩
  have HR : Hid ((b = true ∧ ∃ k, es[x]? = some k ∧ findV es name = k.id) ∨ (b = false ∧ findV es name = -1)) := hr
  clear hr
  go_wp2_with fail
  go_ret2
  exact ⟨⟨x, b, rfl, HR.out⟩, hb⟩

set_option maxHeartbeats 400000 in
theorem findKid_any (a : Option Addr) (n c : Nat) (es : List LEnt) (L U : Nat) (name : ByteArray) (w : World) (hn : n ≤ 1048576) (ha : Asc es) (hU : U ≤ w.heap.size) (H : EntsAt w L U a n es) :
    Calls Tryz.prog 283 #[.slice a n c, .string name] w fun e w' => e = .returned (.int .i64 (findV es name)) ∧ Below w.heap.size w w' := by
  go_enter Tryz.func283, Tryz.ntmps283
  go_wp2_with fail
  refine (place_any _ _ _ _ L U _ _ hn ha hU H).mono ?_
  rintro z w1 ⟨⟨x, b, rfl, hr⟩, hb⟩
  rcases hr with ⟨rfl, k, hk, hv⟩ | ⟨rfl, hv⟩
  · have hx : x < n := by rw [H.len]; exact (List.getElem?_eq_some_iff.1 hk).1
    obtain ⟨b, off, ha', hL, hbU, hc⟩ := H.at_ (by omega)
    subst ha'
    obtain ⟨e, he, hsz, hc0, hc1⟩ := hc x hx
    rw [hk] at he
    cases he
    rw [← hb.cell (by simp; omega)] at hc1
    have HV : Hid (findV es name = k.id) := hv
    clear hv hk hc hc0
    have hx0 : (0 : Int) ≤ (x : Int) := by omega
    have hx1 : (x : Int) < (n : Int) := by omega
    go_wp2_with fail
    go_ret
    exact ⟨ret_int HV.out.symm, hb⟩
  · have HV : Hid (findV es name = -1) := hv
    clear hv
    go_wp2_with fail
    go_ret
    exact ⟨ret_int HV.out.symm, hb⟩

set_option maxHeartbeats 400000 in
theorem l1Find_any (a : Option Addr) (n c : Nat) (es : List LEnt) (L U : Nat) (name : ByteArray) (w : World) (H : EntsAt w L U a n es) :
    Calls Tryz.prog 208 #[.slice a n c, .string name] w fun e w' => e = .returned (.int .i64 (findV es name)) ∧ w' = w := by
  have hbd := H.bd
  unfold maxLen at hbd
  go_enter Tryz.func208, Tryz.ntmps208
  go_wp2_with fail
  go_loopg [5] n (fun g i wr => ∃ j : Nat, j ≤ n ∧ Hid (g = n - j) ∧ i = .int .i64 j ∧ Hid (∀ i, i < j → ∀ x, es[i]? = some x → x.name ≠ name) ∧ wr = w)
  case atStart => exact ⟨0, Nat.zero_le _, by show _ = _; omega, rfl, fun i hi => by omega, rfl⟩
  case round =>
    obtain ⟨j, hj, hk, rfl, hq, rfl⟩ := hrel
    by_cases hlt : j < n
    · obtain ⟨b, off, ha, hL, hbU, hc⟩ := H.at_ (by omega)
      subst ha
      obtain ⟨e, he, hsz, hc0, hc1⟩ := hc j hlt
      have HE : Hid (es[j]? = some e) := he
      clear he hc
      cases hid : sEq e.name name
      · have t1 : (e.name.toList == name.toList) = false := hid
        have HI : Hid (e.name ≠ name) := fun hc => by rw [(sEq_iff _ _).2 hc] at hid; cases hid
        clear hid
        go_wp2_with fail
        go_roundg (n - (j + 1))
        case measure => have := hk.out; omega
        case rel =>
          refine ⟨j + 1, by omega, rfl, by go_num, fun i hi x hx => ?_, rfl⟩
          by_cases ee : i = j
          · subst ee
            rw [HE.out] at hx
            cases hx
            exact HI.out
          · exact hq.out i (by omega) x hx
      · have t1 : (e.name.toList == name.toList) = true := hid
        have HI : Hid (e.name = name) := (sEq_iff _ _).1 hid
        clear hid
        go_wp2_with fail
        go_ret
        exact ⟨ret_int (findV_at HE.out hq.out HI.out).symm, rfl⟩
    · go_wp2_with fail
      go_ret
      exact ⟨ret_int (findV_none (fun i x hx => hq.out i (by have := (List.getElem?_eq_some_iff.1 hx).1; have := H.len; omega) x hx)).symm, rfl⟩

end Go.Proofs.YtloopeipheklpaaGreatDoor

/- Plain facts about trees that are ok: going up again and again. -/
namespace Go.Proofs.YtloopeipheklpaaGreatDoor
open Go.RowKit

/-- Going up so many times. -/
def it (os : List LObj) : Nat → Int → Int
  | 0, id => id
  | k + 1, id => it os k (homeIn (flat os) id)
theorem it_add (os : List LObj) : ∀ (j k : Nat) (id : Int), it os (j + k) id = it os k (it os j id)
  | 0, k, id => by simp [it]
  | j + 1, k, id => by
    have : j + 1 + k = (j + k) + 1 := by omega
    rw [this, it, it, it_add os j k]
theorem home_neg {os : List LObj} (hs : specOk os = true) {id : Int} (h : id ≤ 0) : homeIn (flat os) id = -1 := by
  have hi := (specOk_iff os).1 hs
  refine homeIn_off fun x hx e => ?_
  obtain ⟨k, e1, k1, k2⟩ := flat_ids (ids_of_ok hi.2.1) hx
  omega
theorem it_neg {os : List LObj} (hs : specOk os = true) : ∀ (k : Nat) {id : Int}, id < 0 → it os k id < 0
  | 0, _, h => h
  | k + 1, id, h => by
    rw [it, home_neg hs (by omega)]
    exact it_neg hs k (by omega)
theorem under_iff {os : List LObj} (hs : specOk os = true) (dir : Int) : ∀ (k : Nat) (id : Int), under os dir k id = true ↔ 0 ≤ dir ∧ ∃ j, j < k ∧ it os j id = dir
  | 0, id => by simp [under]
  | k + 1, id => by
    unfold under
    by_cases h0 : 0 ≤ id
    · rw [if_pos h0]
      by_cases he : id = dir
      · rw [if_pos he]
        simp
        exact ⟨by omega, 0, by omega, he⟩
      · rw [if_neg he, under_iff hs dir k]
        constructor
        · rintro ⟨h1, j, h2, h3⟩
          exact ⟨h1, j + 1, by omega, h3⟩
        · rintro ⟨h1, j, h2, h3⟩
          cases j with
          | zero => exact absurd h3 he
          | succ j => exact ⟨h1, j, by omega, h3⟩
    · rw [if_neg h0]
      simp
      intro h1 j _ h3
      have := it_neg hs j (id := id) (by omega)
      omega
theorem climb_it (os : List LObj) : ∀ (k : Nat) (id : Int), climb os k id = 0 → ∃ m, m ≤ k ∧ it os m id = 0
  | 0, id, h => ⟨0, Nat.le_refl _, h⟩
  | k + 1, id, h => by
    by_cases h0 : 0 < id
    · rw [climb_step os k h0] at h
      obtain ⟨m, hm, e⟩ := climb_it os k _ h
      exact ⟨m + 1, by omega, e⟩
    · rw [climb_stop os (k + 1) h0] at h
      exact ⟨0, by omega, h⟩
/-- From each object that is there one comes to the top. -/
theorem depth {os : List LObj} (hs : specOk os = true) {id : Int} (h : hasB os id = true) : ∃ m, m ≤ 32 ∧ it os m id = 0 := by
  have hi := (specOk_iff os).1 hs
  simp [hasB] at h
  have hc := hi.2.2.2.2 id.toNat (by omega) h.2
  have e : ((id.toNat : Nat) : Int) = id := by omega
  rw [e] at hc
  obtain ⟨m, hm, e⟩ := climb_it os 31 id hc
  exact ⟨m, by omega, e⟩
theorem depth31 {os : List LObj} (hs : specOk os = true) {id : Int} (h : hasB os id = true) : ∃ m, m ≤ 31 ∧ it os m id = 0 := by
  have hi := (specOk_iff os).1 hs
  simp [hasB] at h
  have hc := hi.2.2.2.2 id.toNat (by omega) h.2
  have e : ((id.toNat : Nat) : Int) = id := by omega
  rw [e] at hc
  exact climb_it os 31 id hc
theorem it_end {os : List LObj} (hs : specOk os = true) {id : Int} {m j : Nat} (hm : it os m id = 0) (hj : 0 ≤ it os j id) : j ≤ m := by
  apply Classical.byContradiction
  intro hn
  obtain ⟨k, rfl⟩ : ∃ k, j = m + (k + 1) := ⟨j - m - 1, by omega⟩
  rw [it_add, hm, it, home_neg hs (by omega)] at hj
  have := it_neg hs k (id := -1) (by omega)
  omega
theorem has_iff (os : List LObj) (id : Int) : hasB os id = true ↔ 0 ≤ id ∧ id < 32 ∧ kindOf os id.toNat ≠ 0 := by
  simp [hasB]; omega
/-- What has names is a directory. -/
theorem kids_dir {o : LObj} (h : objB o = true) (hk : o.kids ≠ []) : o.kind = 2 ∧ kidsB o.kids = true := by
  unfold objB at h
  rw [Bool.and_eq_true] at h
  have h2 := h.2
  have hn : ¬ nil? o.kids.length = true := by
    unfold nil?
    simp
    exact hk
  unfold partsB at h2
  split at h2
  · rw [Bool.and_eq_true] at h2; exact absurd h2.2 hn
  · split at h2
    · rw [Bool.and_eq_true] at h2; exact absurd h2.2 hn
    · split at h2
      · next h3 => rw [Bool.and_eq_true] at h2; exact ⟨h3, h2.2⟩
      · cases h2
end Go.Proofs.YtloopeipheklpaaGreatDoor

/- Plain facts about paths of trees that are ok. -/
namespace Go.Proofs.YtloopeipheklpaaGreatDoor
open Go.RowKit

theorem less_self (l : List UInt8) : Op.bytesLess l l = false := by
  induction l with
  | nil => simp [Op.bytesLess]
  | cons x t ih => simp [Op.bytesLess, ih]
end Go.Proofs.YtloopeipheklpaaGreatDoor

/- A tree of the call's own: the names of one object change. -/
namespace Go.Proofs.YtloopeipheklpaaGreatDoor
open Go.RowKit

/-- Object i gets other names, in a slice v that is in no other object's row. -/
theorem OwnT.setKids {w : World} {B b c : Nat} {os : List LObj} {vs : Nat → Value} (h : OwnT w B b c os vs) {i : Nat} {o : LObj} (ho : os[i]? = some o) {v : Value} {es : List LEnt} (hv : OwnEnts w B v es) (hs : ∀ e ∈ es, e.name.size ≤ maxLen)
    (ha : ∀ j g, j < os.length → j ≠ i → v.ownBlock = some g → (vs j).ownBlock ≠ some g) : OwnT (w.setCell ⟨b, i * 4 + 3, none⟩ v) B b c (os.set i { o with kids := es }) (fun j => if j = i then v else vs j) := by
  obtain ⟨cur, hg, hcs, hlc, hcm⟩ := h.row
  have hlt : i < os.length := (List.getElem?_eq_some_iff.1 ho).1
  refine ⟨h.lo, ⟨_, heap_setCell_same w b (i * 4 + 3) cur 165 _ hg, by simpa using hcs, by simpa using hlc, hcm⟩, fun j p hp => ?_, fun j k g hj hk hjk => ?_⟩
  · by_cases hji : j = i
    · subst hji
      rw [List.getElem?_set_self hlt] at hp
      simp at hp; subst hp
      obtain ⟨h1, h2, h3, h4, h5, h6, h7⟩ := h.at_ j o ho
      simp only [if_true]
      refine ⟨h1, ?_, ?_, ?_, ?_, kept_set hv (h.kids_ne hv), hs⟩
      · rw [World.cell?_setCell_other _ _ _ _ (by simp)]; exact h2
      · rw [World.cell?_setCell_other _ _ _ _ (by simp)]; exact h3
      · rw [World.cell?_setCell_other _ _ _ _ (by simp)]; exact h4
      · rw [World.cell?_setCell_same _ _ _ h5]
    · rw [List.getElem?_set_ne (Ne.symm hji)] at hp
      obtain ⟨h1, h2, h3, h4, h5, h6, h7⟩ := h.at_ j p hp
      simp only [if_neg hji]
      refine ⟨h1, ?_, ?_, ?_, ?_, kept_set h6 (h.kids_ne h6), h7⟩ <;> (rw [World.cell?_setCell_other _ _ _ _ (by simp <;> omega)]; assumption)
  · simp at hj hk
    by_cases hji : j = i
    · have hki : k ≠ i := fun e => hjk (by rw [hji, e])
      simp only [if_pos hji, if_neg hki]
      exact ha k g hk hki
    · by_cases hki : k = i
      · simp only [if_neg hji, if_pos hki]
        exact fun e1 e2 => ha j g hj hji e2 e1
      · simp only [if_neg hji, if_neg hki]
        exact h.apart j k g hj hk hjk

/-- A growing in one object's row of names (or in none) leaves all other objects; that one's names are given anew. -/
theorem OwnT.putKids {w w' : World} {B b c : Nat} {os : List LObj} {vs : Nat → Value} (h : OwnT w B b c os vs) {i : Nat} {o : LObj} (ho : os[i]? = some o) {row : Option Nat} (hg : w.grownBy w' row) (hrow : row = none ∨ row = (vs i).ownBlock) {v : Value} {es : List LEnt} (hv : OwnEnts w' B v es) (hs : ∀ e ∈ es, e.name.size ≤ maxLen)
    (hat : ∀ g, v.ownBlock = some g → (vs i).ownBlock = some g ∨ w.heap.size ≤ g) : OwnT (w'.setCell ⟨b, i * 4 + 3, none⟩ v) B b c (os.set i { o with kids := es }) (fun j => if j = i then v else vs j) := by
  have hlt : i < os.length := (List.getElem?_eq_some_iff.1 ho).1
  obtain ⟨cur, hr, hcs, hlc, hcm⟩ := h.row
  obtain ⟨q1, q2, q3, q4, q5, q6, q7⟩ := h.at_ i o ho
  have hbr : some b ≠ row := by
    rcases hrow with rfl | rfl
    · simp
    · exact fun e => h.kids_ne q6 e.symm
  have hcell : ∀ k, w'.cell? ⟨b, k, none⟩ = w.cell? ⟨b, k, none⟩ := fun k => hg.cell_far _ h.lt hbr
  have hr' : w'.heap[b]? = some (.cells cur 165 (0, 0)) := by rw [hg.block b h.lt hbr]; exact hr
  have hvb : v.ownBlock ≠ some b := by
    intro e
    rcases hat b e with h1 | h1
    · exact h.kids_ne q6 h1
    · have := h.lt; omega
  have hothers : ∀ j p, os[j]? = some p → j ≠ i → OwnEnts w' B (vs j) p.kids := fun j p hp hji => by
    obtain ⟨h1, h2, h3, h4, h5, h6, h7⟩ := h.at_ j p hp
    have hlj : j < os.length := (List.getElem?_eq_some_iff.1 hp).1
    refine World.ownsRow.kept h6 hg ?_
    rcases hrow with rfl | rfl
    · cases hx : (vs j).ownBlock <;> simp
    · cases hx : (vs j).ownBlock with
      | none => simp
      | some g => exact .inr (fun e => h.apart j i g hlj hlt hji hx e.symm)
  refine ⟨h.lo, ⟨_, heap_setCell_same w' b (i * 4 + 3) cur 165 _ hr', by simpa using hcs, by simpa using hlc, hcm⟩, fun j p hp => ?_, fun j k g hj hk hjk => ?_⟩
  · by_cases hji : j = i
    · subst hji
      rw [List.getElem?_set_self hlt] at hp
      simp at hp; subst hp
      simp only [if_true]
      refine ⟨q1, ?_, ?_, ?_, ?_, kept_set hv hvb, hs⟩
      · rw [World.cell?_setCell_other _ _ _ _ (by simp), hcell]; exact q2
      · rw [World.cell?_setCell_other _ _ _ _ (by simp), hcell]; exact q3
      · rw [World.cell?_setCell_other _ _ _ _ (by simp), hcell]; exact q4
      · rw [World.cell?_setCell_same _ _ _ (by rw [hcell]; exact q5)]
    · rw [List.getElem?_set_ne (Ne.symm hji)] at hp
      obtain ⟨h1, h2, h3, h4, h5, h6, h7⟩ := h.at_ j p hp
      simp only [if_neg hji]
      refine ⟨h1, ?_, ?_, ?_, ?_, kept_set (hothers j p hp hji) (h.kids_ne h6), h7⟩ <;> (rw [World.cell?_setCell_other _ _ _ _ (by simp <;> omega), hcell]; assumption)
  · simp at hj hk
    have hother : ∀ k, k < os.length → k ≠ i → ∀ g, v.ownBlock = some g → (vs k).ownBlock ≠ some g := fun k hk hki g e1 e2 => by
      rcases hat g e1 with h1 | h1
      · exact h.apart k i g hk hlt hki e2 h1
      · obtain ⟨p, hp⟩ : ∃ p, os[k]? = some p := ⟨os[k], by simp⟩
        have := ((h.at_ k p hp).2.2.2.2.2.1.lt g e2).2
        omega
    by_cases hji : j = i
    · have hki : k ≠ i := fun e => hjk (by rw [hji, e])
      simp only [if_pos hji, if_neg hki]
      exact hother k hk hki g
    · by_cases hki : k = i
      · simp only [if_neg hji, if_pos hki]
        exact fun e1 e2 => hother j hj hji g e2 e1
      · simp only [if_neg hji, if_neg hki]
        exact h.apart j k g hj hk hjk
end Go.Proofs.YtloopeipheklpaaGreatDoor

/- Putting a name into names that the call owns, nil or not. -/
namespace Go.Proofs.YtloopeipheklpaaGreatDoor
open Go.RowKit

theorem OwnEnts.bare (w : World) (B : Nat) : OwnEnts w B (.slice none 0 0) [] := ⟨rfl, .inl ⟨rfl, rfl⟩⟩

theorem step_app_nil (w : World) {ops : Array Oper} {o : Oper} {a : Act} {K : Act → World → Prop} {Q : Exit → Act → World → Prop} {E : Prop} (hgd : o.guard = none) (s x : Operand)
    (ho : o.op = .call { callee := .builtin .append, args := #[s, x], argTypes := #[163, 163] }) (B : Nat) (y : LEnt) (ad : Addr) (c : Nat)
    (hs : a.eval s = .slice none 0 0) (hx : a.eval x = .slice (some ad) 1 c)
    (hnews : ∀ j u, (entCells [y])[j]? = some u → w.cell? (ad.add j) = some u) (hB : B ≤ w.heap.size)
    (h : ∀ g' cap' w', OwnEnts w' B (.slice (some ⟨g', 0, none⟩) 1 cap') [y] → w.grownBy w' none → Hid (g' = w.heap.size) → K (a.put o.dst (.slice (some ⟨g', 0, none⟩) 1 cap')) w') :
    if Region.wanted o (yielded ops a.tmps) = true then Oper.wp Tryz.prog o a w K Q else E := by
  have hw : Region.wanted o (yielded ops a.tmps) = true := by simp [Region.wanted, hgd]
  rw [if_pos hw]
  obtain ⟨i0, hi, hz0, hz1, hz2⟩ := info_parts info47'
  obtain ⟨v', w', hr, h2, h3, h4, h5⟩ := run_append_own_at (P := Tryz.prog) w B 163 o.type 247 i0 _ 2 24 Tryz.underlying163 hi hz0 hz1 hz2 rfl (by decide) _ _ _ (OwnEnts.bare w B) ad 1 c (entCells [y]) (entCells_len _) hnews (entCells_one _) (by simp [maxLen]) (by simp) hB
  have h2' := h2
  rcases h2.2 with ⟨hv, _⟩ | ⟨g', cap', cur, rfl, hb, hg, _⟩
  · have := (h4.1 hv).2; simp at this
  · have h5' : g' = w.heap.size := by simpa [Value.ownBlock] using h5
    unfold Oper.wp execOp
    simp only [ho, resolve, invoke, builtin, Sem.run_bind, Sem.run_pure, Result.andThen_ok, List.map_toArray, List.map_cons, List.map_nil, hs, hx, hr]
    exact h g' cap' w' (by simpa [OwnEnts, entCells] using h2') (by simpa [Value.ownBlock] using h3) h5'
theorem step_app_zero (w : World) {ops : Array Oper} {o : Oper} {a : Act} {K : Act → World → Prop} {Q : Exit → Act → World → Prop} {E : Prop} (hgd : o.guard = none) (s x : Operand)
    (ho : o.op = .call { callee := .builtin .append, args := #[s, x], argTypes := #[163, 163] }) (B g n cap : Nat) (l : List LEnt) (hn : n = l.length) (hown : OwnEnts w B (.slice (some ⟨g, 0, none⟩) n cap) l) (ka : Option Addr) (kc : Nat)
    (hs : a.eval s = .slice (some ⟨g, 0, none⟩) n cap) (hx : a.eval x = .slice ka 0 kc)
    (h : K (a.put o.dst (.slice (some ⟨g, 0, none⟩) (n + 0) cap)) w) :
    if Region.wanted o (yielded ops a.tmps) = true then Oper.wp Tryz.prog o a w K Q else E := by
  have hw : Region.wanted o (yielded ops a.tmps) = true := by simp [Region.wanted, hgd]
  rw [if_pos hw]
  obtain ⟨i0, hi, hz0, hz1, hz2⟩ := info_parts info47'
  have hle : n ≤ cap := by
    rcases hown.2 with ⟨h', _⟩ | ⟨g', cap', cur, h', _, _, hnc, _⟩
    · simp at h'
    · simp at h'; omega
  have hsrc : Src Tryz.prog i0.size 163 (.slice ka 0 kc) 0 [] w := by
    cases ka with
    | none => exact Src.ofNil w Tryz.underlying163 kc
    | some ad => exact Src.ofSlice w Tryz.underlying163 ad 0 kc [] (by simp) (fun j u hu => by simp at hu) (fun u hu => by simp at hu)
  have hrun := run_append_nothing (P := Tryz.prog) w 163 163 o.type 247 i0 Tryz.underlying163 hi (some ⟨g, 0, none⟩) n cap hle _ hsrc
  unfold Oper.wp execOp
  simp only [ho, resolve, invoke, builtin, Sem.run_bind, Sem.run_pure, Result.andThen_ok, List.map_toArray, List.map_cons, List.map_nil, hs, hx, hrun]
  exact h

def PutV (w : World) (B : Nat) (v : Value) (x : LEnt) (es : List LEnt) (e : Ending) (w' : World) : Prop :=
  ∃ v', e = .returned v' ∧ OwnEnts w' B v' (putL x es) ∧ w.grownBy w' v.ownBlock ∧ ∀ g, v'.ownBlock = some g → v.ownBlock = some g ∨ w.heap.size ≤ g

set_option maxHeartbeats 1000000 in
set_option maxRecDepth 20000 in
theorem put_nil (B : Nat) (x : LEnt) (w : World) (hB : B ≤ w.heap.size) :
    Calls Tryz.prog 209 #[.slice none 0 0, .agg #[.string x.name, .int .i64 x.id]] w fun e w' => PutV w B (.slice none 0 0) x [] e w' := by
  go_enter Tryz.func209, Tryz.ntmps209
  go_wp2_with fail
  go_loopg [5] 0 (fun k i wr => i = .int .i64 0 ∧ Hid (∃ m, wr = (w.alloc (.cells #[.string x.name, .int .i64 x.id] 247)).drewN m))
  case atStart => exact ⟨rfl, 0, rfl⟩
  case round =>
    obtain ⟨rfl, hwr⟩ := hrel
    have hbx : wr.cell? ⟨w.heap.size, 0, none⟩ = some (.string x.name) := by obtain ⟨m, rfl⟩ := hwr.out; show World.cell? (w.alloc _) _ = _; simp [go_sem]
    go_wp2_with fail
    go_quiet (fail)
    obtain ⟨W, hW⟩ : ∃ W, Hid (W = wr.drewN nq) := ⟨_, rfl⟩
    rw [← hW.out]
    have HWsz : W.heap.size = w.heap.size + 1 := by rw [hW.out]; obtain ⟨m, hm⟩ := hwr.out; rw [hm]; simp
    have hW0 : W.cell? ⟨w.heap.size, 0, none⟩ = some (.string x.name) := by rw [hW.out]; obtain ⟨m, hm⟩ := hwr.out; rw [hm]; show World.cell? (w.alloc _) _ = _; simp [go_sem]
    have hW1 : W.cell? ⟨w.heap.size, 1, none⟩ = some (.int .i64 x.id) := by rw [hW.out]; obtain ⟨m, hm⟩ := hwr.out; rw [hm]; show World.cell? (w.alloc _) _ = _; simp [go_sem]
    have hWg : Hid (w.grownBy W none) := by
      show World.grownBy _ _ _
      rw [hW.out]; obtain ⟨m, hm⟩ := hwr.out; rw [hm]
      exact ⟨rfl, rfl, rfl, by simp, fun k hk _ => (World.grownBy_alloc w _ none).block k hk (by simp)⟩
    have HWS : Hid (W.heap.size = w.heap.size + 1) := HWsz
    clear hbx HWsz
    go_wp2_with (first
      | (at_builtin; refine wpList_app_zero _ rfl _ _ rfl W.heap.size W.heap.size 0 0 [] rfl (OwnEnts.empty W _ (Nat.le_refl _)) none 0 rfl rfl ?_)
      | go_in)
    intro g1 cap1 w1 hend1
    have hWsz := HWS.out
    have hbx0 : w1.cell? ⟨w.heap.size, 0, none⟩ = some (.string x.name) := by
      rw [hend1.grown.cell_far _ (by simp; omega) (by simp; omega), (World.grownBy_alloc W _ none).cell_far _ (by simp; omega) (by simp)]; exact hW0
    have hbx1 : w1.cell? ⟨w.heap.size, 1, none⟩ = some (.int .i64 x.id) := by
      rw [hend1.grown.cell_far _ (by simp; omega) (by simp; omega), (World.grownBy_alloc W _ none).cell_far _ (by simp; omega) (by simp)]; exact hW1
    have hG1 : Hid (w.grownBy w1 none) := hWg.out.trans ((World.grownBy_alloc W (Obj.cells #[] 247) none).andThen hend1.grown (fun k hk => by simp at hk; omega))
    have hzz : W.heap.size + 1 ≤ w1.heap.size := by simpa using hend1.grown.size
    clear hend1 hWsz
    have hBw : B ≤ w1.heap.size := by have := HWS.out; omega
    go_wp2_with fail
    go_region_law (first
      | ((refine step_app_nil _ rfl (.tmp 30) (.tmp 32) rfl B x ⟨w1.heap.size, 0, none⟩ 1 (by simp [Act.eval]) (by simp [Act.eval]) (fun i u hu => two_at hu) (by simp; omega) ?_; intro g2 cap2 w2 hown2 hgr2 hat2))
      | ((refine step_app_zero _ rfl (.tmp 33) (.tmp 34) rfl B g2 1 cap2 [x] rfl hown2 (some ⟨g1, 0, none⟩) cap1 (by simp [Act.eval]) (by simp [Act.eval]) ?_)))
    all_goals
      go_wp2_with fail
      go_ret
      have hz2 := hat2.out
      have hws := HWS.out
      simp at hz2
      refine ⟨_, rfl, ?_, ?_, fun g hg => .inr ?_⟩
      · exact hown2
      · refine (hG1.out.trans ((World.grownBy_alloc w1 (Obj.cells #[Value.string x.name, Value.int IntKind.i64 x.id] 247) none).trans ?_)).trans hgr2
        exact ⟨rfl, rfl, rfl, Nat.le_refl _, fun _ _ _ => rfl⟩
      · have hg' : g2 = g := Option.some.inj hg
        omega

theorem put_val (B : Nat) (v : Value) (es : List LEnt) (x : LEnt) (w : World) (hn2 : es.length ≤ 1000000) (hB : B ≤ w.heap.size) (H : OwnEnts w B v es) :
    Calls Tryz.prog 209 #[v, .agg #[.string x.name, .int .i64 x.id]] w fun e w' => PutV w B v x es e w' := by
  have H' := H
  rcases H.2 with ⟨rfl, h0⟩ | ⟨g, cap, cur, rfl, _⟩
  · obtain rfl : es = [] := List.eq_nil_of_length_eq_zero h0
    exact put_nil B x w hB
  · refine (put_any B g cap es.length es x w rfl hn2 hB H').mono ?_
    rintro e w' ⟨g', cap', rfl, h1, h2, h3⟩
    refine ⟨_, rfl, ?_, h2, fun k hk => ?_⟩
    · exact h1
    · simp [Value.ownBlock] at hk ⊢
      omega
end Go.Proofs.YtloopeipheklpaaGreatDoor

/- What is done, of a tree of one's own: the frame of the calls. -/
namespace Go.Proofs.YtloopeipheklpaaGreatDoor
open Go.RowKit

/-- Blocks that are no part of the tree are as they were. -/
def Kt (w w' : World) (b n : Nat) (vs : Nat → Value) : Prop := ∀ q, q < w.heap.size → q ≠ b → (∀ i, i < n → (vs i).ownBlock ≠ some q) → w'.heap[q]? = w.heap[q]?
def DoEnd (w : World) (B b c n : Nat) (vs : Nat → Value) (r : List LObj × Int) (e : Ending) (w' : World) : Prop :=
  ∃ vs', e = .returned (.tuple #[.agg #[.slice (some ⟨b, 0, none⟩) r.1.length c], .int .i64 r.2]) ∧ OwnT w' B b c r.1 vs' ∧ Below B w w' ∧ Kt w w' b n vs
theorem Kt.of_below {w W : World} (h : Below w.heap.size w W) (b n : Nat) (vs : Nat → Value) : Kt w W b n vs := fun q hq _ _ => h.block q hq
theorem Kt.step {w W W' : World} {b n : Nat} {vs : Nat → Value} (h : Kt w W b n vs) (hs : ∀ q, q < w.heap.size → q ≠ b → (∀ i, i < n → (vs i).ownBlock ≠ some q) → W'.heap[q]? = W.heap[q]?) : Kt w W' b n vs := fun q h1 h2 h3 => (hs q h1 h2 h3).trans (h q h1 h2 h3)
theorem Kt.set {w W : World} {b n : Nat} {vs : Nat → Value} (h : Kt w W b n vs) (k : Nat) (v : Value) : Kt w (W.setCell ⟨b, k, none⟩ v) b n vs := h.step fun q _ h2 _ => Below.heap_setCell W ⟨b, k, none⟩ v q h2
theorem Kt.setNew {w W : World} {b n : Nat} {vs : Nat → Value} (h : Kt w W b n vs) {g : Nat} (hg : w.heap.size ≤ g) (k : Nat) (v : Value) : Kt w (W.setCell ⟨g, k, none⟩ v) b n vs := h.step fun q h1 _ _ => Below.heap_setCell W ⟨g, k, none⟩ v q (by simp; omega)
theorem Kt.turn {w W W' : World} {b n : Nat} {vs : Nat → Value} (h : Kt w W b n vs) (hs : w.heap.size ≤ W.heap.size) (hg : W.grownBy W' (some b)) : Kt w W' b n vs := h.step fun q h1 h2 _ => hg.block q (by omega) (by simpa using h2)
theorem OwnT.below {w w' : World} {B b c : Nat} {os : List LObj} {vs : Nat → Value} (h : OwnT w B b c os vs) (hb : Below w.heap.size w w') : OwnT w' B b c os vs :=
  h.grown (row := none) ⟨hb.os, hb.tape, hb.output, hb.size, fun k hk _ => hb.block k hk⟩ (by simp) fun i _ => by cases hv : (vs i).ownBlock <;> simp

/-- The three boxes of a call: the tree, what is done, and the tree that is answered. -/
structure Fr (A : Nat) (W : World) (b c n : Nat) (o : LOp) : Prop where
  size : A + 1 + 1 < W.heap.size
  t : W.cell? ⟨A, 0, none⟩ = some (.slice (some ⟨b, 0, none⟩) n c)
  o0 : W.cell? ⟨A + 1, 0, none⟩ = some (.int .i64 o.kind)
  o1 : W.cell? ⟨A + 1, 1, none⟩ = some (.int .i64 o.dir)
  o2 : W.cell? ⟨A + 1, 2, none⟩ = some (.string o.name)
  o3 : W.cell? ⟨A + 1, 3, none⟩ = some (.int .i64 o.dir2)
  o4 : W.cell? ⟨A + 1, 4, none⟩ = some (.string o.name2)
  o5 : W.cell? ⟨A + 1, 5, none⟩ = some (.int .i64 o.id)
  o6 : W.cell? ⟨A + 1, 6, none⟩ = some (.string o.text)
  r : ∃ f, W.rowIs (A + 1 + 1) 26 1 f
  tb : ∃ f, W.rowIs A 26 1 f
theorem Fr.start (w : World) (b c n : Nat) (o : LOp) (v : Value) : Fr w.heap.size (((w.alloc (.cells #[.slice (some ⟨b, 0, none⟩) n c] 26)).alloc (.cells #[.int .i64 o.kind, .int .i64 o.dir, .string o.name, .int .i64 o.dir2, .string o.name2, .int .i64 o.id, .string o.text] 130)).alloc (.cells #[v] 26)) b c n o :=
  ⟨by simp, by simp [go_sem], by simp [go_sem], by simp [go_sem], by simp [go_sem], by simp [go_sem], by simp [go_sem], by simp [go_sem], by simp [go_sem], ⟨fun _ => v, by simpa using World.rowIs_alloc ((w.alloc (.cells #[.slice (some ⟨b, 0, none⟩) n c] 26)).alloc (.cells #[.int .i64 o.kind, .int .i64 o.dir, .string o.name, .int .i64 o.dir2, .string o.name2, .int .i64 o.id, .string o.text] 130)) #[v] 26 (fun _ => v) (fun i hi => by simp at hi; subst hi; rfl)⟩, ⟨fun _ => .slice (some ⟨b, 0, none⟩) n c, ((World.rowIs_alloc w #[.slice (some ⟨b, 0, none⟩) n c] 26 (fun _ => .slice (some ⟨b, 0, none⟩) n c) (fun i hi => by simp at hi; subst hi; rfl)).alloc _).alloc _⟩⟩
theorem Fr.of_blocks {A b c n : Nat} {W W' : World} {o : LOp} (h : Fr A W b c n o) (hs : W.heap.size ≤ W'.heap.size) (hb : ∀ q, A ≤ q → q ≤ A + 1 + 1 → W'.heap[q]? = W.heap[q]?) : Fr A W' b c n o := by
  have c0 : ∀ i, W'.cell? ⟨A, i, none⟩ = W.cell? ⟨A, i, none⟩ := fun i => World.cell?_of_block (w := W) (hb A (Nat.le_refl _) (by omega))
  have c1 : ∀ i, W'.cell? ⟨A + 1, i, none⟩ = W.cell? ⟨A + 1, i, none⟩ := fun i => World.cell?_of_block (w := W) (hb (A + 1) (by omega) (by omega))
  obtain ⟨x, hx⟩ := h.r
  obtain ⟨y, hy⟩ := h.tb
  exact ⟨by have := h.size; omega, by rw [c0]; exact h.t, by rw [c1]; exact h.o0, by rw [c1]; exact h.o1, by rw [c1]; exact h.o2, by rw [c1]; exact h.o3, by rw [c1]; exact h.o4, by rw [c1]; exact h.o5, by rw [c1]; exact h.o6, ⟨x, hx.of_block (hb _ (by omega) (Nat.le_refl _))⟩, ⟨y, hy.of_block (hb _ (Nat.le_refl _) (by omega))⟩⟩
theorem Fr.next {A b c n : Nat} {W W' : World} {o : LOp} (h : Fr A W b c n o) (hb : Below W.heap.size W W') : Fr A W' b c n o :=
  h.of_blocks hb.size fun q _ h2 => hb.block q (by have := h.size; omega)
theorem Fr.res {A b c n : Nat} {W : World} {o : LOp} (h : Fr A W b c n o) : (∃ x, W.cell? ⟨A + 1 + 1, 0, none⟩ = some x) ∧ W.frozen? ⟨A + 1 + 1, 0, none⟩ = false := by
  obtain ⟨x, hx⟩ := h.r
  exact ⟨⟨_, hx.cell (by omega)⟩, hx.frozen 0⟩

/-- A store into a box leaves the tree. -/
theorem OwnT.setBox {W : World} {B b c q : Nat} {os : List LObj} {vs : Nat → Value} (h : OwnT W B b c os vs) (hq' : ∃ f, W.rowIs q 26 1 f) (k : Nat) (v : Value) : OwnT (W.setCell ⟨q, k, none⟩ v) B b c os vs := by
  obtain ⟨f, cs, hq, _⟩ := hq'
  obtain ⟨cur, hr, _⟩ := h.row
  refine h.grown (row := some q) ⟨rfl, rfl, rfl, by simp, fun i _ hi => Below.heap_setCell W ⟨q, k, none⟩ v i (by intro e; exact hi (by simp [e]))⟩ ?_ fun i hi => ?_
  · intro e
    simp at e
    subst e
    rw [hr] at hq
    simp at hq
  · have ho : os[i]? = some os[i] := by simp [hi]
    obtain ⟨_, _, _, _, _, h6, _⟩ := h.at_ i _ ho
    rcases h6.2 with ⟨hn, _⟩ | ⟨g, cap, cur', hn, _, hg, _⟩
    · left; rw [hn]; rfl
    · right
      rw [hn]
      intro e
      simp [Value.ownBlock] at e
      subst e
      rw [hg] at hq
      simp at hq

/-- An object is put anew, without text and names. -/
def put4 (W : World) (b i : Nat) (k v : Int) : World := (((W.setCell ⟨b, i * 4, none⟩ (.int .i64 k)).setCell ⟨b, i * 4 + 1, none⟩ (.int .i64 v)).setCell ⟨b, i * 4 + 2, none⟩ (.string ⟨#[]⟩)).setCell ⟨b, i * 4 + 3, none⟩ (.slice none 0 0)
theorem put4_size (W : World) (b i : Nat) (k v : Int) : (put4 W b i k v).heap.size = W.heap.size := by simp [put4]
theorem put4_block (W : World) (b i : Nat) (k v : Int) {q : Nat} (h : q ≠ b) : (put4 W b i k v).heap[q]? = W.heap[q]? := by
  unfold put4
  rw [Below.heap_setCell _ _ _ q (by simpa using h), Below.heap_setCell _ _ _ q (by simpa using h), Below.heap_setCell _ _ _ q (by simpa using h), Below.heap_setCell _ _ _ q (by simpa using h)]
theorem put4_below {w W : World} {B b : Nat} (i : Nat) (k v : Int) (h : Below B w W) (hb : B ≤ b) : Below B w (put4 W b i k v) :=
  (((h.setCell (by simpa using hb) _).setCell (by simpa using hb) _).setCell (by simpa using hb) _).setCell (by simpa using hb) _
theorem OwnT.put4 {W : World} {B b c i : Nat} {os : List LObj} {vs : Nat → Value} {x : LObj} (h : OwnT W B b c os vs) (hx : os[i]? = some x) (k v : Int) :
    OwnT (put4 W b i k v) B b c (os.set i ⟨k, v, ⟨#[]⟩, []⟩) (fun j => if j = i then .slice none 0 0 else vs j) := by
  have hl : i < os.length := (List.getElem?_eq_some_iff.1 hx).1
  have s1 := h.setKind hx k
  have s2 := s1.setVer (i := i) (o := { x with kind := k }) (List.getElem?_set_self hl) v
  rw [List.set_set] at s2
  have s3 := s2.setText (i := i) (o := { x with kind := k, ver := v }) (List.getElem?_set_self hl) ⟨#[]⟩ (Nat.zero_le _)
  rw [List.set_set] at s3
  have s4 := s3.setKids (i := i) (o := { x with kind := k, ver := v, text := ⟨#[]⟩ }) (List.getElem?_set_self hl) (OwnEnts.bare _ B) (by intro e he; cases he) (fun _ _ _ _ h => by cases h)
  rw [List.set_set] at s4
  exact s4
theorem Kt.put4 {w W : World} {b n i : Nat} {vs : Nat → Value} {k v : Int} (h : Kt w W b n vs) : Kt w (put4 W b i k v) b n vs := h.step fun _ _ h2 _ => put4_block W b i k v h2
theorem Fr.put4 {A b c n i : Nat} {W : World} {o : LOp} {k v : Int} (h : Fr A W b c n o) (hb : b < A) : Fr A (put4 W b i k v) b c n o :=
  h.of_blocks (by rw [put4_size]; exact Nat.le_refl _) fun q h1 _ => put4_block W b i k v (by omega)

theorem mem_putL {x e : LEnt} {es : List LEnt} (h : e ∈ putL x es) : e = x ∨ e ∈ es := by
  unfold putL at h
  simp at h
  rcases h with h | h | h
  · exact .inr (List.mem_of_mem_take h)
  · exact .inl h
  · exact .inr (List.mem_of_mem_drop h)
/-- What grows in a row of names leaves the boxes. -/
theorem Fr.grown {A b c n : Nat} {W W' : World} {o : LOp} {row : Option Nat} (h : Fr A W b c n o) (hg : W.grownBy W' row) (hr : ∀ g, row = some g → g < A ∨ A + 1 + 1 < g) : Fr A W' b c n o :=
  h.of_blocks hg.size fun q h1 h2 => hg.block q (by have := h.size; omega) fun e => by
    rcases hr q e.symm with h | h <;> omega
theorem Fr.set {A b c n : Nat} {W : World} {o : LOp} (h : Fr A W b c n o) (hb : b < A) (k : Nat) (v : Value) : Fr A (W.setCell ⟨b, k, none⟩ v) b c n o :=
  h.of_blocks (by simp) fun q h1 _ => Below.heap_setCell W ⟨b, k, none⟩ v q (by simp; omega)

/-- Behind a change of one object's names ahead of its store. -/
structure KidsFr (A : Nat) (w W W' : World) (B b c n j : Nat) (o : LOp) (os : List LObj) (vs : Nat → Value) (v v' : Value) (es : List LEnt) : Prop where
  fr : Fr A W' b c n o
  cell : W'.cell? ⟨b, j * 4 + 3, none⟩ = some v
  frozen : W'.frozen? ⟨b, j * 4 + 3, none⟩ = false
  lt : b < W'.heap.size
  size : A + 1 + 1 < W'.heap.size
  below : Below B w W'
  keep : ∀ q, q < W.heap.size → v.ownBlock ≠ some q → W'.heap[q]? = W.heap[q]?
  done : ∀ d, os[j]? = some d → (∀ e ∈ es, e.name.size ≤ maxLen) → OwnT (W'.setCell ⟨b, j * 4 + 3, none⟩ v') B b c (os.set j { d with kids := es }) (fun q => if q = j then v' else vs q)
theorem kidsFr {A B b c n j : Nat} {w W W' : World} {o : LOp} {os : List LObj} {vs : Nat → Value} {v v' : Value} {es : List LEnt} {row : Option Nat} (hF : Fr A W b c n o) (hT : OwnT W B b c os vs) (hb : Below B w W) (hB : B ≤ W.heap.size) {d : LObj} (hd : os[j]? = some d) (hv : vs j = v)
    (hg : W.grownBy W' row) (hrow : row = none ∨ row = v.ownBlock) (hA : ∀ g, v.ownBlock = some g → g < A ∨ A + 1 + 1 < g) (ho : OwnEnts W' B v' es) (hat : ∀ g, v'.ownBlock = some g → v.ownBlock = some g ∨ W.heap.size ≤ g) : KidsFr A w W W' B b c n j o os vs v v' es := by
  obtain ⟨y1, y2, y3, y4, y5, y6, y7⟩ := hT.at_ j d hd
  have hbr : some b ≠ row := by
    rcases hrow with rfl | rfl
    · simp
    · rw [← hv]; exact fun e => hT.kids_ne y6 e.symm
  have hrB : ∀ g, row = some g → B ≤ g := by
    rcases hrow with rfl | rfl
    · intro g h; cases h
    · intro g h; rw [← hv] at h; exact (y6.lt g h).1
  refine ⟨hF.grown hg fun g h => ?_, by rw [hg.cell_far _ hT.lt hbr, y5, hv], ?_, by have := hg.size; have := hT.lt; omega, by have := hg.size; have := hF.size; omega, below_grown hb hg hrB hB, fun q hq hne => hg.block q hq ?_, fun d' hd' hs => ?_⟩
  · rcases hrow with rfl | rfl
    · cases h
    · exact hA g h
  · obtain ⟨cur, hr, _⟩ := hT.row
    exact frozen_of_row W' b _ cur 165 (by rw [hg.block b hT.lt hbr]; exact hr)
  · rcases hrow with rfl | rfl
    · simp
    · exact fun e => hne e.symm
  · exact hT.putKids hd' hg (by rw [hv]; exact hrow) ho hs (by rw [hv]; exact hat)
theorem Kt.kids {A B b c n j : Nat} {w W W' : World} {o : LOp} {os : List LObj} {vs0 vs : Nat → Value} {v v' : Value} {es : List LEnt} (h : Kt w W b n vs0) (hs : w.heap.size ≤ W.heap.size) (K : KidsFr A w W W' B b c n j o os vs v v' es)
    (hv : ∀ g, v.ownBlock = some g → (∃ i, i < n ∧ (vs0 i).ownBlock = some g) ∨ w.heap.size ≤ g) : Kt w W' b n vs0 := h.step fun q h1 _ h3 => K.keep q (by omega) fun e => by
  rcases hv q e with ⟨i, hi, h2⟩ | h2
  · exact h3 i hi h2
  · omega
theorem OwnEnts.shape {w : World} {B : Nat} {v : Value} {es : List LEnt} (h : OwnEnts w B v es) : ∃ a c, v = .slice a es.length c := by
  rcases h.2 with ⟨rfl, h0⟩ | ⟨g, cap, cur, rfl, _⟩
  · exact ⟨none, 0, by rw [h0]⟩
  · exact ⟨_, cap, rfl⟩
/-- The tree is put into its box again. -/
theorem Fr.retree {A b c n : Nat} {W : World} {o : LOp} (h : Fr A W b c n o) : Fr A (W.setCell ⟨A, 0, none⟩ (.slice (some ⟨b, 0, none⟩) n c)) b c n o := by
  have hc : ∀ q k, q ≠ A → (W.setCell ⟨A, 0, none⟩ (.slice (some ⟨b, 0, none⟩) n c)).cell? ⟨q, k, none⟩ = W.cell? ⟨q, k, none⟩ := fun q k hq => World.cell?_of_block (w := W) (Below.heap_setCell W ⟨A, 0, none⟩ _ q (by simpa using hq))
  obtain ⟨x, hx⟩ := h.r
  obtain ⟨y, hy⟩ := h.tb
  exact ⟨by simpa using h.size, by rw [World.cell?_setCell_same _ _ _ h.t], by rw [hc _ _ (by omega)]; exact h.o0, by rw [hc _ _ (by omega)]; exact h.o1, by rw [hc _ _ (by omega)]; exact h.o2, by rw [hc _ _ (by omega)]; exact h.o3, by rw [hc _ _ (by omega)]; exact h.o4, by rw [hc _ _ (by omega)]; exact h.o5, by rw [hc _ _ (by omega)]; exact h.o6,
    ⟨x, hx.of_block (Below.heap_setCell W ⟨A, 0, none⟩ _ _ (by simp; omega))⟩, ⟨_, hy.set 0 _⟩⟩
theorem Fr.tree {A b c n : Nat} {W : World} {o : LOp} (h : Fr A W b c n o) : W.frozen? ⟨A, 0, none⟩ = false := by
  obtain ⟨y, hy⟩ := h.tb
  exact hy.frozen 0
def turnL (os : List LObj) (i : Nat) : List LObj := match os[i]? with | some o => os.set i { o with ver := o.ver + 1 } | none => os
def kidsL (os : List LObj) (i : Nat) (f : List LEnt → List LEnt) : List LObj := match os[i]? with | some o => os.set i { o with kids := f o.kids } | none => os
theorem turnL_at {os : List LObj} {i : Nat} {o : LObj} (h : os[i]? = some o) : turnL os i = os.set i { o with ver := o.ver + 1 } := by simp [turnL, h]
theorem kidsL_at {os : List LObj} {i : Nat} {o : LObj} (h : os[i]? = some o) (f : List LEnt → List LEnt) : kidsL os i f = os.set i { o with kids := f o.kids } := by simp [kidsL, h]
theorem turnL_len (os : List LObj) (i : Nat) : (turnL os i).length = os.length := by unfold turnL; split <;> simp
theorem kidsL_len (os : List LObj) (i : Nat) (f : List LEnt → List LEnt) : (kidsL os i f).length = os.length := by unfold kidsL; split <;> simp
def Bd (os : List LObj) (M : Int) : Prop := ∀ x ∈ os, 0 ≤ x.ver ∧ x.ver ≤ M ∧ x.kids.length ≤ 1000000
theorem Bd.set {os : List LObj} {M : Int} (h : Bd os M) (i : Nat) {y : LObj} (hy : 0 ≤ y.ver ∧ y.ver ≤ M ∧ y.kids.length ≤ 1000000) : Bd (os.set i y) M := fun x hx => by
  rcases List.mem_or_eq_of_mem_set hx with h1 | rfl
  · exact h x h1
  · exact hy
end Go.Proofs.YtloopeipheklpaaGreatDoor
