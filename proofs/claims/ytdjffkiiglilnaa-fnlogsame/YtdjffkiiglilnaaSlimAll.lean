import Derived.Test.YtdjffkiiglilnaaRop
import Derived.Deep.QuietTactic
import Derived.BigQuiet
import Derived.Deep.Upon
import Derived.Deep.DeepCutAuto
import Derived.Deep.RegionHeld
import Derived.OrdersHeld
import Derived.BigRegion

/- Lists that are made shorter: what that is, on lists. -/
namespace Go.Proofs.Ytdjffkiiglilnaa
open Go.RowKit

/-! Some of a list. -/
def keepTo (p : Nat → Bool) (ops : List LOp) : Nat → List LOp
  | 0 => []
  | j + 1 => keepTo p ops j ++ (match ops[j]? with | some o => if p j then [o] else [] | none => [])
theorem keepTo_yes {p : Nat → Bool} {ops : List LOp} {j : Nat} {o : LOp} (h : ops[j]? = some o) (hp : p j = true) : keepTo p ops (j + 1) = keepTo p ops j ++ [o] := by
  simp [keepTo, h, hp]
theorem keepTo_no {p : Nat → Bool} {ops : List LOp} {j : Nat} (hp : p j = false) : keepTo p ops (j + 1) = keepTo p ops j := by
  show keepTo p ops j ++ _ = _
  cases ops[j]? <;> simp [hp]
theorem keepTo_len (p : Nat → Bool) (ops : List LOp) : ∀ j, (keepTo p ops j).length ≤ j
  | 0 => Nat.le_refl _
  | j + 1 => by
    have := keepTo_len p ops j
    unfold keepTo
    rw [List.length_append]
    split
    · split <;> simp <;> omega
    · simp; omega
theorem keepTo_mem {p : Nat → Bool} {ops : List LOp} : ∀ {j : Nat} {x : LOp}, x ∈ keepTo p ops j → x ∈ ops
  | 0, _, h => by cases h
  | j + 1, x, h => by
    unfold keepTo at h
    rcases List.mem_append.1 h with h | h
    · exact keepTo_mem h
    · split at h
      · next o ho =>
        split at h
        · simp at h; subst h; exact List.mem_of_getElem? ho
        · cases h
      · cases h
theorem keepTo_congr {p q : Nat → Bool} {ops : List LOp} : ∀ {j : Nat}, (∀ i, i < j → i < ops.length → p i = q i) → keepTo p ops j = keepTo q ops j
  | 0, _ => rfl
  | j + 1, h => by
    unfold keepTo
    rw [keepTo_congr fun i hi => h i (by omega)]
    split
    · next o ho =>
      rw [h j (by omega) (List.getElem?_eq_some_iff.1 ho).1]
    · rfl
theorem keepTo_lt {p : Nat → Bool} {ops : List LOp} {i : Nat} (hp : p i = false) : ∀ {j : Nat}, i < j → (keepTo p ops j).length < j
  | 0, h => by omega
  | j + 1, h => by
    by_cases e : i = j
    · subst e
      rw [keepTo_no hp]
      have := keepTo_len p ops i
      omega
    · have := keepTo_lt (p := p) (ops := ops) hp (j := j) (by omega)
      unfold keepTo
      rw [List.length_append]
      split
      · split <;> simp <;> omega
      · simp; omega

/-! Texts that are void. -/
def voids (id : Int) (x : LOp) : Bool := (x.id == id) && ((x.kind == 5) || (x.kind == 3))
def voidB (ops : List LOp) (i : Nat) : Bool := match ops[i]? with
  | some o => (ops.drop (i + 1)).any (voids o.id)
  | none => false
def textKeep (ops : List LOp) (i : Nat) : Bool := match ops[i]? with
  | some o => (o.kind != 5) || !voidB ops i
  | none => false
def textsL (ops : List LOp) : List LOp := keepTo (textKeep ops) ops ops.length

/-! What is made and goes again. -/
def leansB (o : LOp) (id : Int) : Bool := ((o.kind != 5) && (o.dir == id)) || ((o.kind == 4) && (o.dir2 == id))
def goesAt (id : Int) : List LOp → Nat → Int
  | [], _ => -1
  | o :: r, k => if leansB o id then -1 else if (o.kind == 3) && (o.id == id) then (k : Int) else goesAt id r (k + 1)
def makesB (o : LOp) : Bool := (o.kind == 1) || (o.kind == 2)
def goesL (ops : List LOp) (i : Nat) : Int := match ops[i]? with
  | some o => if makesB o then goesAt o.id (ops.drop (i + 1)) (i + 1) else -1
  | none => -1
theorem drop_cons {α : Type} {l : List α} {k : Nat} {x : α} (h : l[k]? = some x) : l.drop k = x :: l.drop (k + 1) := by
  obtain ⟨hk, rfl⟩ := List.getElem?_eq_some_iff.1 h
  exact List.drop_eq_getElem_cons hk
theorem goesAt_ge (id : Int) : ∀ (l : List LOp) (k : Nat), goesAt id l k = -1 ∨ ((k : Int) ≤ goesAt id l k ∧ goesAt id l k < (k : Int) + l.length)
  | [], k => .inl rfl
  | o :: r, k => by
    unfold goesAt
    split
    · exact .inl rfl
    · split
      · right; simp; omega
      · rcases goesAt_ge id r (k + 1) with h | h
        · exact .inl h
        · right; simp only [List.length_cons]; push_cast at h ⊢; omega
theorem goesL_ge (ops : List LOp) (i : Nat) : goesL ops i = -1 ∨ ((i : Int) < goesL ops i ∧ goesL ops i < ops.length) := by
  unfold goesL
  split
  · next o ho =>
    split
    · rcases goesAt_ge o.id (ops.drop (i + 1)) (i + 1) with h | h
      · exact .inl h
      · right
        have := (List.getElem?_eq_some_iff.1 ho).1
        simp only [List.length_drop] at h
        push_cast at h
        omega
    · exact .inl rfl
  · exact .inl rfl
def idAt (ops : List LOp) (i : Nat) : Int := (ops[i]?.map LOp.id).getD 0
theorem idAt_of {ops : List LOp} {i : Nat} {o : LOp} (h : ops[i]? = some o) : idAt ops i = o.id := by simp [idAt, h]
def without (ops : List LOp) (id : Int) (i k : Nat) : List LOp := keepTo (fun j => (decide (j < i) || decide (k < j)) || (idAt ops j != id)) ops ops.length
def firstPair (ops : List LOp) : Option Nat := (List.range ops.length).find? fun i => decide (0 ≤ goesL ops i)
def pairStep (ops : List LOp) : Option (List LOp) := (firstPair ops).map fun i => without ops (idAt ops i) i (goesL ops i).toNat
theorem firstPair_some {ops : List LOp} {i : Nat} (hi : i < ops.length) (h : 0 ≤ goesL ops i) (hl : ∀ j, j < i → goesL ops j < 0) : firstPair ops = some i := by
  unfold firstPair
  rw [List.find?_range_eq_some]
  exact ⟨by simpa using h, by simpa using hi, fun j hj => by have := hl j hj; simp; omega⟩
theorem firstPair_none {ops : List LOp} (hl : ∀ j, j < ops.length → goesL ops j < 0) : firstPair ops = none := by
  unfold firstPair
  rw [List.find?_range_eq_none]
  exact fun j hj => by have := hl j hj; simp; omega

/-! What is moved and moved on. -/
def joinsB (a b : LOp) : Bool := (b.kind == 4) && (a.id == b.id) &&
  (if makesB a then (b.dir == a.dir) && (b.name.toList == a.name.toList) else (a.kind == 4) && ((b.dir == a.dir2) && (b.name.toList == a.name2.toList)))
def backB (a b : LOp) : Bool := (a.kind == 4) && ((a.dir == b.dir2) && (a.name.toList == b.name2.toList))
def onB (a b : LOp) : LOp := if a.kind = 4 then { a with dir2 := b.dir2, name2 := b.name2 } else { a with dir := b.dir2, name := b.name2 }
def joinL (a b : LOp) : List LOp := if backB a b then [] else [onB a b]
def joinsAt (ops : List LOp) (i : Nat) : Bool := match ops[i]?, ops[i + 1]? with
  | some a, some b => joinsB a b
  | _, _ => false
def joinedAt (ops : List LOp) (i : Nat) : List LOp := match ops[i]?, ops[i + 1]? with
  | some a, some b => ops.take i ++ joinL a b ++ ops.drop (i + 2)
  | _, _ => ops
def firstJoin (ops : List LOp) : Option Nat := (List.range ops.length).find? fun i => joinsAt ops i
def moveStep (ops : List LOp) : Option (List LOp) := (firstJoin ops).map fun i => joinedAt ops i
theorem firstJoin_some {ops : List LOp} {i : Nat} (hi : i < ops.length) (h : joinsAt ops i = true) (hl : ∀ j, j < i → joinsAt ops j = false) : firstJoin ops = some i := by
  unfold firstJoin
  rw [List.find?_range_eq_some]
  exact ⟨h, by simpa using hi, fun j hj => by simp [hl j hj]⟩
theorem firstJoin_none {ops : List LOp} (hl : ∀ j, j < ops.length → joinsAt ops j = false) : firstJoin ops = none := by
  unfold firstJoin
  rw [List.find?_range_eq_none]
  exact fun j hj => by simp [hl j hj]

/-! Again and again. -/
def iter (f : List LOp → Option (List LOp)) : Nat → List LOp → List LOp
  | 0, x => x
  | n + 1, x => match f x with | none => x | some y => iter f n y
def Shrinks (f : List LOp → Option (List LOp)) : Prop := ∀ x y, f x = some y → y.length < x.length
theorem iter_enough {f : List LOp → Option (List LOp)} (hf : Shrinks f) : ∀ (n m : Nat) (x : List LOp), x.length ≤ n → x.length ≤ m → iter f n x = iter f m x
  | 0, 0, _, _, _ => rfl
  | 0, m + 1, x, h, _ => by
    unfold iter
    split
    · rfl
    · next y hy => have := hf x y hy; omega
  | n + 1, 0, x, _, h => by
    unfold iter
    split
    · rfl
    · next y hy => have := hf x y hy; omega
  | n + 1, m + 1, x, h, h' => by
    unfold iter
    split
    · rfl
    · next y hy =>
      have := hf x y hy
      exact iter_enough hf n m y (by omega) (by omega)
def fixL (f : List LOp → Option (List LOp)) (x : List LOp) : List LOp := iter f x.length x
theorem fixL_none {f : List LOp → Option (List LOp)} {x : List LOp} (h : f x = none) : fixL f x = x := by
  unfold fixL
  cases x.length <;> simp [iter, h]
theorem fixL_some {f : List LOp → Option (List LOp)} (hf : Shrinks f) {x y : List LOp} (h : f x = some y) : fixL f x = fixL f y := by
  have hl := hf x y h
  unfold fixL
  obtain ⟨n, hn⟩ : ∃ n, x.length = n + 1 := ⟨x.length - 1, by omega⟩
  rw [hn]
  show (match f x with | none => x | some y => iter f n y) = _
  rw [h]
  exact iter_enough hf n y.length y (by omega) (Nat.le_refl _)
theorem pairs_shrink : Shrinks pairStep := by
  intro x y h
  unfold pairStep at h
  cases hp : firstPair x with
  | none => simp [hp] at h
  | some i =>
    simp only [hp, Option.map_some, Option.some.injEq] at h
    subst h
    have hi := hp
    unfold firstPair at hi
    rw [List.find?_range_eq_some] at hi
    obtain ⟨h1, h2, _⟩ := hi
    simp only [List.mem_range] at h2
    refine keepTo_lt (i := i) ?_ h2
    have := goesL_ge x i
    simp at h1
    simp
    omega
theorem moves_shrink : Shrinks moveStep := by
  intro x y h
  unfold moveStep at h
  cases hp : firstJoin x with
  | none => simp [hp] at h
  | some i =>
    simp only [hp, Option.map_some, Option.some.injEq] at h
    subst h
    have hi := hp
    unfold firstJoin at hi
    rw [List.find?_range_eq_some] at hi
    obtain ⟨h1, h2, _⟩ := hi
    unfold joinsAt at h1
    unfold joinedAt
    split at h1
    · next a b ha hb =>
      have h3 := (List.getElem?_eq_some_iff.1 hb).1
      have : (joinL a b).length ≤ 1 := by unfold joinL; split <;> simp
      simp only [List.length_append, List.length_take, List.length_drop]
      omega
    · cases h1
def pairsL (ops : List LOp) : List LOp := fixL pairStep ops
def movesL (ops : List LOp) : List LOp := fixL moveStep ops
def stepL (ops : List LOp) : List LOp := movesL (pairsL (textsL ops))
def slimStep (ops : List LOp) : Option (List LOp) := if (stepL ops).length < ops.length then some (stepL ops) else none
theorem slim_shrink : Shrinks slimStep := by
  intro x y h
  unfold slimStep at h
  split at h
  · simp at h; subst h; assumption
  · cases h
def slimL (ops : List LOp) : List LOp := stepL (fixL slimStep ops)
def formsB (ops : List LOp) : Bool := decide (ops.length ≤ 60) && ops.all opOk

/-! What is kept. -/
/-- Something that both rules keep of every one in a list. -/
theorem fixL_keeps {f : List LOp → Option (List LOp)} {P : List LOp → Prop} (hf : Shrinks f) (h : ∀ x y, f x = some y → P x → P y) : ∀ (n : Nat) (x : List LOp), x.length ≤ n → P x → P (fixL f x)
  | 0, x, hn, hx => by
    unfold fixL
    obtain rfl : x = [] := List.eq_nil_of_length_eq_zero (by omega)
    exact hx
  | n + 1, x, hn, hx => by
    cases hfx : f x with
    | none => rw [fixL_none hfx]; exact hx
    | some y =>
      rw [fixL_some hf hfx]
      exact fixL_keeps hf h n y (by have := hf x y hfx; omega) (h x y hfx hx)
/-- Every one is so, and they are at most so many. -/
def AllL (P : LOp → Prop) (m : Nat) (l : List LOp) : Prop := (∀ o ∈ l, P o) ∧ l.length ≤ m
theorem textsL_all {P : LOp → Prop} {m : Nat} {l : List LOp} (h : AllL P m l) : AllL P m (textsL l) :=
  ⟨fun o ho => h.1 o (keepTo_mem ho), Nat.le_trans (keepTo_len _ _ _) h.2⟩
theorem pairStep_all {P : LOp → Prop} {m : Nat} {x y : List LOp} (hs : pairStep x = some y) (h : AllL P m x) : AllL P m y := by
  have hl := pairs_shrink x y hs
  unfold pairStep at hs
  cases hp : firstPair x with
  | none => simp [hp] at hs
  | some i =>
    simp only [hp, Option.map_some, Option.some.injEq] at hs
    subst hs
    exact ⟨fun o ho => h.1 o (keepTo_mem ho), by have := h.2; omega⟩
theorem pairsL_all {P : LOp → Prop} {m : Nat} {l : List LOp} (h : AllL P m l) : AllL P m (pairsL l) :=
  fixL_keeps pairs_shrink (fun _ _ hs hx => pairStep_all hs hx) l.length l (Nat.le_refl _) h
/-- What two that join keep. -/
def OnKeeps (P : LOp → Prop) : Prop := ∀ a b, P a → P b → joinsB a b = true → P (onB a b)
theorem moveStep_all {P : LOp → Prop} (hP : OnKeeps P) {m : Nat} {x y : List LOp} (hs : moveStep x = some y) (h : AllL P m x) : AllL P m y := by
  have hl := moves_shrink x y hs
  unfold moveStep at hs
  cases hp : firstJoin x with
  | none => simp [hp] at hs
  | some i =>
    simp only [hp, Option.map_some, Option.some.injEq] at hs
    subst hs
    have hi := hp
    unfold firstJoin at hi
    rw [List.find?_range_eq_some] at hi
    obtain ⟨h1, _, _⟩ := hi
    refine ⟨fun o ho => ?_, by have := h.2; omega⟩
    unfold joinsAt at h1
    unfold joinedAt at ho
    split at h1
    · next a b ha hb =>
      simp only [ha, hb, List.mem_append] at ho
      rcases ho with (ho | ho) | ho
      · exact h.1 o (List.mem_of_mem_take ho)
      · unfold joinL at ho
        split at ho
        · cases ho
        · simp at ho
          subst ho
          exact hP a b (h.1 a (List.mem_of_getElem? ha)) (h.1 b (List.mem_of_getElem? hb)) h1
      · exact h.1 o (List.mem_of_mem_drop ho)
    · cases h1
theorem movesL_all {P : LOp → Prop} (hP : OnKeeps P) {m : Nat} {l : List LOp} (h : AllL P m l) : AllL P m (movesL l) :=
  fixL_keeps moves_shrink (fun _ _ hs hx => moveStep_all hP hs hx) l.length l (Nat.le_refl _) h
theorem stepL_all {P : LOp → Prop} (hP : OnKeeps P) {m : Nat} {l : List LOp} (h : AllL P m l) : AllL P m (stepL l) := movesL_all hP (pairsL_all (textsL_all h))
theorem slimStep_all {P : LOp → Prop} (hP : OnKeeps P) {m : Nat} {x y : List LOp} (hs : slimStep x = some y) (h : AllL P m x) : AllL P m y := by
  unfold slimStep at hs
  split at hs
  · simp at hs; subst hs; exact stepL_all hP h
  · cases hs
theorem slimL_all {P : LOp → Prop} (hP : OnKeeps P) {m : Nat} {l : List LOp} (h : AllL P m l) : AllL P m (slimL l) :=
  stepL_all hP (fixL_keeps slim_shrink (fun _ _ hs hx => slimStep_all hP hs hx) l.length l (Nat.le_refl _) h)
theorem stepL_le (l : List LOp) : (stepL l).length ≤ l.length := (stepL_all (P := fun _ => True) (fun _ _ _ _ _ => trivial) (m := l.length) ⟨fun _ _ => trivial, Nat.le_refl _⟩).2
theorem sz_keeps : OnKeeps OpSz := fun a b ha hb _ => by
  unfold onB
  split
  · exact ⟨ha.name, hb.name2, ha.text⟩
  · exact ⟨hb.name2, ha.name2, ha.text⟩
theorem ok_keeps : OnKeeps (fun o => opOk o = true) := fun a b ha hb hj => by
  unfold joinsB at hj
  simp only [Bool.and_eq_true, beq_iff_eq] at hj
  obtain ⟨⟨hbk, _⟩, hj⟩ := hj
  have hb' : opId b = true ∧ opSlot b = true ∧ opSlot2 b = true := by
    unfold opOk at hb
    simp [hbk] at hb
    exact ⟨hb.1.1.1, hb.1.1.2, hb.1.2⟩
  unfold onB
  split
  · next h4 =>
    unfold opOk at ha ⊢
    simp [h4] at ha ⊢
    obtain ⟨⟨⟨h1, h2⟩, _⟩, h3⟩ := ha
    exact ⟨⟨⟨h1, h2⟩, hb'.2.2⟩, h3⟩
  · next h4 =>
    have hm : a.kind = 1 ∨ a.kind = 2 := by
      split at hj
      · next hm => simpa [makesB] using hm
      · simp at hj; exact absurd hj.1 h4
    unfold opOk at ha ⊢
    have hk : a.kind = 1 ∨ a.kind = 2 ∨ a.kind = 3 := by omega
    simp only [hk, if_true, Bool.and_eq_true] at ha ⊢
    obtain ⟨⟨⟨h1, h2⟩, h3⟩, h5⟩ := ha
    exact ⟨⟨⟨h1, hb'.2.2⟩, h3⟩, h5⟩
end Go.Proofs.Ytdjffkiiglilnaa


/- Lists that are made shorter: the specification. -/
namespace Go.Proofs.Ytdjffkiiglilnaa
open Go.RowKit

theorem opCells_at : ∀ (l : List LOp) (i : Nat) (o : LOp), l[i]? = some o → ∀ t u, o.val[t]? = some u → (opCells l)[i * 7 + t]? = some u
  | [], i, o, h, _, _, _ => by simp at h
  | x :: r, 0, o, h, t, u, hu => by
    simp at h
    subst h
    have ht : t < x.val.toList.length := by
      have := (Array.getElem?_eq_some_iff.1 hu).1
      simpa using this
    simp only [opCells, List.flatMap_cons]
    rw [List.getElem?_append_left (by omega)]
    simpa using hu
  | x :: r, i + 1, o, h, t, u, hu => by
    have ih := opCells_at r i o (by simpa using h) t u hu
    simp only [opCells, List.flatMap_cons]
    have h7 : x.val.toList.length = 7 := by simp [LOp.val]
    rw [List.getElem?_append_right (by omega), h7]
    have e : (i + 1) * 7 + t - 7 = i * 7 + t := by omega
    rw [e]
    exact ih
theorem OwnOps.at_ {w : World} {B : Nat} {v : Value} {l : List LOp} (h : OwnOps w B v l) (hn : ∀ o ∈ l, OpSz o) : ∃ a c, v = .slice a l.length c ∧ OpsAt w B w.heap.size a l.length l := by
  by_cases h0 : l.length = 0
  · obtain rfl : l = [] := List.eq_nil_of_length_eq_zero h0
    rcases h.2 with ⟨rfl, _⟩ | ⟨g, cap, cur, rfl, _⟩
    · exact ⟨_, _, rfl, rfl, by simp [maxLen], fun hn => absurd rfl hn⟩
    · exact ⟨_, _, rfl, rfl, by simp [maxLen], fun hn => absurd rfl hn⟩
  · obtain ⟨g, c, rfl, hb, hlt⟩ := World.ownsRow.form h (by omega)
    have hbd : l.length ≤ maxLen := by
      rcases h.2 with ⟨h', _⟩ | ⟨g', cap', cur, h', _, _, hnc, hcm, _⟩
      · simp at h'
      · omega
    have hc : ∀ i (hi : i < l.length) t u, t < 7 → (l[i]).val[t]? = some u → w.cell? ⟨g, 0 + i * 7 + t, none⟩ = some u := fun i hi t u ht hu => by
      have := World.ownsRow.cellAt h (i * 7 + t) (by omega)
      rw [Nat.zero_add, this]
      exact opCells_at l i l[i] (by simp [hi]) t u hu
    exact ⟨_, _, rfl, rfl, hbd, fun _ => ⟨g, 0, rfl, hb, hlt, fun i hi => ⟨l[i], by simp [hi], hn _ (List.getElem_mem hi), hc i hi 0 _ (by omega) (by simp [LOp.val]), hc i hi 1 _ (by omega) (by simp [LOp.val]), hc i hi 2 _ (by omega) (by simp [LOp.val]), hc i hi 3 _ (by omega) (by simp [LOp.val]), hc i hi 4 _ (by omega) (by simp [LOp.val]), hc i hi 5 _ (by omega) (by simp [LOp.val]), hc i hi 6 _ (by omega) (by simp [LOp.val])⟩⟩⟩
theorem OpsAt.sz {w : World} {L U : Nat} {a : Option Addr} {n : Nat} {ops : List LOp} (h : OpsAt w L U a n ops) : ∀ o ∈ ops, OpSz o := fun o ho => by
  obtain ⟨i, hi, rfl⟩ := List.getElem_of_mem ho
  have hl := h.len
  obtain ⟨b, off, _, _, _, hc⟩ := h.at_ (by omega)
  obtain ⟨o', ho', hs, _⟩ := hc i (by omega)
  rw [List.getElem?_eq_getElem hi] at ho'
  cases ho'
  exact hs
theorem seven_cells {w : World} {o : LOp} {j : Nat} {u : Value} {q : Nat} (h : (opCells [o])[j]? = some u) (hq : q = w.heap.size) : (w.alloc (Obj.cells o.val 99)).cell? ((⟨q, 0, none⟩ : Addr).add j) = some u := by
  subst hq
  have hadd : (⟨w.heap.size, 0, none⟩ : Addr).add j = ⟨w.heap.size, j, none⟩ := by unfold Addr.add; split <;> simp_all
  rw [hadd]
  have h1 : o.val[j]? = some u := by simpa [opCells] using h
  simp [go_sem, h1]
theorem AppOEnd.below {w0 wr w1 : World} {B : Nat} {u v : Value} {l r : List LOp} {o1 : Obj} (hE : AppOEnd (wr.alloc o1) w1 B u v r) (hown : OwnOps wr B u l) (hb : Below B w0 wr) (hsz : B ≤ wr.heap.size) : Below B w0 w1 := by
  have hr : ∀ k, u.ownBlock = some k → B ≤ k := fun k e => (hown.lt k e).1
  exact hb.trans (below_grown ((Below.refl _ _).alloc (by omega) _) hE.grown hr (by simp; omega))
theorem OwnOps.empty (w : World) (B : Nat) (hB : B ≤ w.heap.size) : OwnOps (w.alloc (Obj.cells #[] 99)) B (.slice (some ⟨w.heap.size, 0, none⟩) 0 0) [] := by
  simpa [OwnOps, opCells] using World.ownsRow_lit (base := B) (e := 99) (size := 7) w #[] 0 hB (by simp [maxLen]) rfl

theorem any_drop {f : LOp → Bool} {l : List LOp} {k : Nat} {x : LOp} (h : l[k]? = some x) : (l.drop k).any f = (f x || (l.drop (k + 1)).any f) := by
  rw [drop_cons h, List.any_cons]
theorem below_drewN {w w' : World} (h : Below w.heap.size w w') (m : Nat) : Below w.heap.size w (w'.drewN m) := h.trans ((Below.drewN _ _).mono h.size)
theorem OwnOps.next {w w' : World} {B : Nat} {v : Value} {l : List LOp} (h : OwnOps w B v l) (hb : Below w.heap.size w w') : OwnOps w' B v l := by
  refine ⟨h.1, ?_⟩
  rcases h.2 with hn | ⟨g, cap, cur, rfl, hB, hgg, rest⟩
  · exact .inl hn
  · refine .inr ⟨g, cap, cur, rfl, hB, ?_, rest⟩
    rw [hb.block g (Array.getElem?_eq_some_iff.1 hgg).1]
    exact hgg
/-- What a rule leaves: a list of its own, and all else as it was. -/
def SlimEnd (w : World) (r : List LOp) (e : Ending) (w' : World) : Prop := (∃ v, e = .returned v ∧ OwnOps w' w.heap.size v r) ∧ Below w.heap.size w w'

set_option maxHeartbeats 1000000 in
theorem forms_any (a : Option Addr) (n c : Nat) (ops : List LOp) (L U : Nat) (w : World) (hU : U ≤ w.heap.size) (H : OpsAt w L U a n ops) :
    Calls Try.prog 52 #[.slice a n c] w fun e w' => e = .returned (.bool (formsB ops)) ∧ Below w.heap.size w w' := by
  have hbd := H.bd
  have hlen : Hid (n = ops.length) := H.len
  unfold maxLen at hbd
  by_cases h60 : 60 < n
  · have h60' : (60 : Int) < (n : Int) := by omega
    go_enter Try.func52, Try.ntmps52
    go_wp2_with fail
    go_ret
    exact ⟨ret_bool (by have := hlen.out; simp [formsB]; omega), Below.refl _ _⟩
  · have h60' : ¬ (60 : Int) < (n : Int) := by omega
    go_enter Try.func52, Try.ntmps52
    go_wp2_with fail
    go_loopg [3] n (fun g k wr => ∃ j : Nat, j ≤ n ∧ Hid (g = n - j) ∧ k = .int .i64 j ∧ Hid (formsB ops = (ops.drop j).all opOk) ∧ Below w.heap.size w wr)
    case atStart => exact ⟨0, Nat.zero_le _, rfl, rfl, by show _ = _; have := hlen.out; simp [formsB]; omega, Below.refl _ _⟩
    case round =>
      obtain ⟨j, hj, hk, rfl, hq, hb⟩ := hrel
      by_cases hlt : j < n
      · obtain ⟨b, off, ha, hL, hbU, hc⟩ := H.at_ (by omega)
        subst ha
        obtain ⟨x, he, hsz, hat⟩ := hc j hlt
        obtain ⟨d0, d1, d2, d3, d4, d5, d6⟩ := hat.of_block (hb.block b (by omega))
        have hlt' : (j : Int) < (n : Int) := by omega
        have HQ : Hid (formsB ops = (opOk x && (ops.drop (j + 1)).all opOk)) := by show _ = _; rw [hq.out, drop_cons he, List.all_cons]
        have HOK := fun w => opOk_any x w hsz.name hsz.name2 hsz.text
        simp only [LOp.val] at HOK
        clear he hc hq hat H
        go_wp2_with fail
        refine (HOK _).mono ?_
        rintro e w1 ⟨rfl, rfl⟩
        rcases hx : opOk x with _ | _
        · have HY : Hid (formsB ops = false) := by show _ = _; rw [HQ.out, hx]; rfl
          clear HOK HQ
          go_wp2_with fail
          go_ret
          exact ⟨ret_bool HY.out.symm, hb.alloc hb.size _⟩
        · have HY : Hid (formsB ops = (ops.drop (j + 1)).all opOk) := by show _ = _; rw [HQ.out, hx]; rfl
          clear HOK HQ
          go_wp2_with fail
          go_roundg (n - (j + 1))
          case measure => have := hk.out; omega
          case rel => exact ⟨j + 1, by omega, rfl, by go_num, HY.out, hb.alloc hb.size _⟩
      · have HN : Hid (formsB ops = true) := by
          show _ = _
          rw [hq.out, List.drop_of_length_le (by have := hlen.out; omega)]; rfl
        go_wp2_with fail
        go_ret
        exact ⟨ret_bool HN.out.symm, hb⟩

theorem goesL_at {ops : List LOp} {i : Nat} {o : LOp} (h : ops[i]? = some o) : goesL ops i = if makesB o then goesAt o.id (ops.drop (i + 1)) (i + 1) else -1 := by
  unfold goesL; rw [h]
theorem goesAt_step {id : Int} {ops : List LOp} {j : Nat} {x : LOp} (h : ops[j]? = some x) : goesAt id (ops.drop j) j = if leansB x id then -1 else if (x.kind == 3) && (x.id == id) then (j : Int) else goesAt id (ops.drop (j + 1)) (j + 1) := by
  rw [drop_cons h]; rfl

end Go.Proofs.Ytdjffkiiglilnaa


/- Lists that are made shorter: the specification, what goes again. -/
namespace Go.Proofs.Ytdjffkiiglilnaa
open Go.RowKit

def outB (ops : List LOp) (id : Int) (i k j : Nat) : Bool := (decide (j < i) || decide (k < j)) || (idAt ops j != id)
/-! append of a whole list. -/
theorem OpsAt.cells {w : World} {L U b off n : Nat} {ops : List LOp} (H : OpsAt w L U (some ⟨b, off, none⟩) n ops) : ∀ j u, (opCells ops)[j]? = some u → w.cell? ((⟨b, off, none⟩ : Addr).add j) = some u := by
  intro j u hu
  have hadd : (⟨b, off, none⟩ : Addr).add j = ⟨b, off + j, none⟩ := by unfold Addr.add; split <;> simp_all
  rw [hadd]
  have hj := (List.getElem?_eq_some_iff.1 hu).1
  rw [opCells_len] at hj
  have hl := H.len
  obtain ⟨b', off', ha, _, _, hc⟩ := H.at_ (by omega)
  simp only [Option.some.injEq, Addr.mk.injEq, and_true] at ha
  obtain ⟨rfl, rfl⟩ := ha
  obtain ⟨o, ho, _, hat⟩ := hc (j / 7) (by omega)
  have hv : ∀ t v, t < 7 → j = j / 7 * 7 + t → o.val[t]? = some v → u = v := fun t v ht e hv => by
    have := opCells_at ops (j / 7) o ho t v hv
    rw [← e, hu] at this
    exact Option.some.inj this
  have e7 : j = j / 7 * 7 + j % 7 := by omega
  have hm : j % 7 < 7 := Nat.mod_lt _ (by omega)
  generalize j % 7 = t at e7 hm
  match t, hm with
  | 0, _ => rw [hv 0 _ (by omega) e7 (by simp [LOp.val]; rfl), e7, ← Nat.add_assoc]; exact hat.c0
  | 1, _ => rw [hv 1 _ (by omega) e7 (by simp [LOp.val]; rfl), e7, ← Nat.add_assoc]; exact hat.c1
  | 2, _ => rw [hv 2 _ (by omega) e7 (by simp [LOp.val]; rfl), e7, ← Nat.add_assoc]; exact hat.c2
  | 3, _ => rw [hv 3 _ (by omega) e7 (by simp [LOp.val]; rfl), e7, ← Nat.add_assoc]; exact hat.c3
  | 4, _ => rw [hv 4 _ (by omega) e7 (by simp [LOp.val]; rfl), e7, ← Nat.add_assoc]; exact hat.c4
  | 5, _ => rw [hv 5 _ (by omega) e7 (by simp [LOp.val]; rfl), e7, ← Nat.add_assoc]; exact hat.c5
  | 6, _ => rw [hv 6 _ (by omega) e7 (by simp [LOp.val]; rfl), e7, ← Nat.add_assoc]; exact hat.c6
theorem run_app_all (w : World) (B : Nat) (u : Value) (l news : List LOp) (ty : TypeId) (hown : OwnOps w B u l) (a : Option Addr) (m c L U : Nat) (H : OpsAt w L U a m news) (hbd : l.length + m ≤ 1000000) (hB : B ≤ w.heap.size) :
    ∃ v' w', (Builtin.append_ #[27, 27] ty #[u, .slice a m c]).run Try.prog w = .ok v' w' ∧ AppOEnd w w' B u v' (l ++ news) := by
  obtain ⟨i0, hi, hz0, hz1, hz2⟩ := info_parts infoO
  by_cases hm : m = 0
  · subst hm
    obtain rfl : news = [] := List.eq_nil_of_length_eq_zero H.len.symm
    have hsrc : Src Try.prog i0.size 27 (.slice a 0 c) 0 [] w := by
      cases a with
      | none => exact Src.ofNil w Try.underlying27 c
      | some ad => exact Src.ofSlice w Try.underlying27 ad 0 c [] (by simp) (fun j u hu => by simp at hu) (fun u hu => by simp at hu)
    obtain ⟨ua, un, uc, rfl, hle⟩ : ∃ ua un uc, u = .slice ua un uc ∧ un ≤ uc := by
      rcases hown.2 with ⟨h', _⟩ | ⟨g', cap', cur, h', _, _, hnc, _⟩
      · exact ⟨_, _, _, h', Nat.le_refl _⟩
      · exact ⟨_, _, _, h', hnc⟩
    refine ⟨_, _, run_append_nothing (P := Try.prog) w 27 27 ty 99 i0 Try.underlying27 hi ua un uc hle _ hsrc, ⟨by simpa using hown, World.grownBy.refl w _, fun g hg => .inl hg⟩⟩
  · obtain ⟨b, off, rfl, _⟩ := H.at_ hm
    have hl := H.len
    subst hl
    obtain ⟨v', w', hr, h2, h3, h4, h5⟩ := run_append_own_at (P := Try.prog) w B 27 ty 99 i0 _ 7 80 Try.underlying27 hi hz0 hz1 hz2 rfl (by decide) _ _ _ hown ⟨b, off, none⟩ news.length c (opCells news) (opCells_len _) H.cells (opCells_one _) (by unfold maxLen; omega) (by omega) hB
    refine ⟨v', w', hr, ⟨?_, h3, ?_⟩⟩
    · unfold OwnOps; rw [opCells_app, List.length_append]; exact h2
    · intro g hg
      rcases h5 with h5 | h5
      · left; rw [← h5]; exact hg
      · right; rw [hg] at h5; simpa using h5
theorem wp_app_all (w : World) {o : Oper} {ac : Act} {K : Act → World → Prop} {Q : Exit → Act → World → Prop} (s x : Operand)
    (ho : o.op = .call { callee := .builtin .append, args := #[s, x], argTypes := #[27, 27] }) (B : Nat) (u : Value) (l news : List LOp) (hown : OwnOps w B u l) (a : Option Addr) (m c L U : Nat) (H : OpsAt w L U a m news)
    (hs : ac.eval s = u) (hx : ac.eval x = .slice a m c) (hbd : l.length + m ≤ 1000000) (hB : B ≤ w.heap.size)
    (h : ∀ v w', AppOEnd w w' B u v (l ++ news) → K (ac.put o.dst v) w') : o.wp Try.prog ac w K Q := by
  obtain ⟨v', w', hr, h2⟩ := run_app_all w B u l news o.type hown a m c L U H hbd hB
  unfold Oper.wp execOp
  simp only [ho, resolve, invoke, builtin, Sem.run_bind, Sem.run_pure, Result.andThen_ok, List.map_toArray, List.map_cons, List.map_nil, hs, hx, hr]
  exact h v' w' h2
theorem wpList_app_all (w : World) {ops : Array Oper} {rest : List Oper} {o : Oper} {ac : Act} {Q : Exit → Act → World → Prop} (hgd : o.guard = none) (s x : Operand)
    (ho : o.op = .call { callee := .builtin .append, args := #[s, x], argTypes := #[27, 27] }) (B : Nat) (u : Value) (l news : List LOp) (hown : OwnOps w B u l) (a : Option Addr) (m c L U : Nat) (H : OpsAt w L U a m news)
    (hs : ac.eval s = u) (hx : ac.eval x = .slice a m c) (hbd : l.length + m ≤ 1000000) (hB : B ≤ w.heap.size)
    (h : ∀ v w', AppOEnd w w' B u v (l ++ news) → wpList Try.prog ops Q rest (ac.put o.dst v) w') : wpList Try.prog ops Q (o :: rest) ac w :=
  wpList_plain hgd fun _ hK => wp_app_all w s x ho B u l news hown a m c L U H hs hx hbd hB fun v w' h2 => hK _ _ (h v w' h2)

theorem AppOEnd.belowW {w0 W w1 : World} {B : Nat} {u v : Value} {l r : List LOp} (hE : AppOEnd W w1 B u v r) (hown : OwnOps W B u l) (hb : Below B w0 W) (hsz : B ≤ W.heap.size) : Below B w0 w1 :=
  below_grown hb hE.grown (fun k e => (hown.lt k e).1) hsz
theorem fix_pair {cur : List LOp} {i k : Nat} (hi : i < cur.length) (hk : goesL cur i = (k : Int)) (hl : ∀ t, t < i → goesL cur t < 0) : pairStep cur = some (without cur (idAt cur i) i k) := by
  unfold pairStep
  rw [firstPair_some hi (by omega) hl, Option.map_some, hk]
  rfl
theorem fix_nopair {cur : List LOp} (hl : ∀ t, t < cur.length → goesL cur t < 0) : pairStep cur = none := by
  unfold pairStep
  rw [firstPair_none hl]; rfl

end Go.Proofs.Ytdjffkiiglilnaa


/- Lists that are made shorter: the specification, what is moved on. -/
namespace Go.Proofs.Ytdjffkiiglilnaa
open Go.RowKit

theorem joinsB_no4 {a b : LOp} (h : (b.kind != 4) = true) : joinsB a b = false := by
  have : (b.kind == 4) = false := by simpa using h
  unfold joinsB; rw [this]; rfl
theorem joinsB_noid {a b : LOp} (h : (a.id != b.id) = true) : joinsB a b = false := by
  have : (a.id == b.id) = false := by simpa using h
  unfold joinsB; rw [this]; simp
theorem joinsB_make {a b : LOp} (h : (b.kind != 4) = false) (h1 : (a.id != b.id) = false) (hm : makesB a = true) : joinsB a b = ((b.dir == a.dir) && (b.name.toList == a.name.toList)) := by
  have e1 : (b.kind == 4) = true := by simpa using h
  have e2 : (a.id == b.id) = true := by simpa using h1
  unfold joinsB; rw [e1, e2, hm]; rfl
theorem joinsB_move {a b : LOp} (h : (b.kind != 4) = false) (h1 : (a.id != b.id) = false) (hm : makesB a = false) (h4 : (a.kind == 4) = true) : joinsB a b = ((b.dir == a.dir2) && (b.name.toList == a.name2.toList)) := by
  have e1 : (b.kind == 4) = true := by simpa using h
  have e2 : (a.id == b.id) = true := by simpa using h1
  unfold joinsB; rw [e1, e2, hm, h4]; rfl
theorem joinsB_none {a b : LOp} (hm : makesB a = false) (h4 : (a.kind == 4) = false) : joinsB a b = false := by
  unfold joinsB; rw [hm, h4]; simp
theorem kinds4 (a : LOp) : ((a.kind == 1) = true ∧ makesB a = true) ∨ ((a.kind == 1) = false ∧ (a.kind == 2) = true ∧ makesB a = true) ∨ ((a.kind == 1) = false ∧ (a.kind == 2) = false ∧ (a.kind == 4) = true ∧ makesB a = false) ∨ ((a.kind == 1) = false ∧ (a.kind == 2) = false ∧ (a.kind == 4) = false ∧ makesB a = false) := by
  unfold makesB
  cases (a.kind == 1) <;> cases (a.kind == 2) <;> cases (a.kind == 4) <;> simp

theorem OwnOps.one {W : World} {o : LOp} {B q : Nat} (hB : B ≤ W.heap.size) (hq : q = W.heap.size) : OwnOps (W.alloc (Obj.cells o.val 99)) B (.slice (some ⟨q, 0, none⟩) 1 1) [o] := by
  subst hq
  have := World.ownsRow_lit (base := B) (e := 99) (size := 7) W o.val 1 hB (by simp [maxLen]) (by simp [LOp.val])
  simpa [OwnOps, opCells] using this
theorem OwnOps.none_ {W : World} {B q : Nat} (hB : B ≤ W.heap.size) (hq : q = W.heap.size) : OwnOps (W.alloc (Obj.cells #[] 99)) B (.slice (some ⟨q, 0, none⟩) 0 0) [] := by
  subst hq
  exact OwnOps.empty W B hB
theorem OpsAt.none_ (w : World) (L U : Nat) (a : Option Addr) : OpsAt w L U a 0 [] := ⟨rfl, by simp [maxLen], fun h => absurd rfl h⟩
theorem OpsAt.drop_ {w : World} {L U b off n k : Nat} {ops : List LOp} (H : OpsAt w L U (some ⟨b, off, none⟩) n ops) (hk : k ≤ n) : OpsAt w L U (some ⟨b, off + k * 7, none⟩) (n - k) (ops.drop k) := by
  have hl := H.len
  have hbd := H.bd
  refine ⟨by simp; omega, by omega, fun hn => ?_⟩
  obtain ⟨b', off', ha, hL, hU, hc⟩ := H.at_ (by omega)
  simp only [Option.some.injEq, Addr.mk.injEq, and_true] at ha
  obtain ⟨rfl, rfl⟩ := ha
  refine ⟨_, _, rfl, hL, hU, fun i hi => ?_⟩
  obtain ⟨o, ho, hs, hat⟩ := hc (k + i) (by omega)
  refine ⟨o, by simpa using ho, hs, ?_⟩
  have e : off + k * 7 + i * 7 = off + (k + i) * 7 := by omega
  rw [e]
  exact hat
theorem OpsAt.grown {w w' : World} {L U : Nat} {a : Option Addr} {n : Nat} {ops : List LOp} {row : Option Nat} (H : OpsAt w L U a n ops) (hg : w.grownBy w' row) (hne : ∀ k, row = some k → k < L) (hU : U ≤ w.heap.size) : OpsAt w' L U a n ops :=
  ⟨H.len, H.bd, fun hn => by
    obtain ⟨b, off, ha, hL, hbU, hc⟩ := H.at_ hn
    refine ⟨b, off, ha, hL, hbU, fun i hi => ?_⟩
    obtain ⟨o, ho, hs, h0⟩ := hc i hi
    exact ⟨o, ho, hs, h0.of_block (hg.block b (by omega) (fun e => by have := hne b e.symm; omega))⟩⟩
theorem OwnOps.cut {w : World} {B g n cap k : Nat} {l : List LOp} (h : OwnOps w B (.slice (some ⟨g, 0, none⟩) n cap) l) (hn : n = l.length) (hk : k ≤ n) : OwnOps w B (.slice (some ⟨g, 0, none⟩) k cap) (l.take k) := by
  subst hn
  have hl : (l.take k).length = k := by simp; omega
  refine ⟨by rw [opCells_len], .inr ?_⟩
  rcases h.2 with ⟨h', _⟩ | ⟨g', cap', cur, h', hb, hg, hnc, hcm, hcs, htake⟩
  · simp at h'
  · simp only [Value.slice.injEq, Option.some.injEq, Addr.mk.injEq, and_true, true_and] at h'
    obtain ⟨rfl, rfl⟩ := h'
    refine ⟨g, cap, cur, by rw [hl], hb, hg, by omega, hcm, hcs, ?_⟩
    have e1 : opCells l = opCells (l.take k) ++ opCells (l.drop k) := by rw [← opCells_app, List.take_append_drop]
    have e2 : cur.toList.take (k * 7) = (cur.toList.take (l.length * 7)).take (k * 7) := by rw [List.take_take]; congr 1; omega
    rw [hl, e2, htake, e1, List.take_left' (by rw [opCells_len, hl])]
theorem step_app_all (w : World) {ops : Array Oper} {o : Oper} {ac : Act} {K : Act → World → Prop} {Q : Exit → Act → World → Prop} {E : Prop} (hgd : o.guard = none) (s x : Operand)
    (ho : o.op = .call { callee := .builtin .append, args := #[s, x], argTypes := #[27, 27] }) (B : Nat) (u : Value) (l news : List LOp) (hown : OwnOps w B u l) (a : Option Addr) (m c L U : Nat) (H : OpsAt w L U a m news)
    (hs : ac.eval s = u) (hx : ac.eval x = .slice a m c) (hbd : l.length + m ≤ 1000000) (hB : B ≤ w.heap.size)
    (h : ∀ v w', AppOEnd w w' B u v (l ++ news) → K (ac.put o.dst v) w') :
    if Region.wanted o (yielded ops ac.tmps) = true then Oper.wp Try.prog o ac w K Q else E := by
  have hw : Region.wanted o (yielded ops ac.tmps) = true := by simp [Region.wanted, hgd]
  rw [if_pos hw]
  exact wp_app_all w s x ho B u l news hown a m c L U H hs hx hbd hB h

theorem fix_join {cur : List LOp} {i : Nat} {a b : LOp} (ha : cur[i]? = some a) (hb : cur[i + 1]? = some b) (hj : joinsB a b = true) (hl : ∀ t, t < i → joinsAt cur t = false) : moveStep cur = some (cur.take i ++ joinL a b ++ cur.drop (i + 2)) := by
  unfold moveStep
  rw [firstJoin_some (i := i) (List.getElem?_eq_some_iff.1 ha).1 (by unfold joinsAt; rw [ha, hb]; exact hj) hl, Option.map_some]
  unfold joinedAt
  rw [ha, hb]
theorem joinsAt_of {cur : List LOp} {i : Nat} {a b : LOp} (ha : cur[i]? = some a) (hb : cur[i + 1]? = some b) : joinsAt cur i = joinsB a b := by
  unfold joinsAt; rw [ha, hb]
theorem fix_nojoin {cur : List LOp} {j : Nat} (hj : cur.length ≤ j + 1) (hl : ∀ t, t < j → joinsAt cur t = false) : moveStep cur = none := by
  unfold moveStep
  rw [firstJoin_none fun t ht => ?_]; rfl
  by_cases h : t < j
  · exact hl t h
  · unfold joinsAt
    rw [List.getElem?_eq_none (i := t + 1) (by omega)]
    split
    · next h2 => cases h2
    · rfl
end Go.Proofs.Ytdjffkiiglilnaa


/- Lists that are made shorter: the specification, what is moved on, again and again. -/
namespace Go.Proofs.Ytdjffkiiglilnaa
open Go.RowKit

theorem OwnOps.form_ {w : World} {B : Nat} {v : Value} {l : List LOp} (h : OwnOps w B v l) (hn : 0 < l.length) : ∃ g cap, v = .slice (some ⟨g, 0, none⟩) l.length cap ∧ B ≤ g ∧ g < w.heap.size ∧ l.length ≤ cap := by
  rcases h.2 with ⟨_, h0⟩ | ⟨g, cap, cur, rfl, hb, hg, hnc, _⟩
  · omega
  · exact ⟨g, cap, rfl, hb, (Array.getElem?_eq_some_iff.1 hg).1, hnc⟩
theorem step_app_at (w : World) {ops : Array Oper} {o : Oper} {ac : Act} {K : Act → World → Prop} {Q : Exit → Act → World → Prop} {E : Prop} (hgd : o.guard = none) (s x : Operand)
    (ho : o.op = .call { callee := .builtin .append, args := #[s, x], argTypes := #[27, 27] }) (d : Nat) (hd : o.dst = some d) (B : Nat) (u : Value) (l news : List LOp) (hown : OwnOps w B u l) (a : Option Addr) (m c L U : Nat) (H : OpsAt w L U a m news)
    (hs : ac.eval s = u) (hx : ac.eval x = .slice a m c) (hbd : l.length + m ≤ 1000000) (hB : B ≤ w.heap.size)
    (h : ∀ v w', AppOEnd w w' B u v (l ++ news) → K (ac.put (some d) v) w') :
    if Region.wanted o (yielded ops ac.tmps) = true then Oper.wp Try.prog o ac w K Q else E :=
  step_app_all w hgd s x ho B u l news hown a m c L U H hs hx hbd hB fun v w' hE => by rw [hd]; exact h v w' hE

end Go.Proofs.Ytdjffkiiglilnaa


/- Lists that are made shorter: the specification, whole. -/
namespace Go.Proofs.Ytdjffkiiglilnaa
open Go.RowKit

theorem OwnOps.base {w : World} {B B' : Nat} {v : Value} {l : List LOp} (h : OwnOps w B v l) (hB : B' ≤ B) : OwnOps w B' v l :=
  ⟨h.1, by
    rcases h.2 with h | ⟨g, cap, cu, h1, h2, h3⟩
    · exact .inl h
    · exact .inr ⟨g, cap, cu, h1, by omega, h3⟩⟩
theorem slimStep_none {cur : List LOp} (h : (stepL cur).length = cur.length) : slimStep cur = none := by
  unfold slimStep; rw [if_neg (by omega)]
theorem slimStep_some {cur : List LOp} (h : (stepL cur).length ≠ cur.length) : slimStep cur = some (stepL cur) := by
  unfold slimStep; rw [if_pos (by have := stepL_le cur; omega)]

def ifOk (f : List LOp → List LOp) (ops : List LOp) : List LOp := if formsB ops then f ops else []
theorem formsB_len {ops : List LOp} (h : formsB ops = true) : ops.length ≤ 60 := by
  unfold formsB at h; simp at h; exact h.1
theorem ifOk_no {f : List LOp → List LOp} {ops : List LOp} (h : formsB ops = false) : ifOk f ops = [] := by unfold ifOk; rw [h]; rfl
theorem ifOk_yes {f : List LOp → List LOp} {ops : List LOp} (h : formsB ops = true) : ifOk f ops = f ops := by unfold ifOk; rw [h]; rfl
theorem SlimEnd.later {w w1 w' : World} {r : List LOp} {e : Ending} (h : SlimEnd w1 r e w') (hb : Below w.heap.size w w1) : SlimEnd w r e w' := by
  obtain ⟨⟨v, rfl, ho⟩, hb'⟩ := h
  exact ⟨⟨v, rfl, ho.base hb.size⟩, hb.trans (hb'.mono hb.size)⟩

end Go.Proofs.Ytdjffkiiglilnaa


/- Lists that are made shorter: the program: what is deleted. -/
namespace Go.Proofs.Ytdjffkiiglilnaa
open Go.RowKit

end Go.Proofs.Ytdjffkiiglilnaa


/- Lists that are made shorter: the program: texts. -/
namespace Go.Proofs.Ytdjffkiiglilnaa
open Go.RowKit

set_option maxHeartbeats 1000000 in
theorem listOk_any (a : Option Addr) (n c : Nat) (ops : List LOp) (L U : Nat) (w : World) (hU : U ≤ w.heap.size) (H : OpsAt w L U a n ops) :
    Calls Try.prog 50 #[.slice a n c] w fun e w' => e = .returned (.bool (formsB ops)) ∧ Below w.heap.size w w' := by
  have hbd := H.bd
  have hlen : Hid (n = ops.length) := H.len
  unfold maxLen at hbd
  by_cases h60 : 60 < n
  · have h60' : (60 : Int) < (n : Int) := by omega
    go_enter Try.func50, Try.ntmps50
    go_wp2_with fail
    go_ret
    exact ⟨ret_bool (by have := hlen.out; simp [formsB]; omega), Below.refl _ _⟩
  · have h60' : ¬ (60 : Int) < (n : Int) := by omega
    go_enter Try.func50, Try.ntmps50
    go_wp2_with fail
    go_loopg [10] n (fun g k wr => ∃ j : Nat, j ≤ n ∧ Hid (g = n - j) ∧ k = .int .i64 j ∧ Hid (formsB ops = (ops.drop j).all opOk) ∧ Below w.heap.size w wr)
    case atStart => exact ⟨0, Nat.zero_le _, rfl, rfl, by show _ = _; have := hlen.out; simp [formsB]; omega, Below.refl _ _⟩
    case round =>
      obtain ⟨j, hj, hk, rfl, hq, hb⟩ := hrel
      by_cases hlt : j < n
      · obtain ⟨b, off, ha, hL, hbU, hc⟩ := H.at_ (by omega)
        subst ha
        obtain ⟨x, he, hsz, hat⟩ := hc j hlt
        obtain ⟨d0, d1, d2, d3, d4, d5, d6⟩ := hat.of_block (hb.block b (by omega))
        have hlt' : (j : Int) < (n : Int) := by omega
        have HQ : Hid (formsB ops = (opOk x && (ops.drop (j + 1)).all opOk)) := by show _ = _; rw [hq.out, drop_cons he, List.all_cons]
        have HOK := fun w => implOpOk x w hsz
        simp only [LOp.val] at HOK
        clear he hc hq hat H
        go_wp2_with fail
        refine (HOK _).mono ?_
        rintro e w1 ⟨rfl, hb1⟩
        have hbb : Below w.heap.size w w1 := (hb.alloc hb.size _).trans (hb1.mono (by have := hb.size; simp; omega))
        rcases hx : opOk x with _ | _
        · have HY : Hid (formsB ops = false) := by show _ = _; rw [HQ.out, hx]; rfl
          clear HOK HQ
          go_wp2_with fail
          go_ret
          exact ⟨ret_bool HY.out.symm, hbb⟩
        · have HY : Hid (formsB ops = (ops.drop (j + 1)).all opOk) := by show _ = _; rw [HQ.out, hx]; rfl
          clear HOK HQ
          go_wp2_with fail
          go_roundg (n - (j + 1))
          case measure => have := hk.out; omega
          case rel => exact ⟨j + 1, by omega, rfl, by go_num, HY.out, hbb⟩
      · have HN : Hid (formsB ops = true) := by
          show _ = _
          rw [hq.out, List.drop_of_length_le (by have := hlen.out; omega)]; rfl
        go_wp2_with fail
        go_ret
        exact ⟨ret_bool HN.out.symm, hb⟩

def IdxEnd (b : Bool) (e : Ending) : Prop := ∃ r : Int, e = .returned (.int .i64 r) ∧ decide (0 ≤ r) = b
def goesText (ops : List LOp) (i : Nat) : Bool := match ops[i]? with
  | some o => (o.kind == 5) && voidB ops i
  | none => false
theorem voidB_at {ops : List LOp} {i : Nat} {o : LOp} (h : ops[i]? = some o) : voidB ops i = (ops.drop (i + 1)).any (voids o.id) := by unfold voidB; rw [h]
theorem texts_same (ops : List LOp) : keepTo (fun i => !goesText ops i) ops ops.length = textsL ops := by
  unfold textsL
  refine keepTo_congr fun i _ hi => ?_
  unfold goesText textKeep
  rw [List.getElem?_eq_getElem hi]
  have : ∀ a b : Bool, (!(a && b)) = (!a || !b) := by decide
  simp [this, bne]
end Go.Proofs.Ytdjffkiiglilnaa


/- Lists that are made shorter: the program: what goes again. -/
namespace Go.Proofs.Ytdjffkiiglilnaa
open Go.RowKit

theorem leans_cases (x : LOp) (id : Int) : ((x.kind != 5) = false ∧ (x.kind == 4) = false) ∨ ((x.kind != 5) = true ∧ (x.dir == id) = true) ∨ ((x.kind != 5) = true ∧ (x.dir == id) = false ∧ (x.kind == 4) = true ∧ (x.dir2 == id) = true) ∨ ((x.kind != 5) = true ∧ (x.dir == id) = false ∧ (x.kind == 4) = true ∧ (x.dir2 == id) = false) ∨ ((x.kind != 5) = true ∧ (x.dir == id) = false ∧ (x.kind == 4) = false) := by
  by_cases h5 : x.kind = 5
  · left; simp [h5]
  · have : (x.kind != 5) = true := by simpa using h5
    rw [this]
    cases (x.dir == id) <;> cases (x.kind == 4) <;> cases (x.dir2 == id) <;> simp
def GoEnd (g : Int) (e : Ending) : Prop := e = .returned (.tuple #[.int .i64 (if 0 ≤ g then g else 0), .bool (decide (0 ≤ g))])
theorem GoEnd.no {e : Ending} (h : e = .returned (.tuple #[.int .i64 0, .bool false])) : GoEnd (-1) e := by subst h; rfl
theorem GoEnd.yes {e : Ending} {j : Nat} (h : e = .returned (.tuple #[.int .i64 j, .bool true])) : GoEnd j e := by
  subst h
  unfold GoEnd
  have : (0 : Int) ≤ (j : Int) := by omega
  simp [this]
/-- What is found of the first that goes again. -/
def PairEnd (ops : List LOp) (e : Ending) : Prop :=
  (∃ i k : Nat, i < ops.length ∧ goesL ops i = (k : Int) ∧ firstPair ops = some i ∧ e = .returned (.tuple #[.agg #[.int .i64 i, .int .i64 k], .bool true])) ∨
  (firstPair ops = none ∧ e = .returned (.tuple #[.agg #[.int .i64 0, .int .i64 0], .bool false]))
end Go.Proofs.Ytdjffkiiglilnaa


/- Lists that are made shorter: the program: what goes again is taken out. -/
namespace Go.Proofs.Ytdjffkiiglilnaa
open Go.RowKit

def goesPair (ops : List LOp) (id : Int) (i k j : Nat) : Bool := (decide (i ≤ j) && decide (j ≤ k)) && (idAt ops j == id)
theorem OwnOps.nil_ (w : World) (B : Nat) : OwnOps w B (.slice none 0 0) [] := World.ownsRow_nil _ _ _ _
theorem copy_list (a : Option Addr) (n c : Nat) (ops : List LOp) (L U : Nat) (w : World) (hn : n ≤ 1000) (H : OpsAt w L U a n ops) :
    Calls Try.prog 65 #[.slice a n c] w (SlimEnd w ops) := by
  go_enter Try.func65, Try.ntmps65
  go_wp2_with (first
    | (at_builtin; refine wpList_app_all _ rfl (.const (.slice none 0 0)) (.tmp 3) rfl w.heap.size _ [] ops (World.ownsRow_nil _ _ _ _) a n c L U H rfl rfl ?c2 ?c3 ?_)
    | go_in)
  case c2 => simp; omega
  case c3 => simp
  intro v1 w1 hE1
  have hown1 : OwnOps w1 w.heap.size v1 ops := by simpa using hE1.own
  have hb1 : Below w.heap.size w w1 := hE1.belowW (OwnOps.nil_ _ _) (Below.refl _ _) (Nat.le_refl _)
  clear hE1
  go_wp2_with fail
  go_ret
  exact ⟨⟨_, rfl, hown1⟩, hb1⟩

end Go.Proofs.Ytdjffkiiglilnaa


/- Lists that are made shorter: the program: what goes again, one at a time. -/
namespace Go.Proofs.Ytdjffkiiglilnaa
open Go.RowKit

theorem pair_same (ops : List LOp) (i k : Nat) (id : Int) : keepTo (fun j => !goesPair ops id i k j) ops ops.length = without ops id i k := by
  unfold without
  refine keepTo_congr fun j _ _ => ?_
  unfold goesPair
  have h1 : decide (i ≤ j) = !decide (j < i) := by
    by_cases h : j < i
    · simp [h]
    · simp [h]; omega
  have h2 : decide (j ≤ k) = !decide (k < j) := by
    by_cases h : k < j
    · simp [h]
    · simp [h]; omega
  rw [h1, h2]
  simp [bne]
/-- One step of a rule, or the list as it is. -/
def orSame (f : List LOp → Option (List LOp)) (ops : List LOp) : List LOp := (f ops).getD ops
theorem orSame_pair {ops : List LOp} {i k : Nat} {o : LOp} (hf : firstPair ops = some i) (hg : goesL ops i = (k : Int)) (ho : ops[i]? = some o) : orSame pairStep ops = without ops o.id i k := by
  unfold orSame pairStep
  rw [hf, Option.map_some, hg, idAt_of ho]
  rfl
end Go.Proofs.Ytdjffkiiglilnaa


/- Lists that are made shorter: the program: a rule again and again; pairs. -/
namespace Go.Proofs.Ytdjffkiiglilnaa
open Go.RowKit

end Go.Proofs.Ytdjffkiiglilnaa


/- Lists that are made shorter: the program: where something is then. -/
namespace Go.Proofs.Ytdjffkiiglilnaa
open Go.RowKit

def startV (o : LOp) : Value := .agg #[.int .i64 o.dir, .string o.name]
def endV (o : LOp) : Value := if o.kind == 4 then .agg #[.int .i64 o.dir2, .string o.name2] else .agg #[.int .i64 o.dir, .string o.name]
end Go.Proofs.Ytdjffkiiglilnaa


/- Lists that are made shorter: the program: what moves on. -/
namespace Go.Proofs.Ytdjffkiiglilnaa
open Go.RowKit

structure BoxAt (w : World) (q : Nat) (o : LOp) : Prop where
  c0 : w.cell? ⟨q, 0, none⟩ = some (.int .i64 o.kind)
  c1 : w.cell? ⟨q, 1, none⟩ = some (.int .i64 o.dir)
  c2 : w.cell? ⟨q, 2, none⟩ = some (.string o.name)
  c3 : w.cell? ⟨q, 3, none⟩ = some (.int .i64 o.dir2)
  c4 : w.cell? ⟨q, 4, none⟩ = some (.string o.name2)
  c5 : w.cell? ⟨q, 5, none⟩ = some (.int .i64 o.id)
  c6 : w.cell? ⟨q, 6, none⟩ = some (.string o.text)
theorem BoxAt.of {w w' : World} {q : Nat} {o : LOp} (h : BoxAt w q o) (e : w'.heap[q]? = w.heap[q]?) : BoxAt w' q o := by
  have hc : ∀ j, w'.cell? ⟨q, j, none⟩ = w.cell? ⟨q, j, none⟩ := fun j => World.cell?_of_block (w := w) e
  exact ⟨by rw [hc]; exact h.c0, by rw [hc]; exact h.c1, by rw [hc]; exact h.c2, by rw [hc]; exact h.c3, by rw [hc]; exact h.c4, by rw [hc]; exact h.c5, by rw [hc]; exact h.c6⟩
theorem BoxAt.new (w : World) (o : LOp) : BoxAt (w.alloc (.cells #[.int .i64 o.kind, .int .i64 o.dir, .string o.name, .int .i64 o.dir2, .string o.name2, .int .i64 o.id, .string o.text] 99)) w.heap.size o :=
  ⟨by simp [go_sem], by simp [go_sem], by simp [go_sem], by simp [go_sem], by simp [go_sem], by simp [go_sem], by simp [go_sem]⟩
def A0 (o : LOp) : Array Value := #[.int .i64 o.kind, .int .i64 o.dir, .string o.name, .int .i64 o.dir2, .string o.name2, .int .i64 o.id, .string o.text]

theorem moves_b {k : Int} {r : Bool} (h : (k == 4) = r) (w : World) : Calls Try.prog 155 #[.int .i64 k] w fun e w' => e = .returned (.bool r) ∧ w' = w := by
  have := moves_any k w
  rw [h] at this
  exact this

end Go.Proofs.Ytdjffkiiglilnaa


/- Lists that are made shorter: the program: what moves on from where it was put. -/
namespace Go.Proofs.Ytdjffkiiglilnaa
open Go.RowKit

/-- Taken first, the frame and the list of what came up written out. -/
theorem takeH {P : Program} {md : Region.Mode} {ops : Array Oper} {Q : Exit → Act → World → Prop} {S : World → Prop} {i : Nat} {oi : Oper} {v : Value} {fuel : Nat} {listed : Array Bool} {a : Act} {w : World} (d : Nat) (l2 : Array Bool) (hi : ops[i]? = some oi)
    (hs : Region.noSelect ops = true) (hf : Region.free md ops listed i = true) (hr : (Region.ready md ops listed).contains i = true)
    (hd : oi.dst = some d) (hl : listed.setIfInBounds i true = l2) (hQ : ∀ c a w, Q (.panic c) (a.put oi.dst v) w → Q (.panic c) a w) (hy : YieldsIf P ops S oi v a) (hS : S w)
    (h : wpAnyH P md ops Q S fuel l2 (a.put (some d) v) w) : wpAnyH P md ops Q S (fuel + 1) listed a w :=
  wpAnyH_take hi hs hf hr hQ hy hS (by rw [hl, hd]; exact h)
theorem listH {P : Program} {md : Region.Mode} {ops : Array Oper} {Q : Exit → Act → World → Prop} {S : World → Prop} {fuel : Nat} {listed l2 : Array Bool} {a : Act} {w : World} (hl : listed = l2) (h : wpAnyH P md ops Q S fuel l2 a w) : wpAnyH P md ops Q S fuel listed a w := by
  rw [hl]; exact h

end Go.Proofs.Ytdjffkiiglilnaa


/- Lists that are made shorter: the program: what moves on, whole; lists with one put anew. -/
namespace Go.Proofs.Ytdjffkiiglilnaa
open Go.RowKit

theorem beq_int_comm (a b : Int) : (a == b) = (b == a) := BEq.comm
theorem beq_list_comm (a b : List UInt8) : (a == b) = (b == a) := BEq.comm
/-! A row of what is done, read and written. -/
theorem OwnOps.rowOf {w : World} {B : Nat} {v : Value} {l : List LOp} (h : OwnOps w B v l) (hn : 0 < l.length) : ∃ g cap f, v = .slice (some ⟨g, 0, none⟩) l.length cap ∧ B ≤ g ∧ l.length ≤ cap ∧ cap ≤ maxLen ∧ w.rowIs g 99 (cap * 7) f ∧ ∀ i (hi : i < l.length), opF f i l[i] := by
  rcases h.2 with ⟨rfl, h0⟩ | ⟨g, cap, cur, rfl, hb, hg, hnc, hcm, hcs, htake⟩
  · omega
  · refine ⟨g, cap, fun i => cur[i]?.getD default, rfl, hb, hnc, hcm, ⟨cur, hg, by omega, fun i hi => by simp [Array.getElem?_eq_getElem (show i < cur.size by omega)]⟩, fun i hi => ?_⟩
    have hq : ∀ t u, t < 7 → (l[i]).val[t]? = some u → cur[i * 7 + t]?.getD default = u := fun t u ht hu => by
      have h1 := opCells_at l i l[i] (by simp [hi]) t u hu
      rw [← htake, List.getElem?_take_of_lt (by omega)] at h1
      simp at h1
      simp [h1]
    exact ⟨by simpa using hq 0 _ (by omega) (by simp [LOp.val]), hq 1 _ (by omega) (by simp [LOp.val]), hq 2 _ (by omega) (by simp [LOp.val]), hq 3 _ (by omega) (by simp [LOp.val]), hq 4 _ (by omega) (by simp [LOp.val]), hq 5 _ (by omega) (by simp [LOp.val]), hq 6 _ (by omega) (by simp [LOp.val])⟩
theorem opCells_getElem (l : List LOp) (q : Nat) (hq : q < l.length * 7) : (opCells l)[q]? = (l[q / 7]'(by omega)).val[q % 7]? := by
  have hm : q % 7 < (l[q / 7]'(by omega)).val.size := by simp [LOp.val]; omega
  have e : q = q / 7 * 7 + q % 7 := by omega
  have := opCells_at l (q / 7) (l[q / 7]'(by omega)) (by simp) (q % 7) ((l[q / 7]'(by omega)).val[q % 7]) (by simp)
  rw [← e] at this
  rw [this, Array.getElem?_eq_getElem hm]
theorem OwnOps.ofRow {w : World} {B g cap : Nat} {l : List LOp} {f : Nat → Value} (hB : B ≤ g) (hc : l.length ≤ cap) (hm : cap ≤ maxLen) (hr : w.rowIs g 99 (cap * 7) f) (hf : ∀ i (hi : i < l.length), opF f i l[i]) : OwnOps w B (.slice (some ⟨g, 0, none⟩) l.length cap) l := by
  obtain ⟨cur, hg, hs, hcell⟩ := hr
  refine ⟨opCells_len l, .inr ⟨g, cap, cur, rfl, hB, hg, hc, hm, hs, ?_⟩⟩
  apply List.ext_getElem?
  intro q
  by_cases hq : q < l.length * 7
  · rw [List.getElem?_take_of_lt hq, opCells_getElem l q hq]
    have h1 := hcell q (by omega)
    have h2 : cur.toList[q]? = some (f q) := by simpa using h1
    rw [h2]
    obtain ⟨q0, q1, q2, q3, q4, q5, q6⟩ := hf (q / 7) (by omega)
    have hm : q % 7 = 0 ∨ q % 7 = 1 ∨ q % 7 = 2 ∨ q % 7 = 3 ∨ q % 7 = 4 ∨ q % 7 = 5 ∨ q % 7 = 6 := by omega
    have key : ∀ t u, q % 7 = t → f (q / 7 * 7 + t) = u → (l[q / 7]'(by omega)).val[t]? = some u → some (f q) = (l[q / 7]'(by omega)).val[q % 7]? := fun t u ht hu hv => by
      rw [ht, hv, ← hu, ← ht]
      congr 2
      omega
    rcases hm with e | e | e | e | e | e | e
    · exact key 0 _ e q0 rfl
    · exact key 1 _ e q1 rfl
    · exact key 2 _ e q2 rfl
    · exact key 3 _ e q3 rfl
    · exact key 4 _ e q4 rfl
    · exact key 5 _ e q5 rfl
    · exact key 6 _ e q6 rfl
  · rw [List.getElem?_eq_none (by simp; omega), List.getElem?_eq_none (by rw [opCells_len]; omega)]

/-! What is left when one goes, or both. -/
def goesJoin (back : Bool) (at_ j : Nat) : Bool := (j == at_) || (back && (j + 1 == at_))
theorem keepTo_all {p : Nat → Bool} {ops : List LOp} : ∀ {k : Nat}, (∀ i, i < k → p i = true) → keepTo p ops k = ops.take k
  | 0, _ => by simp [keepTo]
  | k + 1, h => by
    unfold keepTo
    rw [keepTo_all fun i hi => h i (by omega), h k (by omega)]
    rw [List.take_add_one]
    cases ops[k]? <;> simp
theorem keepTo_more {p : Nat → Bool} {ops : List LOp} {k : Nat} : ∀ (m : Nat), (∀ i, k ≤ i → p i = true) → keepTo p ops (k + m) = keepTo p ops k ++ (ops.drop k).take m
  | 0, _ => by simp
  | m + 1, h => by
    have e : keepTo p ops (k + (m + 1)) = keepTo p ops (k + m) ++ (match ops[k + m]? with | some o => if p (k + m) then [o] else [] | none => []) := rfl
    rw [e, keepTo_more m h, h (k + m) (by omega), List.take_add_one, List.getElem?_drop, List.append_assoc]
    cases ops[k + m]? <;> simp
theorem keepTo_join {ops : List LOp} {j : Nat} {x : LOp} (back : Bool) (hx : ops[j]? = some x) (hl : j + 1 < ops.length) : keepTo (fun i => !goesJoin back (j + 1) i) ops ops.length = ops.take j ++ (if back then [] else [x]) ++ ops.drop (j + 2) := by
  have e : ops.length = (j + 2) + (ops.length - (j + 2)) := by omega
  rw [e, keepTo_more _ (fun i hi => by unfold goesJoin; have h1 : ¬ i = j + 1 := by omega
                                       have h2 : ¬ i = j := by omega
                                       simp [h1, h2])]
  have e2 : (ops.drop (j + 2)).take (ops.length - (j + 2)) = ops.drop (j + 2) := List.take_of_length_le (by simp)
  rw [e2]
  congr 1
  have e3 : keepTo (fun i => !goesJoin back (j + 1) i) ops (j + 2) = keepTo (fun i => !goesJoin back (j + 1) i) ops (j + 1) := keepTo_no (by simp [goesJoin])
  rw [e3]
  have e4 : keepTo (fun i => !goesJoin back (j + 1) i) ops j = ops.take j := keepTo_all fun i hi => by
    unfold goesJoin
    have h1 : ¬ i = j + 1 := by omega
    have h2 : ¬ i = j := by omega
    simp [h1, h2]
  cases back
  · rw [keepTo_yes hx (by simp [goesJoin]), e4]; rfl
  · rw [keepTo_no (by simp [goesJoin]), e4]; simp
end Go.Proofs.Ytdjffkiiglilnaa


/- Lists that are made shorter: the program: steps of a region that make and fill boxes. -/
namespace Go.Proofs.Ytdjffkiiglilnaa
open Go.RowKit

def zrow (z : Array Value) (i : Nat) : Value := z[i]?.getD default
theorem zrow_new (W : World) (z : Array Value) (t : TypeId) : (W.alloc (.cells z t)).rowIs W.heap.size t z.size (zrow z) := World.rowIs_alloc W z t (zrow z) (fun i hi => by unfold zrow; rw [Array.getElem?_eq_getElem hi]; rfl)
section
variable {ops : Array Oper} {ac : Act} {K : Act → World → Prop} {Q : Exit → Act → World → Prop} {E : Prop} {ty : TypeId} {ps : String} {af : Array Edge}
theorem st_alloc30 (W : World) (d : Nat)
    (h : ∀ q W', q = W.heap.size → Below W.heap.size W W' → W'.rowIs q 99 7 (zrow #[.int .i64 0, .int .i64 0, .string ⟨#[]⟩, .int .i64 0, .string ⟨#[]⟩, .int .i64 0, .string ⟨#[]⟩]) → K (ac.put (some d) (.pointer (some ⟨q, 0, none⟩))) W') :
    if Region.wanted { dst := some d, op := .alloc 99, type := ty, pos := ps, after := af, guard := none } (yielded ops ac.tmps) = true then Oper.wp Try.prog { dst := some d, op := .alloc 99, type := ty, pos := ps, after := af, guard := none } ac W K Q else E := by
  rw [if_pos (by simp [Region.wanted])]
  have := h W.heap.size (W.alloc (.cells #[.int .i64 0, .int .i64 0, .string ⟨#[]⟩, .int .i64 0, .string ⟨#[]⟩, .int .i64 0, .string ⟨#[]⟩] 99)) rfl ((Below.refl _ _).alloc (Nat.le_refl _) _) (zrow_new W _ 99)
  unfold Oper.wp
  go_simp
  exact this
theorem st_alloc4 (W : World) (d : Nat)
    (h : ∀ q W', q = W.heap.size → Below W.heap.size W W' → W'.rowIs q 4 1 (zrow #[.bool false]) → K (ac.put (some d) (.pointer (some ⟨q, 0, none⟩))) W') :
    if Region.wanted { dst := some d, op := .alloc 4, type := ty, pos := ps, after := af, guard := none } (yielded ops ac.tmps) = true then Oper.wp Try.prog { dst := some d, op := .alloc 4, type := ty, pos := ps, after := af, guard := none } ac W K Q else E := by
  rw [if_pos (by simp [Region.wanted])]
  have := h W.heap.size (W.alloc (.cells #[.bool false] 4)) rfl ((Below.refl _ _).alloc (Nat.le_refl _) _) (zrow_new W _ 4)
  unfold Oper.wp
  go_simp
  exact this
theorem But.sets {q : Nat} {W W' : World} (h : But q W W') (o : Nat) (v : Value) : But q W (W'.setCell ⟨q, o, none⟩ v) := h.set o v
theorem st_store30 (W : World) (tp tv : Nat) (q k : Nat) (x : LOp) (nn : Nat) (f : Nat → Value) (hp : ac.tmps[tp]?.getD undef = .pointer (some ⟨q, k, none⟩)) (hv : ac.tmps[tv]?.getD undef = .agg x.val) (hr : W.rowIs q 99 nn f) (hk : k + 7 ≤ nn)
    (hold : ∃ o : LOp, f k = .int .i64 o.kind ∧ f (k + 1) = .int .i64 o.dir ∧ f (k + 2) = .string o.name ∧ f (k + 3) = .int .i64 o.dir2 ∧ f (k + 4) = .string o.name2 ∧ f (k + 5) = .int .i64 o.id ∧ f (k + 6) = .string o.text)
    (h : ∀ W', But q W W' → W'.rowIs q 99 nn (fun i => if i = k + 6 then .string x.text else if i = k + 5 then .int .i64 x.id else if i = k + 4 then .string x.name2 else if i = k + 3 then .int .i64 x.dir2 else if i = k + 2 then .string x.name else if i = k + 1 then .int .i64 x.dir else if i = k then .int .i64 x.kind else f i) → K ac W') :
    if Region.wanted { dst := none, op := .store 99 (.tmp tp) (.tmp tv), type := ty, pos := ps, after := af, guard := none } (yielded ops ac.tmps) = true then Oper.wp Try.prog { dst := none, op := .store 99 (.tmp tp) (.tmp tv), type := ty, pos := ps, after := af, guard := none } ac W K Q else E := by
  rw [if_pos (by simp [Region.wanted])]
  obtain ⟨o, o0, o1, o2, o3, o4, o5, o6⟩ := hold
  have c0 : W.cell? ⟨q, k, none⟩ = some (.int .i64 o.kind) := by rw [hr.cell (by omega), o0]
  have c1 : W.cell? ⟨q, k + 1, none⟩ = some (.int .i64 o.dir) := by rw [hr.cell (by omega), o1]
  have c2 : W.cell? ⟨q, k + 2, none⟩ = some (.string o.name) := by rw [hr.cell (by omega), o2]
  have c3 : W.cell? ⟨q, k + 3, none⟩ = some (.int .i64 o.dir2) := by rw [hr.cell (by omega), o3]
  have c4 : W.cell? ⟨q, k + 4, none⟩ = some (.string o.name2) := by rw [hr.cell (by omega), o4]
  have c5 : W.cell? ⟨q, k + 5, none⟩ = some (.int .i64 o.id) := by rw [hr.cell (by omega), o5]
  have c6 : W.cell? ⟨q, k + 6, none⟩ = some (.string o.text) := by rw [hr.cell (by omega), o6]
  have z0 : W.frozen? ⟨q, k, none⟩ = false := hr.frozen _
  have z1 : W.frozen? ⟨q, k + 1, none⟩ = false := hr.frozen _
  have z2 : W.frozen? ⟨q, k + 2, none⟩ = false := hr.frozen _
  have z3 : W.frozen? ⟨q, k + 3, none⟩ = false := hr.frozen _
  have z4 : W.frozen? ⟨q, k + 4, none⟩ = false := hr.frozen _
  have z5 : W.frozen? ⟨q, k + 5, none⟩ = false := hr.frozen _
  have z6 : W.frozen? ⟨q, k + 6, none⟩ = false := hr.frozen _
  have := h (((((((W.setCell ⟨q, k, none⟩ (.int .i64 x.kind)).setCell ⟨q, k + 1, none⟩ (.int .i64 x.dir)).setCell ⟨q, k + 2, none⟩ (.string x.name)).setCell ⟨q, k + 3, none⟩ (.int .i64 x.dir2)).setCell ⟨q, k + 4, none⟩ (.string x.name2)).setCell ⟨q, k + 5, none⟩ (.int .i64 x.id)).setCell ⟨q, k + 6, none⟩ (.string x.text))
    (((((((But.refl q W).set _ _).set _ _).set _ _).set _ _).set _ _).set _ _ |>.set _ _)
    (((((((hr.set k _).set (k + 1) _).set (k + 2) _).set (k + 3) _).set (k + 4) _).set (k + 5) _).set (k + 6) _)
  clear h hr o0 o1 o2 o3 o4 o5 o6
  simp only [LOp.val] at hv
  unfold Oper.wp
  go_simp
  exact this
theorem st_store4 (W : World) (tp tv : Nat) (q : Nat) (b : Bool) (hp : ac.tmps[tp]?.getD undef = .pointer (some ⟨q, 0, none⟩)) (hv : ac.tmps[tv]?.getD undef = .bool b) (hr : W.rowIs q 4 1 (zrow #[.bool false]))
    (h : ∀ W', But q W W' → W'.cell? ⟨q, 0, none⟩ = some (.bool b) → K ac W') :
    if Region.wanted { dst := none, op := .store 4 (.tmp tp) (.tmp tv), type := ty, pos := ps, after := af, guard := none } (yielded ops ac.tmps) = true then Oper.wp Try.prog { dst := none, op := .store 4 (.tmp tp) (.tmp tv), type := ty, pos := ps, after := af, guard := none } ac W K Q else E := by
  rw [if_pos (by simp [Region.wanted])]
  have c0 := hr.cell (i := 0) (by omega)
  have z0 := hr.frozen 0
  have r2 := hr.set 0 (.bool b)
  have := h (W.setCell ⟨q, 0, none⟩ (.bool b)) ((But.refl q W).set _ _) (by rw [r2.cell (by omega)]; rfl)
  clear h hr r2
  simp [zrow] at c0
  unfold Oper.wp
  go_simp
  exact this
end
end Go.Proofs.Ytdjffkiiglilnaa
