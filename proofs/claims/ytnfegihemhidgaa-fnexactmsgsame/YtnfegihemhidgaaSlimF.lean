import Derived.Test.YtnfegihemhidgaaRop
/- Lists that are made shorter: what that is, on lists. -/
namespace Go.Proofs.Ytnfegihemhidgaa
open Go.RowKit

/-! Some of a list. -/
def keepTo (p : Nat → Bool) (ops : List LOp) : Nat → List LOp
  | 0 => []
  | j + 1 => keepTo p ops j ++ (match ops[j]? with | some o => if p j then [o] else [] | none => [])
theorem keepTo_yes {p : Nat → Bool} {ops : List LOp} {j : Nat} {o : LOp} (h : ops[j]? = some o) (hp : p j = true) : keepTo p ops (j + 1) = keepTo p ops j ++ [o] := by
  simp [keepTo, h, hp]
theorem keepTo_no {p : Nat → Bool} {ops : List LOp} {j : Nat} (hp : p j = false) : keepTo p ops (j + 1) = keepTo p ops j := by
  show keepTo p ops j ++ _ = _
  cases ops[j]? <;> simp [hp]
theorem keepTo_len (p : Nat → Bool) (ops : List LOp) : ∀ j, (keepTo p ops j).length ≤ j
  | 0 => Nat.le_refl _
  | j + 1 => by
    have := keepTo_len p ops j
    unfold keepTo
    rw [List.length_append]
    split
    · split <;> simp <;> omega
    · simp; omega
theorem keepTo_mem {p : Nat → Bool} {ops : List LOp} : ∀ {j : Nat} {x : LOp}, x ∈ keepTo p ops j → x ∈ ops
  | 0, _, h => by cases h
  | j + 1, x, h => by
    unfold keepTo at h
    rcases List.mem_append.1 h with h | h
    · exact keepTo_mem h
    · split at h
      · next o ho =>
        split at h
        · simp at h; subst h; exact List.mem_of_getElem? ho
        · cases h
      · cases h
theorem keepTo_congr {p q : Nat → Bool} {ops : List LOp} : ∀ {j : Nat}, (∀ i, i < j → i < ops.length → p i = q i) → keepTo p ops j = keepTo q ops j
  | 0, _ => rfl
  | j + 1, h => by
    unfold keepTo
    rw [keepTo_congr fun i hi => h i (by omega)]
    split
    · next o ho =>
      rw [h j (by omega) (List.getElem?_eq_some_iff.1 ho).1]
    · rfl
theorem keepTo_lt {p : Nat → Bool} {ops : List LOp} {i : Nat} (hp : p i = false) : ∀ {j : Nat}, i < j → (keepTo p ops j).length < j
  | 0, h => by omega
  | j + 1, h => by
    by_cases e : i = j
    · subst e
      rw [keepTo_no hp]
      have := keepTo_len p ops i
      omega
    · have := keepTo_lt (p := p) (ops := ops) hp (j := j) (by omega)
      unfold keepTo
      rw [List.length_append]
      split
      · split <;> simp <;> omega
      · simp; omega

/-! Texts that are void. -/
def voids (id : Int) (x : LOp) : Bool := (x.id == id) && ((x.kind == 5) || (x.kind == 3))
def voidB (ops : List LOp) (i : Nat) : Bool := match ops[i]? with
  | some o => (ops.drop (i + 1)).any (voids o.id)
  | none => false
def textKeep (ops : List LOp) (i : Nat) : Bool := match ops[i]? with
  | some o => (o.kind != 5) || !voidB ops i
  | none => false
def textsL (ops : List LOp) : List LOp := keepTo (textKeep ops) ops ops.length

/-! What is made and goes again. -/
def leansB (o : LOp) (id : Int) : Bool := ((o.kind != 5) && (o.dir == id)) || ((o.kind == 4) && (o.dir2 == id))
def goesAt (id : Int) : List LOp → Nat → Int
  | [], _ => -1
  | o :: r, k => if leansB o id then -1 else if (o.kind == 3) && (o.id == id) then (k : Int) else goesAt id r (k + 1)
def makesB (o : LOp) : Bool := (o.kind == 1) || (o.kind == 2)
def goesL (ops : List LOp) (i : Nat) : Int := match ops[i]? with
  | some o => if makesB o then goesAt o.id (ops.drop (i + 1)) (i + 1) else -1
  | none => -1
theorem drop_cons {α : Type} {l : List α} {k : Nat} {x : α} (h : l[k]? = some x) : l.drop k = x :: l.drop (k + 1) := by
  obtain ⟨hk, rfl⟩ := List.getElem?_eq_some_iff.1 h
  exact List.drop_eq_getElem_cons hk
theorem goesAt_ge (id : Int) : ∀ (l : List LOp) (k : Nat), goesAt id l k = -1 ∨ ((k : Int) ≤ goesAt id l k ∧ goesAt id l k < (k : Int) + l.length)
  | [], k => .inl rfl
  | o :: r, k => by
    unfold goesAt
    split
    · exact .inl rfl
    · split
      · right; simp; omega
      · rcases goesAt_ge id r (k + 1) with h | h
        · exact .inl h
        · right; simp only [List.length_cons]; push_cast at h ⊢; omega
theorem goesL_ge (ops : List LOp) (i : Nat) : goesL ops i = -1 ∨ ((i : Int) < goesL ops i ∧ goesL ops i < ops.length) := by
  unfold goesL
  split
  · next o ho =>
    split
    · rcases goesAt_ge o.id (ops.drop (i + 1)) (i + 1) with h | h
      · exact .inl h
      · right
        have := (List.getElem?_eq_some_iff.1 ho).1
        simp only [List.length_drop] at h
        push_cast at h
        omega
    · exact .inl rfl
  · exact .inl rfl
def idAt (ops : List LOp) (i : Nat) : Int := (ops[i]?.map LOp.id).getD 0
theorem idAt_of {ops : List LOp} {i : Nat} {o : LOp} (h : ops[i]? = some o) : idAt ops i = o.id := by simp [idAt, h]
def without (ops : List LOp) (id : Int) (i k : Nat) : List LOp := keepTo (fun j => (decide (j < i) || decide (k < j)) || (idAt ops j != id)) ops ops.length
def firstPair (ops : List LOp) : Option Nat := (List.range ops.length).find? fun i => decide (0 ≤ goesL ops i)
def pairStep (ops : List LOp) : Option (List LOp) := (firstPair ops).map fun i => without ops (idAt ops i) i (goesL ops i).toNat
theorem firstPair_some {ops : List LOp} {i : Nat} (hi : i < ops.length) (h : 0 ≤ goesL ops i) (hl : ∀ j, j < i → goesL ops j < 0) : firstPair ops = some i := by
  unfold firstPair
  rw [List.find?_range_eq_some]
  exact ⟨by simpa using h, by simpa using hi, fun j hj => by have := hl j hj; simp; omega⟩
theorem firstPair_none {ops : List LOp} (hl : ∀ j, j < ops.length → goesL ops j < 0) : firstPair ops = none := by
  unfold firstPair
  rw [List.find?_range_eq_none]
  exact fun j hj => by have := hl j hj; simp; omega

/-! What is moved and moved on. -/
def joinsB (a b : LOp) : Bool := (b.kind == 4) && (a.id == b.id) &&
  (if makesB a then (b.dir == a.dir) && (b.name.toList == a.name.toList) else (a.kind == 4) && ((b.dir == a.dir2) && (b.name.toList == a.name2.toList)))
def backB (a b : LOp) : Bool := (a.kind == 4) && ((a.dir == b.dir2) && (a.name.toList == b.name2.toList))
def onB (a b : LOp) : LOp := if a.kind = 4 then { a with dir2 := b.dir2, name2 := b.name2 } else { a with dir := b.dir2, name := b.name2 }
def joinL (a b : LOp) : List LOp := if backB a b then [] else [onB a b]
def joinsAt (ops : List LOp) (i : Nat) : Bool := match ops[i]?, ops[i + 1]? with
  | some a, some b => joinsB a b
  | _, _ => false
def joinedAt (ops : List LOp) (i : Nat) : List LOp := match ops[i]?, ops[i + 1]? with
  | some a, some b => ops.take i ++ joinL a b ++ ops.drop (i + 2)
  | _, _ => ops
def firstJoin (ops : List LOp) : Option Nat := (List.range ops.length).find? fun i => joinsAt ops i
def moveStep (ops : List LOp) : Option (List LOp) := (firstJoin ops).map fun i => joinedAt ops i
theorem firstJoin_some {ops : List LOp} {i : Nat} (hi : i < ops.length) (h : joinsAt ops i = true) (hl : ∀ j, j < i → joinsAt ops j = false) : firstJoin ops = some i := by
  unfold firstJoin
  rw [List.find?_range_eq_some]
  exact ⟨h, by simpa using hi, fun j hj => by simp [hl j hj]⟩
theorem firstJoin_none {ops : List LOp} (hl : ∀ j, j < ops.length → joinsAt ops j = false) : firstJoin ops = none := by
  unfold firstJoin
  rw [List.find?_range_eq_none]
  exact fun j hj => by simp [hl j hj]

/-! Again and again. -/
def iter (f : List LOp → Option (List LOp)) : Nat → List LOp → List LOp
  | 0, x => x
  | n + 1, x => match f x with | none => x | some y => iter f n y
def Shrinks (f : List LOp → Option (List LOp)) : Prop := ∀ x y, f x = some y → y.length < x.length
theorem iter_enough {f : List LOp → Option (List LOp)} (hf : Shrinks f) : ∀ (n m : Nat) (x : List LOp), x.length ≤ n → x.length ≤ m → iter f n x = iter f m x
  | 0, 0, _, _, _ => rfl
  | 0, m + 1, x, h, _ => by
    unfold iter
    split
    · rfl
    · next y hy => have := hf x y hy; omega
  | n + 1, 0, x, _, h => by
    unfold iter
    split
    · rfl
    · next y hy => have := hf x y hy; omega
  | n + 1, m + 1, x, h, h' => by
    unfold iter
    split
    · rfl
    · next y hy =>
      have := hf x y hy
      exact iter_enough hf n m y (by omega) (by omega)
def fixL (f : List LOp → Option (List LOp)) (x : List LOp) : List LOp := iter f x.length x
theorem fixL_none {f : List LOp → Option (List LOp)} {x : List LOp} (h : f x = none) : fixL f x = x := by
  unfold fixL
  cases x.length <;> simp [iter, h]
theorem fixL_some {f : List LOp → Option (List LOp)} (hf : Shrinks f) {x y : List LOp} (h : f x = some y) : fixL f x = fixL f y := by
  have hl := hf x y h
  unfold fixL
  obtain ⟨n, hn⟩ : ∃ n, x.length = n + 1 := ⟨x.length - 1, by omega⟩
  rw [hn]
  show (match f x with | none => x | some y => iter f n y) = _
  rw [h]
  exact iter_enough hf n y.length y (by omega) (Nat.le_refl _)
theorem pairs_shrink : Shrinks pairStep := by
  intro x y h
  unfold pairStep at h
  cases hp : firstPair x with
  | none => simp [hp] at h
  | some i =>
    simp only [hp, Option.map_some, Option.some.injEq] at h
    subst h
    have hi := hp
    unfold firstPair at hi
    rw [List.find?_range_eq_some] at hi
    obtain ⟨h1, h2, _⟩ := hi
    simp only [List.mem_range] at h2
    refine keepTo_lt (i := i) ?_ h2
    have := goesL_ge x i
    simp at h1
    simp
    omega
theorem moves_shrink : Shrinks moveStep := by
  intro x y h
  unfold moveStep at h
  cases hp : firstJoin x with
  | none => simp [hp] at h
  | some i =>
    simp only [hp, Option.map_some, Option.some.injEq] at h
    subst h
    have hi := hp
    unfold firstJoin at hi
    rw [List.find?_range_eq_some] at hi
    obtain ⟨h1, h2, _⟩ := hi
    unfold joinsAt at h1
    unfold joinedAt
    split at h1
    · next a b ha hb =>
      have h3 := (List.getElem?_eq_some_iff.1 hb).1
      have : (joinL a b).length ≤ 1 := by unfold joinL; split <;> simp
      simp only [List.length_append, List.length_take, List.length_drop]
      omega
    · cases h1
def pairsL (ops : List LOp) : List LOp := fixL pairStep ops
def movesL (ops : List LOp) : List LOp := fixL moveStep ops
def stepL (ops : List LOp) : List LOp := movesL (pairsL (textsL ops))
def slimStep (ops : List LOp) : Option (List LOp) := if (stepL ops).length < ops.length then some (stepL ops) else none
theorem slim_shrink : Shrinks slimStep := by
  intro x y h
  unfold slimStep at h
  split at h
  · simp at h; subst h; assumption
  · cases h
def slimL (ops : List LOp) : List LOp := stepL (fixL slimStep ops)
def formsB (ops : List LOp) : Bool := decide (ops.length ≤ 60) && ops.all opOk

/-! What is kept. -/
/-- Something that both rules keep of every one in a list. -/
theorem fixL_keeps {f : List LOp → Option (List LOp)} {P : List LOp → Prop} (hf : Shrinks f) (h : ∀ x y, f x = some y → P x → P y) : ∀ (n : Nat) (x : List LOp), x.length ≤ n → P x → P (fixL f x)
  | 0, x, hn, hx => by
    unfold fixL
    obtain rfl : x = [] := List.eq_nil_of_length_eq_zero (by omega)
    exact hx
  | n + 1, x, hn, hx => by
    cases hfx : f x with
    | none => rw [fixL_none hfx]; exact hx
    | some y =>
      rw [fixL_some hf hfx]
      exact fixL_keeps hf h n y (by have := hf x y hfx; omega) (h x y hfx hx)
/-- Every one is so, and they are at most so many. -/
def AllL (P : LOp → Prop) (m : Nat) (l : List LOp) : Prop := (∀ o ∈ l, P o) ∧ l.length ≤ m
theorem textsL_all {P : LOp → Prop} {m : Nat} {l : List LOp} (h : AllL P m l) : AllL P m (textsL l) :=
  ⟨fun o ho => h.1 o (keepTo_mem ho), Nat.le_trans (keepTo_len _ _ _) h.2⟩
theorem pairStep_all {P : LOp → Prop} {m : Nat} {x y : List LOp} (hs : pairStep x = some y) (h : AllL P m x) : AllL P m y := by
  have hl := pairs_shrink x y hs
  unfold pairStep at hs
  cases hp : firstPair x with
  | none => simp [hp] at hs
  | some i =>
    simp only [hp, Option.map_some, Option.some.injEq] at hs
    subst hs
    exact ⟨fun o ho => h.1 o (keepTo_mem ho), by have := h.2; omega⟩
theorem pairsL_all {P : LOp → Prop} {m : Nat} {l : List LOp} (h : AllL P m l) : AllL P m (pairsL l) :=
  fixL_keeps pairs_shrink (fun _ _ hs hx => pairStep_all hs hx) l.length l (Nat.le_refl _) h
/-- What two that join keep. -/
def OnKeeps (P : LOp → Prop) : Prop := ∀ a b, P a → P b → joinsB a b = true → P (onB a b)
theorem moveStep_all {P : LOp → Prop} (hP : OnKeeps P) {m : Nat} {x y : List LOp} (hs : moveStep x = some y) (h : AllL P m x) : AllL P m y := by
  have hl := moves_shrink x y hs
  unfold moveStep at hs
  cases hp : firstJoin x with
  | none => simp [hp] at hs
  | some i =>
    simp only [hp, Option.map_some, Option.some.injEq] at hs
    subst hs
    have hi := hp
    unfold firstJoin at hi
    rw [List.find?_range_eq_some] at hi
    obtain ⟨h1, _, _⟩ := hi
    refine ⟨fun o ho => ?_, by have := h.2; omega⟩
    unfold joinsAt at h1
    unfold joinedAt at ho
    split at h1
    · next a b ha hb =>
      simp only [ha, hb, List.mem_append] at ho
      rcases ho with (ho | ho) | ho
      · exact h.1 o (List.mem_of_mem_take ho)
      · unfold joinL at ho
        split at ho
        · cases ho
        · simp at ho
          subst ho
          exact hP a b (h.1 a (List.mem_of_getElem? ha)) (h.1 b (List.mem_of_getElem? hb)) h1
      · exact h.1 o (List.mem_of_mem_drop ho)
    · cases h1
theorem movesL_all {P : LOp → Prop} (hP : OnKeeps P) {m : Nat} {l : List LOp} (h : AllL P m l) : AllL P m (movesL l) :=
  fixL_keeps moves_shrink (fun _ _ hs hx => moveStep_all hP hs hx) l.length l (Nat.le_refl _) h
theorem stepL_all {P : LOp → Prop} (hP : OnKeeps P) {m : Nat} {l : List LOp} (h : AllL P m l) : AllL P m (stepL l) := movesL_all hP (pairsL_all (textsL_all h))
theorem slimStep_all {P : LOp → Prop} (hP : OnKeeps P) {m : Nat} {x y : List LOp} (hs : slimStep x = some y) (h : AllL P m x) : AllL P m y := by
  unfold slimStep at hs
  split at hs
  · simp at hs; subst hs; exact stepL_all hP h
  · cases hs
theorem slimL_all {P : LOp → Prop} (hP : OnKeeps P) {m : Nat} {l : List LOp} (h : AllL P m l) : AllL P m (slimL l) :=
  stepL_all hP (fixL_keeps slim_shrink (fun _ _ hs hx => slimStep_all hP hs hx) l.length l (Nat.le_refl _) h)
theorem stepL_le (l : List LOp) : (stepL l).length ≤ l.length := (stepL_all (P := fun _ => True) (fun _ _ _ _ _ => trivial) (m := l.length) ⟨fun _ _ => trivial, Nat.le_refl _⟩).2
theorem sz_keeps : OnKeeps OpSz := fun a b ha hb _ => by
  unfold onB
  split
  · exact ⟨ha.name, hb.name2, ha.text⟩
  · exact ⟨hb.name2, ha.name2, ha.text⟩
theorem ok_keeps : OnKeeps (fun o => opOk o = true) := fun a b ha hb hj => by
  unfold joinsB at hj
  simp only [Bool.and_eq_true, beq_iff_eq] at hj
  obtain ⟨⟨hbk, _⟩, hj⟩ := hj
  have hb' : opId b = true ∧ opSlot b = true ∧ opSlot2 b = true := by
    unfold opOk at hb
    simp [hbk] at hb
    exact ⟨hb.1.1.1, hb.1.1.2, hb.1.2⟩
  unfold onB
  split
  · next h4 =>
    unfold opOk at ha ⊢
    simp [h4] at ha ⊢
    obtain ⟨⟨⟨h1, h2⟩, _⟩, h3⟩ := ha
    exact ⟨⟨⟨h1, h2⟩, hb'.2.2⟩, h3⟩
  · next h4 =>
    have hm : a.kind = 1 ∨ a.kind = 2 := by
      split at hj
      · next hm => simpa [makesB] using hm
      · simp at hj; exact absurd hj.1 h4
    unfold opOk at ha ⊢
    have hk : a.kind = 1 ∨ a.kind = 2 ∨ a.kind = 3 := by omega
    simp only [hk, if_true, Bool.and_eq_true] at ha ⊢
    obtain ⟨⟨⟨h1, h2⟩, h3⟩, h5⟩ := ha
    exact ⟨⟨⟨h1, hb'.2.2⟩, h3⟩, h5⟩
end Go.Proofs.Ytnfegihemhidgaa
