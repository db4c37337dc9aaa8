/- The nodes of a layout, and what names say, as plain functions. -/
import Derived.Test.YtnfegihemhidgaaSpecOk
namespace Go.Proofs.Ytnfegihemhidgaa
open Go.RowKit

/-- What the first j nodes of a layout hold: the objects, with these homes and names. -/
def LayF (w : World) (L U : Nat) (os : List LObj) (f : Nat → Value) (j : Nat) (h : Nat → Int) (nm : Nat → ByteArray) : Prop :=
  ∀ i, i < j → ∃ o ka kn kc, os[i]? = some o ∧ f (i * 6) = .int .i64 o.kind ∧ f (i * 6 + 1) = .int .i64 o.ver ∧ f (i * 6 + 2) = .int .i64 (h i) ∧ f (i * 6 + 3) = .string (nm i) ∧ f (i * 6 + 4) = .string o.text ∧ f (i * 6 + 5) = .slice ka kn kc ∧ EntsAt w L U ka kn o.kids
def putNode (f : Nat → Value) (j : Nat) (v0 v1 v2 v3 v4 v5 : Value) : Nat → Value := fun i => if i = j * 6 + 5 then v5 else if i = j * 6 + 4 then v4 else if i = j * 6 + 3 then v3 else if i = j * 6 + 2 then v2 else if i = j * 6 + 1 then v1 else if i = j * 6 then v0 else f i
theorem rowIs_put {w : World} {b : Nat} {t : TypeId} {n : Nat} {f : Nat → Value} (h : w.rowIs b t n f) (j : Nat) (v0 v1 v2 v3 v4 v5 : Value) :
    ((((((w.setCell ⟨b, j * 6, none⟩ v0).setCell ⟨b, j * 6 + 1, none⟩ v1).setCell ⟨b, j * 6 + 2, none⟩ v2).setCell ⟨b, j * 6 + 3, none⟩ v3).setCell ⟨b, j * 6 + 4, none⟩ v4).setCell ⟨b, j * 6 + 5, none⟩ v5).rowIs b t n (putNode f j v0 v1 v2 v3 v4 v5) :=
  (((((h.set _ v0).set _ v1).set _ v2).set _ v3).set _ v4).set _ v5
theorem layF_put {w : World} {L U : Nat} {os : List LObj} {f : Nat → Value} {j : Nat} {h : Nat → Int} {nm : Nat → ByteArray} {o : LObj} {ka : Option Addr} {kn kc : Nat} (hf : LayF w L U os f j h nm) (ho : os[j]? = some o) (hk : EntsAt w L U ka kn o.kids) :
    LayF w L U os (putNode f j (.int .i64 o.kind) (.int .i64 o.ver) (.int .i64 (h j)) (.string (nm j)) (.string o.text) (.slice ka kn kc)) (j + 1) h nm := by
  intro i hi
  by_cases e : i = j
  · subst e
    refine ⟨o, ka, kn, kc, ho, ?_, ?_, ?_, ?_, ?_, ?_, hk⟩ <;> simp [putNode]
  · obtain ⟨o', ka', kn', kc', ho', q0, q1, q2, q3, q4, q5, hk'⟩ := hf i (by omega)
    refine ⟨o', ka', kn', kc', ho', ?_, ?_, ?_, ?_, ?_, ?_, hk'⟩ <;> unfold putNode <;> rw [if_neg (by omega), if_neg (by omega), if_neg (by omega), if_neg (by omega), if_neg (by omega), if_neg (by omega)] <;> assumption

theorem rowIs96 (w : World) : ∃ f, (w.alloc (.cells Try.zeroCells128 128)).rowIs w.heap.size 128 192 f := by
  refine ⟨fun i => Try.zeroCells128[i]?.getD default, ?_⟩
  have := World.rowIs_alloc w Try.zeroCells128 128 (fun i => Try.zeroCells128[i]?.getD default) (fun i hi => by rw [Array.getElem?_eq_getElem hi]; rfl)
  have e : Try.zeroCells128.size = 192 := by kernel_rfl
  rwa [e] at this


theorem homeIn_nonneg {p : List (Nat × LEnt)} {id : Int} (h : ¬ Off p id) : 0 ≤ homeIn p id := by
  unfold homeIn
  cases hf : p.find? (fun x => x.2.id == id) with
  | some x => simp
  | none =>
    exfalso
    apply h
    intro x hx
    have := List.find?_eq_none.1 hf x hx
    simpa using this
theorem off_iff {p : List (Nat × LEnt)} {id : Int} : homeIn p id = -1 ↔ Off p id := by
  constructor
  · intro h
    apply Classical.byContradiction
    intro hn
    have := homeIn_nonneg hn
    omega
  · exact homeIn_off
theorem find_snoc {p : List (Nat × LEnt)} {x : Nat × LEnt} {i : Int} (h : x.2.id = i → Off p i) : (p ++ [x]).find? (fun y => y.2.id == i) = if x.2.id = i then some x else p.find? (fun y => y.2.id == i) := by
  rw [List.find?_append]
  by_cases e : x.2.id = i
  · rw [find_off (h e)]
    simp [e]
  · have : (x.2.id == i) = false := by simpa using e
    simp [e, this]
theorem homeIn_snoc {p : List (Nat × LEnt)} {x : Nat × LEnt} (h : Off p x.2.id) (i : Int) : homeIn (p ++ [x]) i = if x.2.id = i then (x.1 : Int) else homeIn p i := by
  unfold homeIn
  rw [find_snoc (fun e => e ▸ h)]
  by_cases e : x.2.id = i <;> simp [e]
theorem nameIn_snoc {p : List (Nat × LEnt)} {x : Nat × LEnt} (h : Off p x.2.id) (i : Int) : nameIn (p ++ [x]) i = if x.2.id = i then x.2.name else nameIn p i := by
  unfold nameIn
  rw [find_snoc (fun e => e ▸ h)]
  by_cases e : x.2.id = i <;> simp [e]

/-- No number is named twice. -/
def Uniq (p : List (Nat × LEnt)) : Prop := ∀ pre x post, p = pre ++ x :: post → Off pre x.2.id
theorem uniq_nil : Uniq [] := fun pre x post h => by simp at h
theorem uniq_snoc {p : List (Nat × LEnt)} {x : Nat × LEnt} (h : Uniq p) (hx : Off p x.2.id) : Uniq (p ++ [x]) := by
  intro pre y post e
  rcases List.eq_nil_or_concat post with rfl | ⟨post', z, rfl⟩
  · have := List.append_inj' e rfl
    obtain ⟨rfl, e2⟩ := this
    simp at e2
    subst e2
    exact hx
  · rw [List.concat_eq_append] at e
    rw [show pre ++ y :: (post' ++ [z]) = (pre ++ y :: post') ++ [z] by simp] at e
    have := List.append_inj' e rfl
    exact h pre y post' this.1
/-- The names are of objects that are there, each once. -/
def Live (os : List LObj) (p : List (Nat × LEnt)) : Prop := ∀ x ∈ p, kindOf os x.2.id.toNat ≠ 0
theorem live_snoc {os : List LObj} {p : List (Nat × LEnt)} {x : Nat × LEnt} (h : Live os p) (hx : kindOf os x.2.id.toNat ≠ 0) : Live os (p ++ [x]) := by
  intro y hy
  rcases List.mem_append.1 hy with hy | hy
  · exact h y hy
  · simp at hy; subst hy; exact hx
def Named (os : List LObj) : Prop := Live os (flat os) ∧ Uniq (flat os) ∧ ∀ i : Nat, 1 ≤ i → i < 32 → kindOf os i ≠ 0 → ¬ Off (flat os) i
theorem flat_at {t : List LObj} {i k : Nat} {o : LObj} {e : LEnt} (ho : t[i]? = some o) (he : o.kids[k]? = some e) : ∃ r, flat t = (flat (t.take i) ++ tagged i (o.kids.take k)) ++ (i, e) :: r := by
  obtain ⟨r, hr⟩ := flat_split ho
  obtain ⟨r', hr'⟩ := tagged_split (d := i) he
  exact ⟨r' ++ r, by rw [hr, hr']; simp⟩
theorem named_no_live {t : List LObj} {i k : Nat} {o : LObj} {e : LEnt} (ho : t[i]? = some o) (he : o.kids[k]? = some e) (h : kindOf t e.id.toNat = 0) : ¬ Named t := by
  intro hn
  obtain ⟨r, hr⟩ := flat_at ho he
  exact hn.1 (i, e) (by rw [hr]; simp) h
theorem named_no_twice {t : List LObj} {i k : Nat} {o : LObj} {e : LEnt} (ho : t[i]? = some o) (he : o.kids[k]? = some e) (h : ¬ Off (flat (t.take i) ++ tagged i (o.kids.take k)) e.id) : ¬ Named t := by
  intro hn
  obtain ⟨r, hr⟩ := flat_at ho he
  exact h (hn.2.1 _ (i, e) r hr)
theorem layF_set {w : World} {L U : Nat} {os : List LObj} {f : Nat → Value} {h : Nat → Int} {nm : Nat → ByteArray} (hf : LayF w L U os f 32 h nm) (k : Nat) (x : Int) (s : ByteArray) :
    LayF w L U os (fun i => if i = k * 6 + 3 then .string s else if i = k * 6 + 2 then .int .i64 x else f i) 32 (fun i => if i = k then x else h i) (fun i => if i = k then s else nm i) := by
  intro i hi
  obtain ⟨o', ka', kn', kc', ho', q0, q1, q2, q3, q4, q5, hk'⟩ := hf i hi
  refine ⟨o', ka', kn', kc', ho', ?_, ?_, ?_, ?_, ?_, ?_, hk'⟩
  · dsimp only; rw [if_neg (by omega), if_neg (by omega)]; exact q0
  · dsimp only; rw [if_neg (by omega), if_neg (by omega)]; exact q1
  · by_cases e : i = k
    · subst e; simp
    · dsimp only; rw [if_neg (by omega), if_neg (by omega), if_neg e]; exact q2
  · by_cases e : i = k
    · subst e; simp
    · dsimp only; rw [if_neg (by omega), if_neg (by omega), if_neg e]; exact q3
  · dsimp only; rw [if_neg (by omega), if_neg (by omega)]; exact q4
  · dsimp only; rw [if_neg (by omega), if_neg (by omega)]; exact q5
theorem layF_congr {w : World} {L U : Nat} {os : List LObj} {f : Nat → Value} {h h' : Nat → Int} {nm nm' : Nat → ByteArray} (hf : LayF w L U os f 32 h nm) (e1 : ∀ i, i < 32 → h i = h' i) (e2 : ∀ i, i < 32 → nm i = nm' i) : LayF w L U os f 32 h' nm' := by
  intro i hi
  obtain ⟨o', ka', kn', kc', ho', q0, q1, q2, q3, q4, q5, hk'⟩ := hf i hi
  exact ⟨o', ka', kn', kc', ho', q0, q1, by rw [q2, e1 i hi], by rw [q3, e2 i hi], q4, q5, hk'⟩
end Go.Proofs.Ytnfegihemhidgaa
