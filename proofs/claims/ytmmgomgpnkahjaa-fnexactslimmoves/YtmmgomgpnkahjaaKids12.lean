import Derived.Test.YtmmgomgpnkahjaaSameAll
/- Names of a directory, and what is ok of an object: contracts of the program's functions. -/
namespace Go.Proofs.Ytmmgomgpnkahjaa
open Go.RowKit

theorem less_tri : ∀ a b : List UInt8, (Op.bytesLess a b || a == b) = !Op.bytesLess b a
  | [], [] => rfl
  | [], _ :: _ => rfl
  | _ :: _, [] => rfl
  | a :: x, b :: y => by
    have ih := less_tri x y
    simp only [Op.bytesLess]
    by_cases h1 : a < b
    · have h2 : ¬ b < a := by rw [UInt8.lt_iff_toNat_lt] at *; omega
      have h3 : ¬ b = a := by intro h; rw [h] at h1; exact absurd h1 (by rw [UInt8.lt_iff_toNat_lt]; omega)
      simp [h1, h2, h3]
    · by_cases h2 : b < a
      · have h3 : ¬ a = b := by intro h; rw [h] at h2; exact absurd h2 (by rw [UInt8.lt_iff_toNat_lt]; omega)
        simp [h1, h2, h3]
      · have h3 : a = b := by
          rw [UInt8.lt_iff_toNat_lt] at h1 h2
          exact UInt8.toNat_inj.1 (by omega)
        subst h3
        simp only [h1, decide_false, Bool.false_or, beq_self_eq_true, Bool.true_and]
        rw [← ih]
        cases Op.bytesLess x y <;> simp

def nameLess (a b : LEnt) : Bool := Op.bytesLess a.name.toList b.name.toList
def entB (e : LEnt) : Bool := word e.name.data.toList && decide (0 < e.id) && decide (e.id < 32)
/-- The name at a place is right, and behind the one ahead of it. -/
def kidAt (es : List LEnt) (i : Nat) : Bool :=
  match es[i]? with
  | none => true
  | some e => entB e && (match i with | 0 => true | j + 1 => match es[j]? with | none => true | some p => nameLess p e)
def kidsB (es : List LEnt) : Bool := (List.range es.length).all (kidAt es)
theorem kidsB_no {es : List LEnt} {i : Nat} (hi : i < es.length) (h : kidAt es i = false) : kidsB es = false := by
  unfold kidsB
  rw [List.all_eq_false]
  exact ⟨i, by simpa using hi, by simp [h]⟩
theorem kidsB_yes {es : List LEnt} (h : ∀ i, i < es.length → kidAt es i = true) : kidsB es = true := by
  unfold kidsB
  rw [List.all_eq_true]
  intro i hi
  exact h i (by simpa using hi)
theorem kidAt_ent {es : List LEnt} {i : Nat} {e : LEnt} (h : es[i]? = some e) (k : entB e = false) : kidAt es i = false := by
  unfold kidAt; rw [h]; simp [k]
theorem kidAt_zero {es : List LEnt} {e : LEnt} (h : es[0]? = some e) (k : entB e = true) : kidAt es 0 = true := by
  unfold kidAt; rw [h]; simp [k]
theorem kidAt_succ {es : List LEnt} {i : Nat} {e p : LEnt} (h : es[i + 1]? = some e) (hp : es[i]? = some p) (k : entB e = true) : kidAt es (i + 1) = nameLess p e := by
  unfold kidAt; rw [h]; simp [k, hp]

def verB (k v : Int) : Bool := decide ((if k = 0 then 0 else 1) ≤ v) && decide (v ≤ 1000000)
theorem entB_word {e : LEnt} (h : word e.name.data.toList = false) : entB e = false := by simp [entB, h]
theorem entB_lo {e : LEnt} (h : e.id ≤ 0) : entB e = false := by simp [entB]; omega
theorem entB_hi {e : LEnt} (h : 32 ≤ e.id) : entB e = false := by simp [entB]; omega
theorem entB_yes {e : LEnt} (h : word e.name.data.toList = true) (h1 : 0 < e.id) (h2 : e.id < 32) : entB e = true := by simp [entB, h, h1, h2]

def idB (i : Int) : Bool := decide (0 ≤ i) && decide (i < 32)
theorem isObject_any (i : Int) (w : World) : Calls Try.prog 70 #[.int .i64 i] w fun e w' => e = .returned (.bool (idB i)) ∧ w' = w := by
  by_cases h0 : 0 ≤ i
  · go_enter Try.func70, Try.ntmps70
    go_wp2
    go_ret
    exact ⟨ret_bool (by simp [idB, h0]), rfl⟩
  · go_enter Try.func70, Try.ntmps70
    go_wp2
    go_ret
    exact ⟨ret_bool (by simp [idB]; omega), rfl⟩
theorem isObject_yes {i : Int} (h0 : 0 ≤ i) (h1 : i < 32) (w : World) : Calls Try.prog 70 #[.int .i64 i] w fun e w' => e = .returned (.bool true) ∧ w' = w := by
  have : idB i = true := by simp [idB, h0, h1]
  rw [← this]; exact isObject_any i w
theorem isObject_no {i : Int} (h : i < 0 ∨ 32 ≤ i) (w : World) : Calls Try.prog 70 #[.int .i64 i] w fun e w' => e = .returned (.bool false) ∧ w' = w := by
  have : idB i = false := by simp [idB]; omega
  rw [← this]; exact isObject_any i w

end Go.Proofs.Ytmmgomgpnkahjaa

/- Names of a directory: contracts of the functions of the specification. -/
namespace Go.Proofs.Ytmmgomgpnkahjaa
open Go.RowKit

theorem EntsAt.drewN {w : World} {L U : Nat} {a : Option Addr} {n : Nat} {es : List LEnt} (h : EntsAt w L U a n es) (m : Nat) : EntsAt (w.drewN m) L U a n es := h.below (B := U) ⟨rfl, rfl, rfl, Nat.le_refl _, fun _ _ => rfl⟩ (Nat.le_refl _)
theorem ObjsAt.drewN {w : World} {L U : Nat} {a : Option Addr} {n : Nat} {os : List LObj} (h : ObjsAt w L U a n os) (m : Nat) : ObjsAt (w.drewN m) L U a n os := h.below (B := U) ⟨rfl, rfl, rfl, Nat.le_refl _, fun _ _ => rfl⟩ (Nat.le_refl _)
theorem specWord_of {s : ByteArray} {b : Bool} (h : word s.data.toList = b) (w : World) (hs : s.size ≤ maxLen) :
    Calls Try.prog 81 #[.string s] w fun e w' => e = .returned (.bool b) ∧ w' = w := by rw [← h]; exact specWord s w hs
theorem l1Id_yes (i : Int) (h0 : 0 ≤ i) (h1 : i < 32) (w : World) :
    Calls Try.prog 80 #[.int .i64 i] w fun e w' => e = .returned (.bool true) ∧ w' = w := by
  go_enter Try.func80, Try.ntmps80
  go_wp2
  go_ret
  exact ⟨ret_bool (by simp), rfl⟩
theorem l1Id_no (i : Int) (h : i < 0 ∨ 32 ≤ i) (w : World) :
    Calls Try.prog 80 #[.int .i64 i] w fun e w' => e = .returned (.bool false) ∧ w' = w := by
  by_cases h0 : 0 ≤ i
  · have h1 : ¬ i < 32 := by omega
    go_enter Try.func80, Try.ntmps80
    go_wp2
    go_ret
    exact ⟨ret_bool (by simp), rfl⟩
  · go_enter Try.func80, Try.ntmps80
    go_wp2
    go_ret
    exact ⟨rfl, rfl⟩

end Go.Proofs.Ytmmgomgpnkahjaa
