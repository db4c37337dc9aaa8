/- Lemmas that the proofs of this seat share: OpsAll, Ids, Worn, HomeAll. -/
import Derived.Test.YtnolbfijcnldjaaGreatDoorW04
import Derived.Deep.DeepCutAuto
import Derived.Test.YtnolbfijcnldjaaGreatDoorW03
import Derived.Deep.QuietTactic
import Derived.BigQuiet
import Derived.BigRegion
/- What is done: whether it can be done at all. -/
namespace Go.Proofs.YtnolbfijcnldjaaGreatDoor
open Go.RowKit

structure LOp where
  kind : Int
  dir : Int
  name : ByteArray
  dir2 : Int
  name2 : ByteArray
  id : Int
  text : ByteArray
def LOp.val (o : LOp) : Array Value := #[.int .i64 o.kind, .int .i64 o.dir, .string o.name, .int .i64 o.dir2, .string o.name2, .int .i64 o.id, .string o.text]
theorem l1Id_any (i : Int) (w : World) : Calls Tryz.prog 88 #[.int .i64 i] w fun e w' => e = .returned (.bool (idB i)) ∧ w' = w := by
  by_cases h0 : 0 ≤ i
  · by_cases h1 : i < 32
    · have : idB i = true := by simp [idB, h0, h1]
      rw [this]; exact l1Id_yes i h0 h1 w
    · have : idB i = false := by simp [idB, h1]
      rw [this]; exact l1Id_no i (.inr (by omega)) w
  · have : idB i = false := by simp [idB, h0]
    rw [this]; exact l1Id_no i (.inl (by omega)) w
def opId (o : LOp) : Bool := decide (1 ≤ o.id) && idB o.id
def opSlot (o : LOp) : Bool := idB o.dir && word o.name.data.toList
def opSlot2 (o : LOp) : Bool := idB o.dir2 && word o.name2.data.toList
def opNone2 (o : LOp) : Bool := (o.dir2 == 0) && o.name2.toList.isEmpty
def opOk (o : LOp) : Bool :=
  if o.kind = 1 ∨ o.kind = 2 ∨ o.kind = 3 then opId o && opSlot o && opNone2 o && o.text.toList.isEmpty
  else if o.kind = 4 then opId o && opSlot o && opSlot2 o && o.text.toList.isEmpty
  else if o.kind = 5 then opId o && (o.dir == 0) && o.name.toList.isEmpty && opNone2 o && body o.text.data.toList
  else false

set_option maxHeartbeats 2000000 in
set_option maxRecDepth 20000 in
theorem opOk_any (o : LOp) (w : World) (h1 : o.name.size ≤ maxLen) (h2 : o.name2.size ≤ maxLen) (h3 : o.text.size ≤ maxLen) :
    Calls Tryz.prog 33 #[.agg o.val] w fun e w' => e = .returned (.bool (opOk o)) ∧ w' = w.alloc (.cells o.val 27) := by
  obtain ⟨k, d, nm, d2, nm2, id, tx⟩ := o
  simp only [LOp.val] at *
  go_enter Tryz.func33, Tryz.ntmps33
  go_upto_region 1 with fail
  go_cut [3] (fun s wx => s = .bool (opId ⟨k, d, nm, d2, nm2, id, tx⟩) ∧ wx = w.alloc (.cells #[.int .i64 k, .int .i64 d, .string nm, .int .i64 d2, .string nm2, .int .i64 id, .string tx] 27))
  case first =>
    by_cases hi : 1 ≤ id
    · go_wp2_with fail
      refine (l1Id_any _ _).mono ?_
      rintro x w1 ⟨rfl, rfl⟩
      go_wp2_with fail
      go_meet
      exact ⟨by simp [opId, hi], rfl⟩
    · go_wp2_with fail
      go_meet
      exact ⟨by simp [opId]; omega, rfl⟩
  obtain ⟨rfl, rfl⟩ := hcut
  go_upto_region 2 with fail
  go_cut [4] (fun s wx => s = .bool (opSlot ⟨k, d, nm, d2, nm2, id, tx⟩) ∧ wx = w.alloc (.cells #[.int .i64 k, .int .i64 d, .string nm, .int .i64 d2, .string nm2, .int .i64 id, .string tx] 27))
  case first =>
    by_cases hi : idB d = true
    · go_wp2_with fail
      refine (l1Id_any _ _).mono ?_
      rintro x w1 ⟨rfl, rfl⟩
      go_wp2_with fail
      refine (specWord _ _ h1).mono ?_
      rintro x w1 ⟨rfl, rfl⟩
      go_wp2_with fail
      go_meet
      exact ⟨by simp [opSlot, hi], rfl⟩
    · have hi' : idB d = false := by simpa using hi
      go_wp2_with fail
      refine (l1Id_any _ _).mono ?_
      rintro x w1 ⟨rfl, rfl⟩
      go_wp2_with fail
      go_meet
      exact ⟨by simp [opSlot, hi'], rfl⟩
  obtain ⟨rfl, rfl⟩ := hcut
  go_upto_region 3 with fail
  go_cut [5] (fun s wx => s = .bool (opSlot2 ⟨k, d, nm, d2, nm2, id, tx⟩) ∧ wx = w.alloc (.cells #[.int .i64 k, .int .i64 d, .string nm, .int .i64 d2, .string nm2, .int .i64 id, .string tx] 27))
  case first =>
    by_cases hi : idB d2 = true
    · go_wp2_with fail
      refine (l1Id_any _ _).mono ?_
      rintro x w1 ⟨rfl, rfl⟩
      go_wp2_with fail
      refine (specWord _ _ h2).mono ?_
      rintro x w1 ⟨rfl, rfl⟩
      go_wp2_with fail
      go_meet
      exact ⟨by simp [opSlot2, hi], rfl⟩
    · have hi' : idB d2 = false := by simpa using hi
      go_wp2_with fail
      refine (l1Id_any _ _).mono ?_
      rintro x w1 ⟨rfl, rfl⟩
      go_wp2_with fail
      go_meet
      exact ⟨by simp [opSlot2, hi'], rfl⟩
  obtain ⟨rfl, rfl⟩ := hcut
  go_upto_region 4 with fail
  go_cut [6] (fun s wx => s = .bool (opNone2 ⟨k, d, nm, d2, nm2, id, tx⟩) ∧ wx = w.alloc (.cells #[.int .i64 k, .int .i64 d, .string nm, .int .i64 d2, .string nm2, .int .i64 id, .string tx] 27))
  case first =>
    by_cases hi : d2 = 0
    · have t0 : (d2 == 0) = true := by simpa using hi
      clear hi
      go_wp2_with fail
      go_meet
      exact ⟨by simp only [opNone2, t0]; rfl, rfl⟩
    · have t0 : (d2 == 0) = false := by simpa using hi
      go_wp2_with fail
      go_meet
      exact ⟨by simp [opNone2, hi], rfl⟩
  obtain ⟨rfl, rfl⟩ := hcut
  have HV : Hid (opOk ⟨k, d, nm, d2, nm2, id, tx⟩ = if k = 1 ∨ k = 2 ∨ k = 3 then opId ⟨k, d, nm, d2, nm2, id, tx⟩ && opSlot ⟨k, d, nm, d2, nm2, id, tx⟩ && opNone2 ⟨k, d, nm, d2, nm2, id, tx⟩ && tx.toList.isEmpty
      else if k = 4 then opId ⟨k, d, nm, d2, nm2, id, tx⟩ && opSlot ⟨k, d, nm, d2, nm2, id, tx⟩ && opSlot2 ⟨k, d, nm, d2, nm2, id, tx⟩ && tx.toList.isEmpty
      else if k = 5 then opId ⟨k, d, nm, d2, nm2, id, tx⟩ && (d == 0) && nm.toList.isEmpty && opNone2 ⟨k, d, nm, d2, nm2, id, tx⟩ && body tx.data.toList else false) := rfl
  generalize opId ⟨k, d, nm, d2, nm2, id, tx⟩ = A at HV ⊢
  generalize opSlot ⟨k, d, nm, d2, nm2, id, tx⟩ = S at HV ⊢
  generalize opSlot2 ⟨k, d, nm, d2, nm2, id, tx⟩ = S2 at HV ⊢
  generalize opNone2 ⟨k, d, nm, d2, nm2, id, tx⟩ = N at HV ⊢
  by_cases k1 : k = 1 ∨ k = 2 ∨ k = 3
  · rcases k1 with rfl | rfl | rfl
    all_goals
      cases A <;> cases S <;> cases N <;>
      (go_wp2_with fail; go_ret; exact ⟨by rw [HV.out]; simp, rfl⟩)
  · have e1 : (k == 1) = false := by simp; omega
    have e2 : (k == 2) = false := by simp; omega
    have e3 : (k == 3) = false := by simp; omega
    by_cases k4 : k = 4
    · subst k4
      clear k1 e1 e2 e3
      cases A <;> cases S <;> cases S2 <;>
      (go_wp2_with fail; go_ret; exact ⟨by rw [HV.out]; simp, rfl⟩)
    · have e4 : (k == 4) = false := by simp; omega
      by_cases k5 : k = 5
      · subst k5
        clear k1 e1 e2 e3 e4 k4
        by_cases hd : d = 0
        · have t0 : (d == 0) = true := by simpa using hd
          have HD : Hid (d = 0) := hd
          clear hd
          rcases hn : nm.toList.isEmpty with _ | _
          all_goals
            cases A <;> cases N <;>
            (go_wp2_with (go_at_call 90; refine (specBody _ _ h3).mono ?_; rintro x w1 ⟨rfl, rfl⟩)
             go_ret
             exact ⟨by rw [HV.out]; simp [HD.out, hn], rfl⟩)
        · have t0 : (d == 0) = false := by simpa using hd
          cases A <;> cases N <;>
          (go_wp2_with fail; go_ret; exact ⟨by rw [HV.out]; simp [hd], rfl⟩)
      · have e5 : (k == 5) = false := by simp; omega
        have HV' : Hid (opOk ⟨k, d, nm, d2, nm2, id, tx⟩ = false) := by show _ = _; rw [HV.out]; simp [k1, k4, k5]
        clear HV k1 k4 k5
        go_wp2_with fail
        go_ret
        exact ⟨by rw [HV'.out]; rfl, rfl⟩
end Go.Proofs.YtnolbfijcnldjaaGreatDoor

/- What is done, as an argument: read as data, its size, its copy. -/
namespace Go.Proofs.YtnolbfijcnldjaaGreatDoor
open Go.RowKit Go.ChangeShapes Go.WideShapes

structure OpSz (o : LOp) : Prop where
  name : o.name.size ≤ maxLen
  name2 : o.name2.size ≤ maxLen
  text : o.text.size ≤ maxLen
section
variable {H : Type} {enc : TypeId × Value → H} {w : World} {spare : Nat → Bool} {held : Bool}
end

end Go.Proofs.YtnolbfijcnldjaaGreatDoor

/- What is done: the program's OpOk. -/
namespace Go.Proofs.YtnolbfijcnldjaaGreatDoor
open Go.RowKit

def kword (k : Int) : ByteArray := if k = 1 then ⟨#[102, 105, 108, 101]⟩ else if k = 2 then ⟨#[100, 105, 114]⟩ else if k = 3 then ⟨#[103, 111, 110, 101]⟩ else if k = 4 then ⟨#[109, 111, 118, 101]⟩ else if k = 5 then ⟨#[116, 101, 120, 116]⟩ else ⟨#[]⟩
theorem kword_any (k : Int) (w : World) : Calls Tryz.prog 132 #[.int .i64 k] w fun e w' => e = .returned (.string (kword k)) ∧ w' = w := by
  by_cases h : k = 1 ∨ k = 2 ∨ k = 3 ∨ k = 4 ∨ k = 5
  · rcases h with rfl | rfl | rfl | rfl | rfl <;>
    (go_enter Tryz.func132, Tryz.ntmps132; go_wp2; go_ret; exact ⟨rfl, rfl⟩)
  · have e1 : (k == 1) = false := by simp; omega
    have e2 : (k == 2) = false := by simp; omega
    have e3 : (k == 3) = false := by simp; omega
    have e4 : (k == 4) = false := by simp; omega
    have e5 : (k == 5) = false := by simp; omega
    have HV : Hid (kword k = ⟨#[]⟩) := by show _ = _; unfold kword; rw [if_neg (by omega), if_neg (by omega), if_neg (by omega), if_neg (by omega), if_neg (by omega)]
    clear h
    go_enter Tryz.func132, Tryz.ntmps132
    go_wp2
    go_ret
    exact ⟨by rw [HV.out]; rfl, rfl⟩
theorem inDir_any (k : Int) (w : World) : Calls Tryz.prog 134 #[.int .i64 k] w fun e w' => e = .returned (.bool (k != 5)) ∧ w' = w := by
  go_enter Tryz.func134, Tryz.ntmps134
  go_wp2
  go_ret
  exact ⟨rfl, rfl⟩
theorem moves_any (k : Int) (w : World) : Calls Tryz.prog 135 #[.int .i64 k] w fun e w' => e = .returned (.bool (k == 4)) ∧ w' = w := by
  go_enter Tryz.func135, Tryz.ntmps135
  go_wp2
  go_ret
  exact ⟨rfl, rfl⟩
theorem writes_any (k : Int) (w : World) : Calls Tryz.prog 143 #[.int .i64 k] w fun e w' => e = .returned (.bool (k == 5)) ∧ w' = w := by
  go_enter Tryz.func143, Tryz.ntmps143
  go_wp2
  go_ret
  exact ⟨rfl, rfl⟩
def placeB (has : Bool) (dir : Int) (name : ByteArray) : Bool := if has then idB dir && word name.data.toList else (dir == 0) && name.toList.isEmpty
def textB (has : Bool) (text : ByteArray) : Bool := if has then body text.data.toList else text.toList.isEmpty
theorem placeOk_any (has : Bool) (dir : Int) (name : ByteArray) (w : World) (hs : name.size ≤ maxLen) : Calls Tryz.prog 177 #[.bool has, .int .i64 dir, .string name] w fun e w' => e = .returned (.bool (placeB has dir name)) ∧ w' = w := by
  cases has
  · by_cases h : dir = 0
    · subst h
      go_enter Tryz.func177, Tryz.ntmps177
      go_wp2
      go_ret
      exact ⟨ret_bool (by simp [placeB]), rfl⟩
    · have t : (dir == 0) = false := by simpa using h
      go_enter Tryz.func177, Tryz.ntmps177
      go_wp2
      go_ret
      exact ⟨ret_bool (by simp [placeB, t]), rfl⟩
  · rcases hi : idB dir with _ | _
    · have HI : Hid (idB dir = false) := hi
      clear hi
      go_enter Tryz.func177, Tryz.ntmps177
      go_wp2_with (go_at_call 78; refine (isObject_any _ _).mono ?_; rintro e w' ⟨rfl, rfl⟩; rw [HI.out])
      go_ret
      exact ⟨ret_bool (by simp [placeB, HI.out]), rfl⟩
    · have HI : Hid (idB dir = true) := hi
      clear hi
      go_enter Tryz.func177, Tryz.ntmps177
      go_wp2_with (first | (go_at_call 78; refine (isObject_any _ _).mono ?_; rintro e w' ⟨rfl, rfl⟩; rw [HI.out]) | (go_at_call 199; refine (implWord _ _ hs).mono ?_; rintro e w' ⟨rfl, rfl⟩))
      go_ret
      exact ⟨ret_bool (by simp [placeB, HI.out]), rfl⟩
theorem textOk_any (has : Bool) (text : ByteArray) (w : World) (hs : text.size ≤ maxLen) : Calls Tryz.prog 178 #[.bool has, .string text] w fun e w' => e = .returned (.bool (textB has text)) ∧ w' = w := by
  cases has
  · go_enter Tryz.func178, Tryz.ntmps178
    go_wp2
    go_ret
    exact ⟨ret_bool (by simp [textB]), rfl⟩
  · go_enter Tryz.func178, Tryz.ntmps178
    go_wp2_with (go_at_call 175; refine (implBody _ _ hs).mono ?_; rintro e w' ⟨rfl, rfl⟩)
    go_ret
    exact ⟨ret_bool (by simp [textB]), rfl⟩
def opPartsB (k : Int) (o : LOp) : Bool := placeB (k != 5) o.dir o.name && placeB (k == 4) o.dir2 o.name2 && textB (k == 5) o.text
theorem placeOk_of {has : Bool} {dir : Int} {name : ByteArray} {b : Bool} (h : placeB has dir name = b) (w : World) (hs : name.size ≤ maxLen) : Calls Tryz.prog 177 #[.bool has, .int .i64 dir, .string name] w fun e w' => e = .returned (.bool b) ∧ w' = w := by
  rw [← h]; exact placeOk_any has dir name w hs
set_option maxHeartbeats 400000 in
theorem opPartsOk_any (k : Int) (o : LOp) (w : World) (hs : OpSz o) : Calls Tryz.prog 133 #[.int .i64 k, .agg o.val] w fun e w' => e = .returned (.bool (opPartsB k o)) ∧ Below w.heap.size w w' := by
  simp only [LOp.val]
  have hA : ∀ ob q, Below w.heap.size w ((w.alloc ob).drewN q) := fun ob q => ((Below.refl _ _).alloc (Nat.le_refl _) _).trans ((Below.drewN _ _).mono (by simp))
  rcases h1 : placeB (k != 5) o.dir o.name with _ | _
  · have H1 : Hid (placeB (k != 5) o.dir o.name = false) := h1
    clear h1
    go_enter Tryz.func133, Tryz.ntmps133
    go_wp2_with fail
    go_quiet (first | (go_at_call 134; exact Calls.quiet_of_same (inDir_any _ _)) | (go_at_call_of 177 (Value.string o.name); exact Calls.quiet_of_same (placeOk_of H1.out _ hs.name)))
    go_wp2_with fail
    go_ret
    exact ⟨ret_bool (by simp [opPartsB, H1.out]), hA _ _⟩
  · have H1 : Hid (placeB (k != 5) o.dir o.name = true) := h1
    clear h1
    rcases h2 : placeB (k == 4) o.dir2 o.name2 with _ | _
    · have H2 : Hid (placeB (k == 4) o.dir2 o.name2 = false) := h2
      clear h2
      go_enter Tryz.func133, Tryz.ntmps133
      go_wp2_with fail
      go_quiet (first | (go_at_call 134; exact Calls.quiet_of_same (inDir_any _ _)) | (go_at_call_of 177 (Value.string o.name); exact Calls.quiet_of_same (placeOk_of H1.out _ hs.name)) | (go_at_call 135; exact Calls.quiet_of_same (moves_any _ _)) | (go_at_call_of 177 (Value.string o.name2); exact Calls.quiet_of_same (placeOk_of H2.out _ hs.name2)))
      go_wp2_with fail
      go_ret
      exact ⟨ret_bool (by simp [opPartsB, H2.out]), hA _ _⟩
    · have H2 : Hid (placeB (k == 4) o.dir2 o.name2 = true) := h2
      clear h2
      go_enter Tryz.func133, Tryz.ntmps133
      go_wp2_with fail
      go_quiet (first | (go_at_call 134; exact Calls.quiet_of_same (inDir_any _ _)) | (go_at_call_of 177 (Value.string o.name); exact Calls.quiet_of_same (placeOk_of H1.out _ hs.name)) | (go_at_call 135; exact Calls.quiet_of_same (moves_any _ _)) | (go_at_call_of 177 (Value.string o.name2); exact Calls.quiet_of_same (placeOk_of H2.out _ hs.name2)) | (go_at_call 143; exact Calls.quiet_of_same (writes_any _ _)) | (go_at_call 178; exact Calls.quiet_of_same (textOk_any _ _ _ hs.text)))
      go_wp2_with fail
      go_ret
      exact ⟨ret_bool (by simp [opPartsB, H1.out, H2.out]), hA _ _⟩

/-- What the program asks is what the specification asks. -/
theorem opOk_parts (o : LOp) : opOk o = ((kword o.kind).toList.isEmpty == false && (idB o.id && ((o.id != 0) && opPartsB o.kind o))) := by
  obtain ⟨k, d, nm, d2, nm2, id, tx⟩ := o
  have hid : opId ⟨k, d, nm, d2, nm2, id, tx⟩ = (idB id && (id != 0)) := by
    simp only [opId, idB]
    by_cases h : id = 0
    · subst h; simp
    · have h' : (id != 0) = true := by simpa using h
      rw [h', Bool.eq_iff_iff]; simp; omega
  by_cases h1 : k = 1
  · subst h1; simp [opOk, kword, opPartsB, placeB, textB, hid, opSlot, opNone2, Bool.and_assoc]
  by_cases h2 : k = 2
  · subst h2; simp [opOk, kword, opPartsB, placeB, textB, hid, opSlot, opNone2, Bool.and_assoc]
  by_cases h3 : k = 3
  · subst h3; simp [opOk, kword, opPartsB, placeB, textB, hid, opSlot, opNone2, Bool.and_assoc]
  by_cases h4 : k = 4
  · subst h4; simp [opOk, kword, opPartsB, placeB, textB, hid, opSlot, opSlot2, Bool.and_assoc]
  by_cases h5 : k = 5
  · subst h5; simp [opOk, kword, opPartsB, placeB, textB, hid, opNone2, Bool.and_assoc]
  · simp [opOk, kword, h1, h2, h3, h4, h5]

theorem kw1 (w : World) : Calls Tryz.prog 132 #[.int .i64 1] w fun e w' => e = .returned (.string ⟨#[102, 105, 108, 101]⟩) ∧ w' = w := kword_any 1 w
theorem kw2 (w : World) : Calls Tryz.prog 132 #[.int .i64 2] w fun e w' => e = .returned (.string ⟨#[100, 105, 114]⟩) ∧ w' = w := kword_any 2 w
theorem kw3 (w : World) : Calls Tryz.prog 132 #[.int .i64 3] w fun e w' => e = .returned (.string ⟨#[103, 111, 110, 101]⟩) ∧ w' = w := kword_any 3 w
theorem kw4 (w : World) : Calls Tryz.prog 132 #[.int .i64 4] w fun e w' => e = .returned (.string ⟨#[109, 111, 118, 101]⟩) ∧ w' = w := kword_any 4 w
theorem kw5 (w : World) : Calls Tryz.prog 132 #[.int .i64 5] w fun e w' => e = .returned (.string ⟨#[116, 101, 120, 116]⟩) ∧ w' = w := kword_any 5 w
theorem kw0 {k : Int} (h : kword k = ⟨#[]⟩) (w : World) : Calls Tryz.prog 132 #[.int .i64 k] w fun e w' => e = .returned (.string ⟨#[]⟩) ∧ w' = w := by rw [← h]; exact kword_any k w
theorem opOk_kind {o : LOp} (h : o.kind = 1 ∨ o.kind = 2 ∨ o.kind = 3 ∨ o.kind = 4 ∨ o.kind = 5) : opOk o = (idB o.id && ((o.id != 0) && opPartsB o.kind o)) := by
  rw [opOk_parts]
  rcases h with h | h | h | h | h <;> simp [h, kword]
theorem opOk_nokind {o : LOp} (h : ¬ (o.kind = 1 ∨ o.kind = 2 ∨ o.kind = 3 ∨ o.kind = 4 ∨ o.kind = 5)) : opOk o = false ∧ kword o.kind = ⟨#[]⟩ := by
  have hk : kword o.kind = ⟨#[]⟩ := by unfold kword; rw [if_neg (by omega), if_neg (by omega), if_neg (by omega), if_neg (by omega), if_neg (by omega)]
  refine ⟨?_, hk⟩
  unfold opOk
  rw [if_neg (by omega), if_neg (by omega), if_neg (by omega)]

set_option maxHeartbeats 1000000 in
theorem implOpOk (o : LOp) (w : World) (hs : OpSz o) : Calls Tryz.prog 75 #[.agg o.val] w fun e w' => e = .returned (.bool (opOk o)) ∧ Below w.heap.size w w' := by
  have HPK := fun k w => opPartsOk_any k o w hs
  by_cases hk : o.kind = 1 ∨ o.kind = 2 ∨ o.kind = 3 ∨ o.kind = 4 ∨ o.kind = 5
  · have HV : Hid (opOk o = (idB o.id && ((o.id != 0) && opPartsB o.kind o))) := opOk_kind hk
    obtain ⟨k, d, nm, d2, nm2, id, tx⟩ := o
    simp only [LOp.val] at *
    rcases hi : idB id with _ | _
    · have HI : Hid (idB id = false) := hi
      clear hi HPK
      rcases hk with rfl | rfl | rfl | rfl | rfl
      all_goals
        go_enter Tryz.func75, Tryz.ntmps75
        go_wp2_with (first | (go_at_call_of 132 (Value.int IntKind.i64 1); refine (kw1 _).mono ?_; rintro e w' ⟨rfl, rfl⟩) | (go_at_call_of 132 (Value.int IntKind.i64 2); refine (kw2 _).mono ?_; rintro e w' ⟨rfl, rfl⟩) | (go_at_call_of 132 (Value.int IntKind.i64 3); refine (kw3 _).mono ?_; rintro e w' ⟨rfl, rfl⟩) | (go_at_call_of 132 (Value.int IntKind.i64 4); refine (kw4 _).mono ?_; rintro e w' ⟨rfl, rfl⟩) | (go_at_call_of 132 (Value.int IntKind.i64 5); refine (kw5 _).mono ?_; rintro e w' ⟨rfl, rfl⟩) | (go_at_call 78; refine (isObject_any _ _).mono ?_; rintro e w' ⟨rfl, rfl⟩; rw [HI.out]))
        go_ret
        exact ⟨ret_bool (by rw [HV.out, HI.out]; rfl), (Below.refl _ _).alloc (Nat.le_refl _) _⟩
    · have HI : Hid (idB id = true) := hi
      clear hi
      by_cases hz : id = 0
      · subst hz
        clear HPK
        rcases hk with rfl | rfl | rfl | rfl | rfl
        all_goals
          go_enter Tryz.func75, Tryz.ntmps75
          go_wp2_with (first | (go_at_call_of 132 (Value.int IntKind.i64 1); refine (kw1 _).mono ?_; rintro e w' ⟨rfl, rfl⟩) | (go_at_call_of 132 (Value.int IntKind.i64 2); refine (kw2 _).mono ?_; rintro e w' ⟨rfl, rfl⟩) | (go_at_call_of 132 (Value.int IntKind.i64 3); refine (kw3 _).mono ?_; rintro e w' ⟨rfl, rfl⟩) | (go_at_call_of 132 (Value.int IntKind.i64 4); refine (kw4 _).mono ?_; rintro e w' ⟨rfl, rfl⟩) | (go_at_call_of 132 (Value.int IntKind.i64 5); refine (kw5 _).mono ?_; rintro e w' ⟨rfl, rfl⟩) | (go_at_call 78; refine (isObject_any _ _).mono ?_; rintro e w' ⟨rfl, rfl⟩; rw [HI.out]))
          go_ret
          exact ⟨ret_bool (by rw [HV.out]; simp), (Below.refl _ _).alloc (Nat.le_refl _) _⟩
      · have t0 : (id != 0) = true := by simpa using hz
        have HT : Hid ((id != 0) = true) := t0
        clear hz
        rcases hk with rfl | rfl | rfl | rfl | rfl
        all_goals
          go_enter Tryz.func75, Tryz.ntmps75
          go_wp2_with (first | (go_at_call_of 132 (Value.int IntKind.i64 1); refine (kw1 _).mono ?_; rintro e w' ⟨rfl, rfl⟩) | (go_at_call_of 132 (Value.int IntKind.i64 2); refine (kw2 _).mono ?_; rintro e w' ⟨rfl, rfl⟩) | (go_at_call_of 132 (Value.int IntKind.i64 3); refine (kw3 _).mono ?_; rintro e w' ⟨rfl, rfl⟩) | (go_at_call_of 132 (Value.int IntKind.i64 4); refine (kw4 _).mono ?_; rintro e w' ⟨rfl, rfl⟩) | (go_at_call_of 132 (Value.int IntKind.i64 5); refine (kw5 _).mono ?_; rintro e w' ⟨rfl, rfl⟩) | (go_at_call 78; refine (isObject_any _ _).mono ?_; rintro e w' ⟨rfl, rfl⟩; rw [HI.out]) | (go_at_call 133; refine (HPK _ _).mono ?_; rintro e w9 ⟨rfl, hb9⟩))
          go_ret
          exact ⟨ret_bool (by rw [HV.out, HI.out, HT.out]; simp), ((Below.refl _ _).alloc (Nat.le_refl _) _).trans (hb9.mono (by simp))⟩
  · have HV : Hid (opOk o = false ∧ kword o.kind = ⟨#[]⟩) := opOk_nokind hk
    clear hk HPK
    obtain ⟨k, d, nm, d2, nm2, id, tx⟩ := o
    simp only [LOp.val] at *
    go_enter Tryz.func75, Tryz.ntmps75
    go_wp2_with (go_at_call 132; refine (kw0 HV.out.2 _).mono ?_; rintro e w' ⟨rfl, rfl⟩)
    go_ret
    exact ⟨ret_bool (by rw [HV.out.1]), (Below.refl _ _).alloc (Nat.le_refl _) _⟩
end Go.Proofs.YtnolbfijcnldjaaGreatDoor

/- Lists of what is done: in memory, their sizes, their copies, compared. -/
namespace Go.Proofs.YtnolbfijcnldjaaGreatDoor
open Go.RowKit Go.ChangeShapes Go.WideShapes

structure OpAt (w : World) (b k : Nat) (o : LOp) : Prop where
  c0 : w.cell? ⟨b, k, none⟩ = some (.int .i64 o.kind)
  c1 : w.cell? ⟨b, k + 1, none⟩ = some (.int .i64 o.dir)
  c2 : w.cell? ⟨b, k + 2, none⟩ = some (.string o.name)
  c3 : w.cell? ⟨b, k + 3, none⟩ = some (.int .i64 o.dir2)
  c4 : w.cell? ⟨b, k + 4, none⟩ = some (.string o.name2)
  c5 : w.cell? ⟨b, k + 5, none⟩ = some (.int .i64 o.id)
  c6 : w.cell? ⟨b, k + 6, none⟩ = some (.string o.text)
theorem OpAt.of_block {w w' : World} {b k : Nat} {o : LOp} (h : OpAt w b k o) (e : w'.heap[b]? = w.heap[b]?) : OpAt w' b k o := by
  have hc : ∀ j, w'.cell? ⟨b, j, none⟩ = w.cell? ⟨b, j, none⟩ := fun j => World.cell?_of_block (w := w) e
  exact ⟨by rw [hc]; exact h.c0, by rw [hc]; exact h.c1, by rw [hc]; exact h.c2, by rw [hc]; exact h.c3, by rw [hc]; exact h.c4, by rw [hc]; exact h.c5, by rw [hc]; exact h.c6⟩
structure OpsAt (w : World) (L U : Nat) (a : Option Addr) (n : Nat) (ops : List LOp) : Prop where
  len : n = ops.length
  bd : n ≤ maxLen
  at_ : n ≠ 0 → ∃ b off, a = some ⟨b, off, none⟩ ∧ L ≤ b ∧ b < U ∧ ∀ i, i < n → ∃ o, ops[i]? = some o ∧ OpSz o ∧ OpAt w b (off + i * 7) o
theorem OpsAt.below {w w' : World} {L U B : Nat} {a : Option Addr} {n : Nat} {ops : List LOp} (h : OpsAt w L U a n ops) (hb : Below B w w') (hU : U ≤ B) : OpsAt w' L U a n ops :=
  ⟨h.len, h.bd, fun hn => by
    obtain ⟨b, off, ha, hL, hbU, hc⟩ := h.at_ hn
    refine ⟨b, off, ha, hL, hbU, fun i hi => ?_⟩
    obtain ⟨o, ho, hs, h0⟩ := hc i hi
    exact ⟨o, ho, hs, h0.of_block (hb.block b (by omega))⟩⟩
theorem OpsAt.wide {w : World} {L U L' U' : Nat} {a : Option Addr} {n : Nat} {ops : List LOp} (h : OpsAt w L U a n ops) (hL' : L' ≤ L) (hU : U ≤ U') : OpsAt w L' U' a n ops :=
  ⟨h.len, h.bd, fun hn => by
    obtain ⟨b, off, ha, hL, hbU, hc⟩ := h.at_ hn
    exact ⟨b, off, ha, by omega, by omega, hc⟩⟩

/-! Read as data. -/
section
variable {H : Type} {enc : TypeId × Value → H} {w : World} {spare : Nat → Bool} {held : Bool}
end

/-! Sizes. -/
/-! Copies. -/
def opF (f : Nat → Value) (i : Nat) (o : LOp) : Prop := f (i * 7) = .int .i64 o.kind ∧ f (i * 7 + 1) = .int .i64 o.dir ∧ f (i * 7 + 2) = .string o.name ∧ f (i * 7 + 3) = .int .i64 o.dir2 ∧ f (i * 7 + 4) = .string o.name2 ∧ f (i * 7 + 5) = .int .i64 o.id ∧ f (i * 7 + 6) = .string o.text

end Go.Proofs.YtnolbfijcnldjaaGreatDoor

/- The numbers that what is done names. -/
namespace Go.Proofs.YtnolbfijcnldjaaGreatDoor
open Go.RowKit

def opIds1 (o : LOp) : List Nat := if o.kind = 5 then [o.id.toNat] else putI o.dir.toNat [o.id.toNat]
def opIds (o : LOp) : List Nat := if opOk o then (if o.kind = 4 then putI o.dir2.toNat (opIds1 o) else opIds1 o) else []
theorem opOk_id {o : LOp} (h : opOk o = true) : 1 ≤ o.id ∧ o.id < 32 := by
  unfold opOk at h
  split at h
  · simp [opId, idB] at h; omega
  · split at h
    · simp [opId, idB] at h; omega
    · split at h
      · simp [opId, idB] at h; omega
      · simp at h
theorem opOk_dir {o : LOp} (h : opOk o = true) : 0 ≤ o.dir ∧ o.dir < 32 := by
  unfold opOk at h
  split at h
  · simp [opSlot, idB] at h; omega
  · split at h
    · simp [opSlot, idB] at h; omega
    · split at h
      · simp at h; omega
      · simp at h
theorem opOk_dir2 {o : LOp} (h : opOk o = true) : 0 ≤ o.dir2 ∧ o.dir2 < 32 := by
  unfold opOk at h
  split at h
  · simp [opNone2] at h; omega
  · split at h
    · simp [opSlot2, idB] at h; omega
    · split at h
      · simp [opNone2] at h; omega
      · simp at h
theorem putI_bd {x : Nat} {l : List Nat} {M : Nat} (hx : x < M) (h : ∀ i ∈ l, i < M) : ∀ i ∈ putI x l, i < M := by
  intro i hi
  unfold putI at hi
  split at hi
  · exact h i hi
  · simp at hi
    rcases hi with hi | rfl | hi
    · exact h i (List.mem_of_mem_take hi)
    · exact hx
    · exact h i (List.mem_of_mem_drop hi)
theorem putI_le (x : Nat) (l : List Nat) : (putI x l).length ≤ l.length + 1 := by
  unfold putI
  split
  · omega
  · simp; omega
theorem opIds_bd (o : LOp) : ∀ i ∈ opIds o, i < 32 := by
  unfold opIds
  split
  · rename_i h
    have h1 := opOk_id h
    have h2 := opOk_dir h
    have h3 := opOk_dir2 h
    have hb : ∀ i ∈ opIds1 o, i < 32 := by
      unfold opIds1
      split
      · intro i hi; simp at hi; omega
      · exact putI_bd (by omega) (by intro i hi; simp at hi; omega)
    split
    · exact putI_bd (by omega) hb
    · exact hb
  · intro i hi; simp at hi

theorem putI_at (B g cap n : Nat) (x : Int) (k : Nat) (e : x = k) (l : List Nat) (w : World) (hn : n = l.length) (hn2 : n ≤ 1000000) (hB : B ≤ w.heap.size) (H : OwnInts w B (.slice (some ⟨g, 0, none⟩) n cap) l) :
    Calls Tryz.prog 155 #[.slice (some ⟨g, 0, none⟩) n cap, .int .i64 x] w fun e w' => PutIEnd w B g k l e w' := by
  subst e; exact putI_any B g cap n k l w hn hn2 hB H
theorem ints_one (w : World) (B g : Nat) (x : Int) (k : Nat) (e : x = k) (hg : w.heap.size = g) (hB : B ≤ w.heap.size) : OwnInts (w.alloc (Obj.cells #[.int .i64 x] 3)) B (.slice (some ⟨g, 0, none⟩) 1 1) [k] := by
  subst e hg
  simpa [OwnInts] using World.ownsRow_lit (base := B) (e := 3) (size := 1) w #[.int .i64 (k : Int)] 1 hB (by simp [maxLen]) rfl
theorem below_put {B g : Nat} {w w1 w2 : World} {x : Nat} {l : List Nat} {e : Ending} (h : Below B w w1) (hp : PutIEnd w1 B g x l e w2) (hg : B ≤ g) (hs : B ≤ w1.heap.size) : Below B w w2 := by
  obtain ⟨_, _, _, _, _, _, hgr⟩ := hp
  exact below_grown h hgr (fun k hk => by simp at hk; omega) hs

set_option maxHeartbeats 1000000 in
set_option maxRecDepth 20000 in
theorem opIds_any (o : LOp) (w : World) (h1 : o.name.size ≤ maxLen) (h2 : o.name2.size ≤ maxLen) (h3 : o.text.size ≤ maxLen) :
    Calls Tryz.prog 154 #[.agg o.val] w fun e w' => (∃ v, e = .returned v ∧ Hid (OwnInts w' w.heap.size v (opIds o))) ∧ Below w.heap.size w w' := by
  have HOK := opOk_any o
  rcases hok : opOk o with _ | _
  · have hids : Hid (opIds o = []) := by show _ = _; simp [opIds, hok]
    simp only [LOp.val] at *
    go_enter Tryz.func154, Tryz.ntmps154
    go_wp2_with fail
    refine (HOK _ h1 h2 h3).mono ?_
    rintro x w1 ⟨rfl, rfl⟩
    rw [hok]
    go_wp2_with fail
    go_ret
    exact ⟨⟨_, rfl, by show OwnInts _ _ _ _; rw [hids.out]; exact OwnInts.empty _ _ _ (by simp) (by simp; omega)⟩, by repeat (first | exact Below.refl _ _ | refine Below.alloc ?_ (by simp <;> omega) _)⟩
  · have b1 := opOk_id hok
    have b2 := opOk_dir hok
    have b3 := opOk_dir2 hok
    have E1 : Hid (o.id = (o.id.toNat : Nat)) := by show _ = _; omega
    have E2 : Hid (o.dir = (o.dir.toNat : Nat)) := by show _ = _; omega
    have E3 : Hid (o.dir2 = (o.dir2.toNat : Nat)) := by show _ = _; omega
    clear b1 b2 b3
    by_cases k5 : o.kind = 5
    · have hids : Hid (opIds o = [o.id.toNat]) := by show _ = _; simp [opIds, opIds1, hok, k5]
      have t5 : (o.kind != 5) = false := by simp [k5]
      have t4 : (o.kind == 4) = false := by simp [k5]
      clear k5
      simp only [LOp.val] at *
      go_enter Tryz.func154, Tryz.ntmps154
      go_wp2_with fail
      refine (HOK _ h1 h2 h3).mono ?_
      rintro x w1 ⟨rfl, rfl⟩
      rw [hok]
      go_wp2_with fail
      go_ret
      exact ⟨⟨_, rfl, by show OwnInts _ _ _ _; rw [hids.out]; exact ints_one _ _ _ _ _ E1.out (by simp) (by simp; omega)⟩, by repeat (first | exact Below.refl _ _ | refine Below.alloc ?_ (by simp <;> omega) _)⟩
    · have t5 : (o.kind != 5) = true := by simp [k5]
      have hi1 : Hid (opIds1 o = putI o.dir.toNat [o.id.toNat]) := by show _ = _; simp [opIds1, k5]
      by_cases k4 : o.kind = 4
      · have hids : Hid (opIds o = putI o.dir2.toNat (putI o.dir.toNat [o.id.toNat])) := by show _ = _; rw [← hi1.out]; simp [opIds, hok, k4]
        have t4 : (o.kind == 4) = true := by simp [k4]
        clear k5 k4
        simp only [LOp.val] at *
        go_enter Tryz.func154, Tryz.ntmps154
        go_wp2_with fail
        refine (HOK _ h1 h2 h3).mono ?_
        rintro x w1 ⟨rfl, rfl⟩
        rw [hok]
        go_wp2_with fail
        have hA : Below w.heap.size w (((w.alloc (Obj.cells #[.int .i64 o.kind, .int .i64 o.dir, .string o.name, .int .i64 o.dir2, .string o.name2, .int .i64 o.id, .string o.text] 27)).alloc (Obj.cells #[.int .i64 o.kind, .int .i64 o.dir, .string o.name, .int .i64 o.dir2, .string o.name2, .int .i64 o.id, .string o.text] 27)).alloc (Obj.cells #[.int .i64 o.id] 3)) := by repeat (first | exact Below.refl _ _ | refine Below.alloc ?_ (by simp <;> omega) _)
        refine (putI_at w.heap.size _ _ _ _ _ E2.out [o.id.toNat] _ rfl (by simp) (by simp; omega) (ints_one _ _ _ _ _ E1.out (by simp) (by simp; omega))).mono ?_
        rintro x w2 hp
        have hbl := below_put hA hp (by omega) (by simp; omega)
        obtain ⟨g', n', cap', rfl, hn', hown', hgr⟩ := hp
        have HN : Hid (n' = (putI o.dir.toNat [o.id.toNat]).length) := hn'
        have hc0 : w2.cell? ⟨w.heap.size, 0, none⟩ = some (.int .i64 o.kind) := by rw [hgr.cell_far _ (by simp; omega) (by simp; omega)]; simp [go_sem]
        have hc3 : w2.cell? ⟨w.heap.size, 3, none⟩ = some (.int .i64 o.dir2) := by rw [hgr.cell_far _ (by simp; omega) (by simp; omega)]; simp [go_sem]
        have hz2 : w.heap.size ≤ w2.heap.size := hbl.size
        have hle : n' ≤ 1000 := by rw [hn']; have := putI_le o.dir.toNat [o.id.toNat]; simp at this; omega
        have hg' : w.heap.size ≤ g' := (World.ownsRow.lt hown' g' rfl).1
        have HOWN : Hid (OwnInts w2 w.heap.size (.slice (some ⟨g', 0, none⟩) n' cap') (putI o.dir.toNat [o.id.toNat])) := hown'
        clear hn' hgr hown'
        go_wp2_with fail
        refine (putI_at w.heap.size _ _ _ _ _ E3.out _ _ HN.out (by omega) hz2 HOWN.out).mono ?_
        rintro x w3 hp3
        have hbl3 := below_put hbl hp3 hg' hz2
        obtain ⟨g3, n3, cap3, rfl, hn3, hown3, hgr3⟩ := hp3
        have HOWN3 : Hid (OwnInts w3 w.heap.size (.slice (some ⟨g3, 0, none⟩) n3 cap3) (putI o.dir2.toNat (putI o.dir.toNat [o.id.toNat]))) := hown3
        clear hn3 hown3 hgr3
        go_wp2_with fail
        go_ret
        exact ⟨⟨_, rfl, by show OwnInts _ _ _ _; rw [hids.out]; exact HOWN3.out⟩, hbl3⟩
      · have hids : Hid (opIds o = putI o.dir.toNat [o.id.toNat]) := by show _ = _; rw [← hi1.out]; simp [opIds, hok, k4]
        have t4 : (o.kind == 4) = false := by simp [k4]
        clear k5 k4
        simp only [LOp.val] at *
        go_enter Tryz.func154, Tryz.ntmps154
        go_wp2_with fail
        refine (HOK _ h1 h2 h3).mono ?_
        rintro x w1 ⟨rfl, rfl⟩
        rw [hok]
        go_wp2_with fail
        have hA : Below w.heap.size w (((w.alloc (Obj.cells #[.int .i64 o.kind, .int .i64 o.dir, .string o.name, .int .i64 o.dir2, .string o.name2, .int .i64 o.id, .string o.text] 27)).alloc (Obj.cells #[.int .i64 o.kind, .int .i64 o.dir, .string o.name, .int .i64 o.dir2, .string o.name2, .int .i64 o.id, .string o.text] 27)).alloc (Obj.cells #[.int .i64 o.id] 3)) := by repeat (first | exact Below.refl _ _ | refine Below.alloc ?_ (by simp <;> omega) _)
        refine (putI_at w.heap.size _ _ _ _ _ E2.out [o.id.toNat] _ rfl (by simp) (by simp; omega) (ints_one _ _ _ _ _ E1.out (by simp) (by simp; omega))).mono ?_
        rintro x w2 hp
        have hbl := below_put hA hp (by omega) (by simp; omega)
        obtain ⟨g', n', cap', rfl, hn', hown', hgr⟩ := hp
        have HN : Hid (n' = (putI o.dir.toNat [o.id.toNat]).length) := hn'
        have hc0 : w2.cell? ⟨w.heap.size, 0, none⟩ = some (.int .i64 o.kind) := by rw [hgr.cell_far _ (by simp; omega) (by simp; omega)]; simp [go_sem]
        clear hn' hgr
        go_wp2_with fail
        go_ret
        exact ⟨⟨_, rfl, by show OwnInts _ _ _ _; rw [hids.out]; exact hown'⟩, hbl⟩
end Go.Proofs.YtnolbfijcnldjaaGreatDoor

/- Whether something that is named was turned as often as can be. -/
namespace Go.Proofs.YtnolbfijcnldjaaGreatDoor
open Go.RowKit

def oldB (os : List LObj) (i : Nat) : Bool := match os[i]? with | some o => decide (1000000 ≤ o.ver) | none => false
def wornB (os : List LObj) (l : List Nat) : Bool := l.any (oldB os)
theorem opIds_le (o : LOp) : (opIds o).length ≤ 3 := by
  have h1 : (opIds1 o).length ≤ 2 := by
    unfold opIds1
    split
    · simp
    · have := putI_le o.dir.toNat [o.id.toNat]; simp at this; omega
  unfold opIds
  split
  · split
    · have := putI_le o.dir2.toNat (opIds1 o); omega
    · omega
  · simp
theorem OwnInts.form {w : World} {B : Nat} {v : Value} {l : List Nat} (h : OwnInts w B v l) : ∃ a c, v = .slice a l.length c ∧ ∀ i, i < l.length → ∃ g k, a = some ⟨g, 0, none⟩ ∧ B ≤ g ∧ g < w.heap.size ∧ l[i]? = some k ∧ w.cell? ⟨g, i, none⟩ = some (.int .i64 (k : Nat)) := by
  by_cases hl : l = []
  · subst hl
    obtain ⟨a, c, rfl⟩ := h.nil
    exact ⟨a, c, rfl, fun i hi => by simp at hi⟩
  · obtain ⟨g, c, rfl, h1, h2, h3⟩ := h.get hl
    refine ⟨_, c, rfl, fun i hi => ?_⟩
    obtain ⟨k, hk, hc⟩ := h3 i hi
    exact ⟨g, k, rfl, h1, h2, hk, hc⟩

set_option maxHeartbeats 1000000 in
set_option maxRecDepth 20000 in
theorem worn_any (a : Option Addr) (n c : Nat) (os : List LObj) (L U : Nat) (o : LOp) (w : World) (hn : 32 ≤ n) (hU : U ≤ w.heap.size) (H : ObjsAt w L U a n os) (h1 : o.name.size ≤ maxLen) (h2 : o.name2.size ≤ maxLen) (h3 : o.text.size ≤ maxLen) :
    Calls Tryz.prog 119 #[.agg #[.slice a n c], .agg o.val] w fun e w' => e = .returned (.bool (wornB os (opIds o))) ∧ Below w.heap.size w w' := by
  have HIDS := opIds_any o
  have HBD := opIds_bd o
  have hnos := H.len
  have HNOS : Hid (n = os.length) := hnos
  obtain ⟨b, off, ha, hL, hbU, hc⟩ := H.at_ (by omega)
  subst ha
  clear hnos H
  have HCC : Hid (∀ i, i < n → ∃ p, os[i]? = some p ∧ w.cell? ⟨b, off + i * 4 + 1, none⟩ = some (.int .i64 p.ver)) := fun i hi => by
    obtain ⟨p, _, _, _, hp, _, _, hv, _⟩ := hc i hi
    exact ⟨p, hp, hv⟩
  clear hc
  simp only [LOp.val] at *
  go_enter Tryz.func119, Tryz.ntmps119
  go_wp2_with fail
  refine (HIDS _ h1 h2 h3).mono ?_
  rintro x w1 ⟨⟨v, rfl, hv⟩, hb1⟩
  have hA : Below w.heap.size w w1 := ((((Below.refl w.heap.size w).alloc (Nat.le_refl _) _).alloc (by simp) _)).trans (hb1.mono (by simp; omega))
  have hbx : w1.cell? ⟨w.heap.size, 0, none⟩ = some (.slice (some ⟨b, off, none⟩) n c) := by rw [hb1.cell (by simp; omega)]; simp [go_sem]
  have hz1 : w.heap.size + 2 ≤ w1.heap.size := by simpa using hb1.size
  obtain ⟨ia, ic, rfl, hcells⟩ := hv.out.form
  have HL : Hid (∀ i ∈ opIds o, i < 32) := HBD
  have HI : Hid (∀ i, i < (opIds o).length → ∃ g k, ia = some ⟨g, 0, none⟩ ∧ w1.cell? ⟨g, i, none⟩ = some (.int .i64 (k : Nat)) ∧ (opIds o)[i]? = some k) := fun i hi => by
    obtain ⟨g, k, h1, _, _, h4, h5⟩ := hcells i hi
    exact ⟨g, k, h1, h5, h4⟩
  clear hv hcells hb1 HBD HIDS
  obtain ⟨m, hm⟩ : ∃ m, Hid (m = (opIds o).length) := ⟨_, rfl⟩
  rw [← hm.out]
  have hm4 : m ≤ 100000 := by rw [hm.out]; have := opIds_le o; omega
  go_wp2_with fail
  go_loopg [6] m (fun k i wr => ∃ j : Nat, j ≤ m ∧ Hid (k = m - j) ∧ i = .int .i64 j ∧ Hid (∀ i, i < j → ∃ k, (opIds o)[i]? = some k ∧ oldB os k = false) ∧ Hid (∃ q, wr = w1.drewN q))
  case atStart => exact ⟨0, Nat.zero_le _, rfl, rfl, fun i hi => by omega, 0, rfl⟩
  case round =>
    obtain ⟨j, hj, hk, rfl, hno, hwr⟩ := hrel
    have hbx' : wr.cell? ⟨w.heap.size, 0, none⟩ = some (.slice (some ⟨b, off, none⟩) n c) := by obtain ⟨q, rfl⟩ := hwr.out; exact hbx
    by_cases hlt : j < m
    · obtain ⟨g, k, rfl, hck, hik⟩ := HI.out j (by rw [← hm.out]; exact hlt)
      have hk32 : k < 32 := HL.out k (List.mem_of_getElem? hik)
      have hkn : (k : Int) < (n : Int) := by omega
      obtain ⟨p, hp, hpv⟩ := HCC.out k (by omega)
      have hck' : wr.cell? ⟨g, j, none⟩ = some (.int .i64 (k : Int)) := by obtain ⟨q, rfl⟩ := hwr.out; exact hck
      have hpv' : wr.cell? ⟨b, off + k * 4 + 1, none⟩ = some (.int .i64 p.ver) := by obtain ⟨q, rfl⟩ := hwr.out; show w1.cell? _ = _; rw [hA.cell (by simp; omega)]; exact hpv
      have HIK : Hid ((opIds o)[j]? = some k) := hik
      have HP : Hid (os[k]? = some p) := hp
      clear hik hp hpv hck
      by_cases hq : 1000000 ≤ p.ver
      · have HO : Hid (wornB os (opIds o) = true) := by show _ = _; unfold wornB; rw [List.any_eq_true]; exact ⟨k, List.mem_of_getElem? HIK.out, by simp [oldB, HP.out, hq]⟩
        go_wp2_with fail
        go_quiet (fail)
        go_wp2_with fail
        go_ret
        exact ⟨ret_bool HO.out.symm, by obtain ⟨q, hq⟩ := hwr.out; rw [hq]; exact hA.trans ⟨rfl, rfl, rfl, Nat.le_refl _, fun _ _ => rfl⟩⟩
      · have HO : Hid (oldB os k = false) := by show _ = _; simp [oldB, HP.out]; omega
        have t1 : decide (1000000 ≤ p.ver) = false := by simpa using hq
        go_wp2_with fail
        go_quiet (fail)
        go_wp2_with fail
        go_roundg (m - (j + 1))
        case measure => have := hk.out; omega
        case rel =>
          refine ⟨j + 1, by omega, rfl, by go_num, fun i hi => ?_, by obtain ⟨q, hq⟩ := hwr.out; exact ⟨q + nq, by rw [hq, World.drewN_drewN]⟩⟩
          rcases Nat.lt_or_ge i j with h | h
          · exact hno.out i h
          · obtain rfl : i = j := by omega
            exact ⟨k, HIK.out, HO.out⟩
    · have HO : Hid (wornB os (opIds o) = false) := by
        show _ = _
        unfold wornB
        rw [List.any_eq_false]
        intro k hk
        obtain ⟨i, hi, hik⟩ := List.getElem_of_mem hk
        obtain ⟨k', h1, h2⟩ := hno.out i (by have := hm.out; omega)
        rw [List.getElem?_eq_getElem hi, hik] at h1
        simp at h1
        subst h1
        simp [h2]
      go_wp2_with fail
      go_ret
      exact ⟨ret_bool HO.out.symm, by obtain ⟨q, hq⟩ := hwr.out; rw [hq]; exact hA.trans ⟨rfl, rfl, rfl, Nat.le_refl _, fun _ _ => rfl⟩⟩
end Go.Proofs.YtnolbfijcnldjaaGreatDoor

/- All names of all directories as one list; where something is at home, and the way up: contracts of the specification. -/
namespace Go.Proofs.YtnolbfijcnldjaaGreatDoor
open Go.RowKit

def tagged (d : Nat) (es : List LEnt) : List (Nat × LEnt) := es.map (fun e => (d, e))
def flatFrom : Nat → List LObj → List (Nat × LEnt)
  | _, [] => []
  | d, o :: l => tagged d o.kids ++ flatFrom (d + 1) l
/-- All names of all directories, in order. -/
def flat (t : List LObj) : List (Nat × LEnt) := flatFrom 0 t
theorem flatFrom_append (d : Nat) (l m : List LObj) : flatFrom d (l ++ m) = flatFrom d l ++ flatFrom (d + l.length) m := by
  induction l generalizing d with
  | nil => simp [flatFrom]
  | cons x l ih => simp [flatFrom, ih, Nat.add_assoc, Nat.add_comm 1]
theorem flat_take {t : List LObj} {i : Nat} {o : LObj} (h : t[i]? = some o) : flat (t.take (i + 1)) = flat (t.take i) ++ tagged i o.kids := by
  have hi : i < t.length := (List.getElem?_eq_some_iff.1 h).1
  have ho : t[i] = o := (List.getElem?_eq_some_iff.1 h).2
  rw [List.take_succ_eq_append_getElem hi, ho]
  unfold flat
  rw [flatFrom_append]
  simp [flatFrom, Nat.min_eq_left (Nat.le_of_lt hi)]
theorem flat_split {t : List LObj} {i : Nat} {o : LObj} (h : t[i]? = some o) : ∃ r, flat t = flat (t.take i) ++ tagged i o.kids ++ r := by
  have e : t = t.take (i + 1) ++ t.drop (i + 1) := (List.take_append_drop _ _).symm
  refine ⟨flatFrom (0 + (t.take (i + 1)).length) (t.drop (i + 1)), ?_⟩
  rw [← flat_take h]
  conv => lhs; rw [e]
  exact flatFrom_append 0 _ _
theorem tagged_split {es : List LEnt} {d k : Nat} {e : LEnt} (h : es[k]? = some e) : ∃ r, tagged d es = tagged d (es.take k) ++ (d, e) :: r := by
  have hk : k < es.length := (List.getElem?_eq_some_iff.1 h).1
  have he : es[k] = e := (List.getElem?_eq_some_iff.1 h).2
  refine ⟨tagged d (es.drop (k + 1)), ?_⟩
  unfold tagged
  rw [← he, ← List.map_cons (f := fun e => (d, e)), ← List.map_append, ← List.drop_eq_getElem_cons hk, List.take_append_drop]
theorem tagged_take {es : List LEnt} {d k : Nat} {e : LEnt} (h : es[k]? = some e) : tagged d (es.take (k + 1)) = tagged d (es.take k) ++ [(d, e)] := by
  have hk : k < es.length := (List.getElem?_eq_some_iff.1 h).1
  have he : es[k] = e := (List.getElem?_eq_some_iff.1 h).2
  unfold tagged
  rw [List.take_succ_eq_append_getElem hk, he]; simp

def homeIn (p : List (Nat × LEnt)) (id : Int) : Int := match p.find? (fun x => x.2.id == id) with | some x => x.1 | none => -1
def nameIn (p : List (Nat × LEnt)) (id : Int) : ByteArray := match p.find? (fun x => x.2.id == id) with | some x => x.2.name | none => ⟨#[]⟩
/-- No name of the list is of this number. -/
def Off (p : List (Nat × LEnt)) (id : Int) : Prop := ∀ x ∈ p, x.2.id ≠ id
theorem off_nil (id : Int) : Off [] id := fun x hx => by simp at hx
theorem off_append {p q : List (Nat × LEnt)} {id : Int} : Off (p ++ q) id ↔ Off p id ∧ Off q id := by
  unfold Off
  constructor
  · exact fun h => ⟨fun x hx => h x (List.mem_append_left _ hx), fun x hx => h x (List.mem_append_right _ hx)⟩
  · rintro ⟨h, k⟩ x hx
    rcases List.mem_append.1 hx with hx | hx
    · exact h x hx
    · exact k x hx
theorem off_one {x : Nat × LEnt} {id : Int} : Off [x] id ↔ x.2.id ≠ id := by simp [Off]
theorem find_off {p : List (Nat × LEnt)} {id : Int} (h : Off p id) : p.find? (fun x => x.2.id == id) = none := by
  rw [List.find?_eq_none]
  intro x hx
  simpa using h x hx
theorem homeIn_off {p : List (Nat × LEnt)} {id : Int} (h : Off p id) : homeIn p id = -1 := by unfold homeIn; rw [find_off h]
theorem homeIn_at {p : List (Nat × LEnt)} {x : Nat × LEnt} {r : List (Nat × LEnt)} {id : Int} (h : Off p id) (hx : x.2.id = id) : homeIn (p ++ x :: r) id = x.1 := by
  unfold homeIn
  rw [List.find?_append, find_off h]
  simp [hx]
theorem homeIn_flat {t : List LObj} {i k : Nat} {o : LObj} {e : LEnt} {id : Int} (ho : t[i]? = some o) (he : o.kids[k]? = some e) (h1 : Off (flat (t.take i)) id) (h2 : Off (tagged i (o.kids.take k)) id) (h : e.id = id) : homeIn (flat t) id = i := by
  obtain ⟨r, hr⟩ := flat_split ho
  obtain ⟨r', hr'⟩ := tagged_split (d := i) he
  rw [hr, hr', List.append_assoc, List.append_assoc, ← List.append_assoc (flat (t.take i)), List.cons_append]
  exact homeIn_at (off_append.2 ⟨h1, h2⟩) h
theorem off_next {es : List LEnt} {d k : Nat} {e : LEnt} {id : Int} (he : es[k]? = some e) (h : Off (tagged d (es.take k)) id) (hn : e.id ≠ id) : Off (tagged d (es.take (k + 1))) id := by
  rw [tagged_take he]
  exact off_append.2 ⟨h, off_one.2 hn⟩
theorem off_dir {t : List LObj} {i : Nat} {o : LObj} {id : Int} (ho : t[i]? = some o) (h1 : Off (flat (t.take i)) id) (h2 : Off (tagged i o.kids) id) : Off (flat (t.take (i + 1))) id := by
  rw [flat_take ho]
  exact off_append.2 ⟨h1, h2⟩

theorem ret_int {k : IntKind} {a b : Int} (h : a = b) : Ending.returned (.int k a) = .returned (.int k b) := by rw [h]

set_option maxHeartbeats 1000000 in
theorem l1Home_any (a : Option Addr) (n c : Nat) (os : List LObj) (L U : Nat) (id : Int) (w : World) (hU : U ≤ w.heap.size) (H : ObjsAt w L U a n os) :
    Calls Tryz.prog 126 #[.agg #[.slice a n c], .int .i64 id] w fun e w' => e = .returned (.int .i64 (homeIn (flat os) id)) ∧ w' = w.alloc (.cells #[.slice a n c] 25) := by
  have hbd := H.bd
  unfold maxLen at hbd
  have hB : Below w.heap.size w (w.alloc (.cells #[.slice a n c] 25)) := (Below.refl _ _).alloc (Nat.le_refl _) _
  go_enter Tryz.func126, Tryz.ntmps126
  go_wp2
  go_loopg [5] n (fun g i wr => ∃ j : Nat, j ≤ n ∧ Hid (g = n - j) ∧ i = .int .i64 j ∧ Hid (Off (flat (os.take j)) id) ∧ wr = w.alloc (.cells #[.slice a n c] 25))
  case atStart => exact ⟨0, Nat.zero_le _, by show _ = _; omega, rfl, off_nil id, rfl⟩
  case round =>
    obtain ⟨j, hj, hk, rfl, hq, rfl⟩ := hrel
    by_cases hlt : j < n
    · obtain ⟨b, off, ha, hL, hbU, hc⟩ := H.at_ (by omega)
      subst ha
      obtain ⟨o, ka, kn, kc, ho, hsz, hc0, hc1, hc2, hc3, hks⟩ := hc j hlt
      have HO : Hid (os[j]? = some o) := ho
      clear ho hc hc0 hc1 hc2
      have hbl : b < w.heap.size := by omega
      have hkb := hks.bd
      unfold maxLen at hkb
      have HKL : Hid (kn = o.kids.length) := hks.len
      go_wp2_with fail
      go_loopg [6] kn (fun g i wr => ∃ m : Nat, m ≤ kn ∧ Hid (g = kn - m) ∧ i = .int .i64 m ∧ Hid (Off (tagged j (o.kids.take m)) id) ∧ wr = w.alloc (.cells #[.slice (some ⟨b, off, none⟩) n c] 25))
      case atStart => exact ⟨0, Nat.zero_le _, by show _ = _; omega, rfl, off_nil id, rfl⟩
      case round =>
        obtain ⟨m, hm, hk2, rfl, hq2, rfl⟩ := hrel
        by_cases hlt2 : m < kn
        · obtain ⟨b2, off2, ha2, hL2, hbU2, hd⟩ := hks.at_ (by omega)
          subst ha2
          obtain ⟨e, he, hez, hd0, hd1⟩ := hd m hlt2
          have HE : Hid (o.kids[m]? = some e) := he
          clear he hd hd0
          have hbl2 : b2 < w.heap.size := by omega
          by_cases hid : e.id = id
          · have t1 : (e.id == id) = true := by simpa using hid
            have HI : Hid (e.id = id) := hid
            clear hid
            go_wp2_with fail
            go_ret
            exact ⟨ret_int (homeIn_flat HO.out HE.out hq.out hq2.out HI.out).symm, rfl⟩
          · have t1 : (e.id == id) = false := by simpa using hid
            have HI : Hid (e.id ≠ id) := hid
            clear hid
            go_wp2_with fail
            go_roundg (kn - (m + 1))
            case measure => have := hk2.out; omega
            case rel => exact ⟨m + 1, by omega, rfl, by go_num, off_next HE.out hq2.out HI.out, rfl⟩
        · go_wp2_with fail
          go_roundg (n - (j + 1))
          case measure => have := hk.out; omega
          case rel =>
            have h2 := hq2.out
            rw [List.take_of_length_le (by have := HKL.out; omega)] at h2
            exact ⟨j + 1, by omega, rfl, by go_num, off_dir HO.out hq.out h2, rfl⟩
    · go_wp2_with fail
      go_ret
      have h2 := hq.out
      rw [List.take_of_length_le (by have := H.len; omega)] at h2
      exact ⟨ret_int (homeIn_off h2).symm, rfl⟩

/-- So many steps up from an object, as long as it is above 0. -/
def climb (t : List LObj) : Nat → Int → Int
  | 0, id => id
  | k + 1, id => if 0 < id then climb t k (homeIn (flat t) id) else id
theorem climb_stop (t : List LObj) (k : Nat) {id : Int} (h : ¬ 0 < id) : climb t k id = id := by
  cases k with
  | zero => rfl
  | succ k => unfold climb; rw [if_neg h]
theorem climb_step (t : List LObj) (k : Nat) {id : Int} (h : 0 < id) : climb t (k + 1) id = climb t k (homeIn (flat t) id) := by
  rw [climb, if_pos h]
def topB (t : List LObj) (id : Int) : Bool := climb t 32 id == 0

set_option maxHeartbeats 1000000 in
theorem l1Top_any (a : Option Addr) (n c : Nat) (os : List LObj) (L U : Nat) (id : Int) (w : World) (hU : U ≤ w.heap.size) (H : ObjsAt w L U a n os) :
    Calls Tryz.prog 73 #[.agg #[.slice a n c], .int .i64 id] w fun e w' => e = .returned (.bool (topB os id)) ∧ Below w.heap.size w w' := by
  have hB : ∀ o1, Below w.heap.size w (w.alloc o1) := fun o1 => (Below.refl _ _).alloc (Nat.le_refl _) _
  go_enter Tryz.func73, Tryz.ntmps73
  go_wp2
  go_loopg [1, 5] 32 (fun g d i wr => ∃ j : Nat, j ≤ 32 ∧ Hid (g = 32 - j) ∧ i = .int .i64 j ∧ (∃ x : Int, d = .int .i64 x ∧ Hid (climb os 32 id = climb os (32 - j) x)) ∧ wr.cell? ⟨w.heap.size, 0, none⟩ = some (.slice a n c) ∧ w.heap.size < wr.heap.size ∧ Below w.heap.size w wr)
  case atStart => exact ⟨0, Nat.zero_le _, by show _ = _; omega, rfl, ⟨id, rfl, rfl⟩, by simp [go_sem], by simp, hB _⟩
  case round =>
    obtain ⟨j, hj, hk, rfl, ⟨x, rfl, hq⟩, hx, hz, hb⟩ := hrel
    by_cases hlt : j < 32
    · have hlt' : (j : Int) < 32 := by omega
      by_cases hx0 : 0 < x
      · go_wp2_with fail
        refine (l1Home_any _ _ _ _ L U _ _ (by have := hb.size; omega) (H.below hb hU)).mono ?_
        rintro y w1 ⟨rfl, rfl⟩
        go_wp2_with fail
        go_roundg (32 - (j + 1))
        case measure => have := hk.out; omega
        case rel =>
          have h1 := hq.out
          rw [show 32 - j = (32 - (j + 1)) + 1 by omega, climb_step _ _ hx0] at h1
          exact ⟨j + 1, by omega, rfl, by go_num, ⟨_, rfl, h1⟩, by rw [((Below.refl wr.heap.size wr).alloc (Nat.le_refl _) _).cell (by simpa using hz)]; exact hx, by simp; omega, hb.alloc hb.size _⟩
      · go_wp2_with fail
        go_ret
        have h1 := hq.out
        rw [climb_stop os (32 - j) (id := x) (by omega)] at h1
        exact ⟨ret_bool (by unfold topB; rw [h1]), hb⟩
    · have hlt' : ¬ (j : Int) < 32 := by omega
      go_wp2_with fail
      go_ret
      have h1 := hq.out
      rw [show 32 - j = 0 by omega] at h1
      have h2 : climb os 32 id = x := h1
      exact ⟨ret_bool (by unfold topB; rw [h2]), hb⟩

def cnt (p : List (Nat × LEnt)) (id : Int) : Nat := p.countP (fun x => x.2.id == id)
theorem cnt_append (p q : List (Nat × LEnt)) (id : Int) : cnt (p ++ q) id = cnt p id + cnt q id := by unfold cnt; rw [List.countP_append]
theorem cnt_one (x : Nat × LEnt) (id : Int) : cnt [x] id = if x.2.id = id then 1 else 0 := by
  unfold cnt; rw [List.countP_singleton]; simp
theorem cnt_le (p : List (Nat × LEnt)) (id : Int) : cnt p id ≤ p.length := List.countP_le_length
theorem flatFrom_len {M : Nat} : ∀ (d : Nat) (l : List LObj), (∀ o ∈ l, o.kids.length ≤ M) → (flatFrom d l).length ≤ l.length * M
  | _, [], _ => by simp [flatFrom]
  | d, o :: l, h => by
    have h1 := flatFrom_len (M := M) (d + 1) l (fun o' ho => h o' (List.mem_cons_of_mem _ ho))
    have h2 := h o (List.mem_cons_self ..)
    simp only [flatFrom, List.length_append, List.length_cons, tagged, List.length_map, Nat.succ_mul]
    omega
/-- All numbers that the names name are objects'. -/
def IdsIn (t : List LObj) : Prop := ∀ o ∈ t, ∀ e ∈ o.kids, 0 < e.id ∧ e.id < 32

theorem info3 : (Tryz.prog.info? 3).map (fun i => (i.zero.map (·.cells), i.size, i.bytes)) = some (some #[.int .i64 0], 1, 8) := by kernel_rfl

end Go.Proofs.YtnolbfijcnldjaaGreatDoor

/- How often each object is named: the contract of the specification. -/
namespace Go.Proofs.YtnolbfijcnldjaaGreatDoor
open Go.RowKit

def zs32 : Array Value := madeCells #[.int .i64 0] 32
theorem make32 (w : World) : (Instr.makeSlice 34 (.int .i64 32) (.int .i64 32)).run Tryz.prog w = .ok (.slice (some ⟨w.heap.size, 0, none⟩) 32 32) (w.alloc (.cells zs32 3)) := by
  have h := run_make_many 34 3 _ 1 8 Tryz.underlying34 info3 32 (by omega) (by omega) w
  have e : ((32 : Nat) : Int) = 32 := by omega
  rw [e] at h
  exact h

theorem cnt_snoc {es : List LEnt} {m : Nat} {e : LEnt} (h : es[m]? = some e) (p : List (Nat × LEnt)) (j : Nat) (i : Int) :
    cnt (p ++ tagged j (es.take (m + 1))) i = cnt (p ++ tagged j (es.take m)) i + if e.id = i then 1 else 0 := by
  rw [tagged_take h, ← List.append_assoc, cnt_append _ [(j, e)], cnt_one]

set_option maxHeartbeats 1000000 in
theorem l1Homes_any (a : Option Addr) (n c : Nat) (os : List LObj) (L U : Nat) (w : World) (hn : n ≤ 32) (hS : Sizes os 1048576) (hI : IdsIn os) (hU : U ≤ w.heap.size) (H : ObjsAt w L U a n os) :
    Calls Tryz.prog 72 #[.agg #[.slice a n c]] w fun e w' => (∃ b, e = .returned (.slice (some ⟨b, 0, none⟩) 32 32) ∧ w.heap.size ≤ b ∧ w'.rowIs b 3 32 (fun i => .int .i64 (cnt (flat os) i))) ∧ Below w.heap.size w w' := by
  have hmk := make32
  have hB : ∀ o1 o2, Below w.heap.size w ((w.alloc o1).alloc o2) := fun o1 o2 => ((Below.refl _ _).alloc (Nat.le_refl _) _).alloc (by simp) _
  have hrow : ((w.alloc (.cells #[.slice a n c] 25)).alloc (.cells zs32 3)).rowIs (w.heap.size + 1) 3 32 (fun i => .int .i64 (cnt (flat (os.take 0)) i)) := by
    have := World.rowIs_made (w.alloc (.cells #[.slice a n c] 25)) (.int .i64 0) 32 3
    simpa [flat, flatFrom, cnt, zs32] using this
  have HROW : Hid (((w.alloc (.cells #[.slice a n c] 25)).alloc (.cells zs32 3)).rowIs (w.heap.size + 1) 3 32 (fun i => .int .i64 (cnt (flat (os.take 0)) i))) := hrow
  clear hrow
  go_enter Tryz.func72, Tryz.ntmps72
  go_wp2
  go_loopg [4] n (fun g i wr => ∃ j : Nat, j ≤ n ∧ Hid (g = n - j) ∧ i = .int .i64 j ∧ Hid (wr.rowIs (w.heap.size + 1) 3 32 (fun i => .int .i64 (cnt (flat (os.take j)) i))) ∧ wr.cell? ⟨w.heap.size, 0, none⟩ = some (.slice a n c) ∧ Below w.heap.size w wr)
  case atStart => exact ⟨0, Nat.zero_le _, by show _ = _; omega, rfl, HROW.out, by simp [go_sem], hB _ _⟩
  case round =>
    obtain ⟨j, hj, hk, rfl, hq, hx, hb⟩ := hrel
    by_cases hlt : j < n
    · obtain ⟨b, off, ha, hL, hbU, hc⟩ := H.at_ (by omega)
      subst ha
      obtain ⟨o, ka, kn, kc, ho, hsz, hc0, hc1, hc2, hc3, hks⟩ := hc j hlt
      have hkn : kn ≤ 1048576 := by rw [hks.len]; exact hS o (List.mem_of_getElem? ho)
      have HO : Hid (os[j]? = some o) := ho
      clear ho hc hc0 hc1 hc2
      have HKL : Hid (kn = o.kids.length) := hks.len
      go_wp2_with fail
      go_loopg [5] kn (fun g i wi => ∃ m : Nat, m ≤ kn ∧ Hid (g = kn - m) ∧ i = .int .i64 m ∧ Hid (wi.rowIs (w.heap.size + 1) 3 32 (fun i => .int .i64 (cnt (flat (os.take j) ++ tagged j (o.kids.take m)) i))) ∧ wi.cell? ⟨w.heap.size, 0, none⟩ = some (.slice (some ⟨b, off, none⟩) n c) ∧ Below w.heap.size w wi)
      case atStart => exact ⟨0, Nat.zero_le _, by show _ = _; omega, rfl, by show World.rowIs _ _ _ _ _; simpa [tagged] using hq.out, hx, hb⟩
      case round =>
        clear hx hb hq
        obtain ⟨m, hm, hk2, rfl, hq2, hx, hb2⟩ := hrel
        rw [← hb2.cell (by simp; omega)] at hc3
        by_cases hlt2 : m < kn
        · obtain ⟨b2, off2, ha2, hL2, hbU2, hd⟩ := hks.at_ (by omega)
          subst ha2
          obtain ⟨e, he, hez, hd0, hd1⟩ := hd m hlt2
          obtain ⟨id, hid, hid0⟩ : ∃ id : Nat, e.id = id ∧ id < 32 := by
            have := hI o (List.mem_of_getElem? HO.out) e (List.mem_of_getElem? he)
            exact ⟨e.id.toNat, by omega, by omega⟩
          rw [hid] at hd1
          have HE : Hid (o.kids[m]? = some e ∧ e.id = id) := ⟨he, hid⟩
          clear he hd hd0 hid
          rw [← hb2.cell (by simp; omega)] at hd1
          have g0 := hq2.out.cell (i := id) hid0
          have z0 := hq2.out.frozen id
          have hcn : cnt (flat (os.take j) ++ tagged j (o.kids.take m)) id ≤ 40000000 := by
            have h1 := cnt_le (flat (os.take j) ++ tagged j (o.kids.take m)) id
            have h2 := flatFrom_len (M := 1048576) 0 (os.take j) (fun o' ho' => hS o' (List.mem_of_mem_take ho'))
            have h3 : (os.take j).length * 1048576 ≤ 32 * 1048576 := Nat.mul_le_mul_right _ (by simp; omega)
            have h4 : (tagged j (o.kids.take m)).length ≤ 1048576 := by simp [tagged]; have := HKL.out; omega
            rw [List.length_append] at h1
            unfold flat at h1 ⊢
            omega
          have hid1 : (0 : Int) ≤ (id : Int) := by omega
          have hid2 : (id : Int) < 32 := by omega
          have hlt' : (j : Int) < (n : Int) := by omega
          have hlt2' : (m : Int) < (kn : Int) := by omega
          generalize hC : cnt (flat (os.take j) ++ tagged j (o.kids.take m)) id = C at g0 hcn
          have HC : Hid (cnt (flat (os.take j) ++ tagged j (o.kids.take m)) id = C) := hC
          clear hC
          go_wp2_with fail
          go_region
          go_wp2_with fail
          go_roundg (kn - (m + 1))
          case measure => have := hk2.out; omega
          case rel =>
            refine ⟨m + 1, by omega, rfl, by go_num, ?_, ?_, ?_⟩
            · have h1 := (hq2.out.set id (.int .i64 (C + 1))).drew
              refine h1.congr fun i hi => ?_
              rw [cnt_snoc HE.out.1]
              by_cases hii : i = id
              · subst hii
                rw [if_pos rfl, if_pos HE.out.2, HC.out]
                simp
              · rw [if_neg hii, if_neg (by have := HE.out.2; show ¬ e.id = _; omega), Nat.add_zero]
            · show World.cell? _ _ = _
              rw [World.cell?_of_block (w := wr) (Below.heap_setCell wr _ _ w.heap.size (by simp))]
              exact hx
            · exact (hb2.setCell (by simp) _).drew
        · go_wp2_with fail
          go_roundg (n - (j + 1))
          case measure => have := hk.out; omega
          case rel =>
            refine ⟨j + 1, by omega, rfl, by go_num, ?_, hx, hb2⟩
            have h1 := hq2.out
            rw [List.take_of_length_le (l := o.kids) (i := m) (by have := HKL.out; omega)] at h1
            rw [flat_take HO.out]
            exact h1
    · go_wp2_with fail
      go_ret
      have h1 := hq.out
      rw [List.take_of_length_le (by have := H.len; omega)] at h1
      exact ⟨⟨w.heap.size + 1, rfl, by omega, h1⟩, hb⟩
end Go.Proofs.YtnolbfijcnldjaaGreatDoor
