/- What is done: the program's OpOk. -/
import Derived.Test.YtjenldenggaljaaOpArg
import Derived.Deep.QuietTactic
import Derived.BigQuiet
namespace Go.Proofs.Ytjenldenggaljaa
open Go.RowKit

def kword (k : Int) : ByteArray := if k = 1 then ⟨#[102, 105, 108, 101]⟩ else if k = 2 then ⟨#[100, 105, 114]⟩ else if k = 3 then ⟨#[103, 111, 110, 101]⟩ else if k = 4 then ⟨#[109, 111, 118, 101]⟩ else if k = 5 then ⟨#[116, 101, 120, 116]⟩ else ⟨#[]⟩
theorem kword_any (k : Int) (w : World) : Calls Try.prog 100 #[.int .i64 k] w fun e w' => e = .returned (.string (kword k)) ∧ w' = w := by
  by_cases h : k = 1 ∨ k = 2 ∨ k = 3 ∨ k = 4 ∨ k = 5
  · rcases h with rfl | rfl | rfl | rfl | rfl <;>
    (go_enter Try.func100, Try.ntmps100; go_wp2; go_ret; exact ⟨rfl, rfl⟩)
  · have e1 : (k == 1) = false := by simp; omega
    have e2 : (k == 2) = false := by simp; omega
    have e3 : (k == 3) = false := by simp; omega
    have e4 : (k == 4) = false := by simp; omega
    have e5 : (k == 5) = false := by simp; omega
    have HV : Hid (kword k = ⟨#[]⟩) := by show _ = _; unfold kword; rw [if_neg (by omega), if_neg (by omega), if_neg (by omega), if_neg (by omega), if_neg (by omega)]
    clear h
    go_enter Try.func100, Try.ntmps100
    go_wp2
    go_ret
    exact ⟨by rw [HV.out]; rfl, rfl⟩
theorem inDir_any (k : Int) (w : World) : Calls Try.prog 130 #[.int .i64 k] w fun e w' => e = .returned (.bool (k != 5)) ∧ w' = w := by
  go_enter Try.func130, Try.ntmps130
  go_wp2
  go_ret
  exact ⟨rfl, rfl⟩
theorem moves_any (k : Int) (w : World) : Calls Try.prog 131 #[.int .i64 k] w fun e w' => e = .returned (.bool (k == 4)) ∧ w' = w := by
  go_enter Try.func131, Try.ntmps131
  go_wp2
  go_ret
  exact ⟨rfl, rfl⟩
theorem writes_any (k : Int) (w : World) : Calls Try.prog 133 #[.int .i64 k] w fun e w' => e = .returned (.bool (k == 5)) ∧ w' = w := by
  go_enter Try.func133, Try.ntmps133
  go_wp2
  go_ret
  exact ⟨rfl, rfl⟩
def placeB (has : Bool) (dir : Int) (name : ByteArray) : Bool := if has then idB dir && word name.data.toList else (dir == 0) && name.toList.isEmpty
def textB (has : Bool) (text : ByteArray) : Bool := if has then body text.data.toList else text.toList.isEmpty
theorem placeOk_any (has : Bool) (dir : Int) (name : ByteArray) (w : World) (hs : name.size ≤ maxLen) : Calls Try.prog 129 #[.bool has, .int .i64 dir, .string name] w fun e w' => e = .returned (.bool (placeB has dir name)) ∧ w' = w := by
  cases has
  · by_cases h : dir = 0
    · subst h
      go_enter Try.func129, Try.ntmps129
      go_wp2
      go_ret
      exact ⟨ret_bool (by simp [placeB]), rfl⟩
    · have t : (dir == 0) = false := by simpa using h
      go_enter Try.func129, Try.ntmps129
      go_wp2
      go_ret
      exact ⟨ret_bool (by simp [placeB, t]), rfl⟩
  · rcases hi : idB dir with _ | _
    · have HI : Hid (idB dir = false) := hi
      clear hi
      go_enter Try.func129, Try.ntmps129
      go_wp2_with (go_at_call 101; refine (isObject_any _ _).mono ?_; rintro e w' ⟨rfl, rfl⟩; rw [HI.out])
      go_ret
      exact ⟨ret_bool (by simp [placeB, HI.out]), rfl⟩
    · have HI : Hid (idB dir = true) := hi
      clear hi
      go_enter Try.func129, Try.ntmps129
      go_wp2_with (first | (go_at_call 101; refine (isObject_any _ _).mono ?_; rintro e w' ⟨rfl, rfl⟩; rw [HI.out]) | (go_at_call 41; refine (implWord _ _ hs).mono ?_; rintro e w' ⟨rfl, rfl⟩))
      go_ret
      exact ⟨ret_bool (by simp [placeB, HI.out]), rfl⟩
theorem textOk_any (has : Bool) (text : ByteArray) (w : World) (hs : text.size ≤ maxLen) : Calls Try.prog 132 #[.bool has, .string text] w fun e w' => e = .returned (.bool (textB has text)) ∧ w' = w := by
  cases has
  · go_enter Try.func132, Try.ntmps132
    go_wp2
    go_ret
    exact ⟨ret_bool (by simp [textB]), rfl⟩
  · go_enter Try.func132, Try.ntmps132
    go_wp2_with (go_at_call 43; refine (implBody _ _ hs).mono ?_; rintro e w' ⟨rfl, rfl⟩)
    go_ret
    exact ⟨ret_bool (by simp [textB]), rfl⟩
def opPartsB (k : Int) (o : LOp) : Bool := placeB (k != 5) o.dir o.name && placeB (k == 4) o.dir2 o.name2 && textB (k == 5) o.text
theorem placeOk_of {has : Bool} {dir : Int} {name : ByteArray} {b : Bool} (h : placeB has dir name = b) (w : World) (hs : name.size ≤ maxLen) : Calls Try.prog 129 #[.bool has, .int .i64 dir, .string name] w fun e w' => e = .returned (.bool b) ∧ w' = w := by
  rw [← h]; exact placeOk_any has dir name w hs
set_option maxHeartbeats 400000 in
theorem opPartsOk_any (k : Int) (o : LOp) (w : World) (hs : OpSz o) : Calls Try.prog 102 #[.int .i64 k, .agg o.val] w fun e w' => e = .returned (.bool (opPartsB k o)) ∧ Below w.heap.size w w' := by
  simp only [LOp.val]
  have hA : ∀ ob q, Below w.heap.size w ((w.alloc ob).drewN q) := fun ob q => ((Below.refl _ _).alloc (Nat.le_refl _) _).trans ((Below.drewN _ _).mono (by simp))
  rcases h1 : placeB (k != 5) o.dir o.name with _ | _
  · have H1 : Hid (placeB (k != 5) o.dir o.name = false) := h1
    clear h1
    go_enter Try.func102, Try.ntmps102
    go_wp2_with fail
    go_quiet (first | (go_at_call 130; exact Calls.quiet_of_same (inDir_any _ _)) | (go_at_call_of 129 (Value.string o.name); exact Calls.quiet_of_same (placeOk_of H1.out _ hs.name)))
    go_wp2_with fail
    go_ret
    exact ⟨ret_bool (by simp [opPartsB, H1.out]), hA _ _⟩
  · have H1 : Hid (placeB (k != 5) o.dir o.name = true) := h1
    clear h1
    rcases h2 : placeB (k == 4) o.dir2 o.name2 with _ | _
    · have H2 : Hid (placeB (k == 4) o.dir2 o.name2 = false) := h2
      clear h2
      go_enter Try.func102, Try.ntmps102
      go_wp2_with fail
      go_quiet (first | (go_at_call 130; exact Calls.quiet_of_same (inDir_any _ _)) | (go_at_call_of 129 (Value.string o.name); exact Calls.quiet_of_same (placeOk_of H1.out _ hs.name)) | (go_at_call 131; exact Calls.quiet_of_same (moves_any _ _)) | (go_at_call_of 129 (Value.string o.name2); exact Calls.quiet_of_same (placeOk_of H2.out _ hs.name2)))
      go_wp2_with fail
      go_ret
      exact ⟨ret_bool (by simp [opPartsB, H2.out]), hA _ _⟩
    · have H2 : Hid (placeB (k == 4) o.dir2 o.name2 = true) := h2
      clear h2
      go_enter Try.func102, Try.ntmps102
      go_wp2_with fail
      go_quiet (first | (go_at_call 130; exact Calls.quiet_of_same (inDir_any _ _)) | (go_at_call_of 129 (Value.string o.name); exact Calls.quiet_of_same (placeOk_of H1.out _ hs.name)) | (go_at_call 131; exact Calls.quiet_of_same (moves_any _ _)) | (go_at_call_of 129 (Value.string o.name2); exact Calls.quiet_of_same (placeOk_of H2.out _ hs.name2)) | (go_at_call 133; exact Calls.quiet_of_same (writes_any _ _)) | (go_at_call 132; exact Calls.quiet_of_same (textOk_any _ _ _ hs.text)))
      go_wp2_with fail
      go_ret
      exact ⟨ret_bool (by simp [opPartsB, H1.out, H2.out]), hA _ _⟩

/-- What the program asks is what the specification asks. -/
theorem opOk_parts (o : LOp) : opOk o = ((kword o.kind).toList.isEmpty == false && (idB o.id && ((o.id != 0) && opPartsB o.kind o))) := by
  obtain ⟨k, d, nm, d2, nm2, id, tx⟩ := o
  have hid : opId ⟨k, d, nm, d2, nm2, id, tx⟩ = (idB id && (id != 0)) := by
    simp only [opId, idB]
    by_cases h : id = 0
    · subst h; simp
    · have h' : (id != 0) = true := by simpa using h
      rw [h', Bool.eq_iff_iff]; simp; omega
  by_cases h1 : k = 1
  · subst h1; simp [opOk, kword, opPartsB, placeB, textB, hid, opSlot, opNone2, Bool.and_assoc]
  by_cases h2 : k = 2
  · subst h2; simp [opOk, kword, opPartsB, placeB, textB, hid, opSlot, opNone2, Bool.and_assoc]
  by_cases h3 : k = 3
  · subst h3; simp [opOk, kword, opPartsB, placeB, textB, hid, opSlot, opNone2, Bool.and_assoc]
  by_cases h4 : k = 4
  · subst h4; simp [opOk, kword, opPartsB, placeB, textB, hid, opSlot, opSlot2, Bool.and_assoc]
  by_cases h5 : k = 5
  · subst h5; simp [opOk, kword, opPartsB, placeB, textB, hid, opNone2, Bool.and_assoc]
  · simp [opOk, kword, h1, h2, h3, h4, h5]

theorem kw1 (w : World) : Calls Try.prog 100 #[.int .i64 1] w fun e w' => e = .returned (.string ⟨#[102, 105, 108, 101]⟩) ∧ w' = w := kword_any 1 w
theorem kw2 (w : World) : Calls Try.prog 100 #[.int .i64 2] w fun e w' => e = .returned (.string ⟨#[100, 105, 114]⟩) ∧ w' = w := kword_any 2 w
theorem kw3 (w : World) : Calls Try.prog 100 #[.int .i64 3] w fun e w' => e = .returned (.string ⟨#[103, 111, 110, 101]⟩) ∧ w' = w := kword_any 3 w
theorem kw4 (w : World) : Calls Try.prog 100 #[.int .i64 4] w fun e w' => e = .returned (.string ⟨#[109, 111, 118, 101]⟩) ∧ w' = w := kword_any 4 w
theorem kw5 (w : World) : Calls Try.prog 100 #[.int .i64 5] w fun e w' => e = .returned (.string ⟨#[116, 101, 120, 116]⟩) ∧ w' = w := kword_any 5 w
theorem kw0 {k : Int} (h : kword k = ⟨#[]⟩) (w : World) : Calls Try.prog 100 #[.int .i64 k] w fun e w' => e = .returned (.string ⟨#[]⟩) ∧ w' = w := by rw [← h]; exact kword_any k w
theorem opOk_kind {o : LOp} (h : o.kind = 1 ∨ o.kind = 2 ∨ o.kind = 3 ∨ o.kind = 4 ∨ o.kind = 5) : opOk o = (idB o.id && ((o.id != 0) && opPartsB o.kind o)) := by
  rw [opOk_parts]
  rcases h with h | h | h | h | h <;> simp [h, kword]
theorem opOk_nokind {o : LOp} (h : ¬ (o.kind = 1 ∨ o.kind = 2 ∨ o.kind = 3 ∨ o.kind = 4 ∨ o.kind = 5)) : opOk o = false ∧ kword o.kind = ⟨#[]⟩ := by
  have hk : kword o.kind = ⟨#[]⟩ := by unfold kword; rw [if_neg (by omega), if_neg (by omega), if_neg (by omega), if_neg (by omega), if_neg (by omega)]
  refine ⟨?_, hk⟩
  unfold opOk
  rw [if_neg (by omega), if_neg (by omega), if_neg (by omega)]

set_option maxHeartbeats 1000000 in
theorem implOpOk (o : LOp) (w : World) (hs : OpSz o) : Calls Try.prog 58 #[.agg o.val] w fun e w' => e = .returned (.bool (opOk o)) ∧ Below w.heap.size w w' := by
  have HPK := fun k w => opPartsOk_any k o w hs
  by_cases hk : o.kind = 1 ∨ o.kind = 2 ∨ o.kind = 3 ∨ o.kind = 4 ∨ o.kind = 5
  · have HV : Hid (opOk o = (idB o.id && ((o.id != 0) && opPartsB o.kind o))) := opOk_kind hk
    obtain ⟨k, d, nm, d2, nm2, id, tx⟩ := o
    simp only [LOp.val] at *
    rcases hi : idB id with _ | _
    · have HI : Hid (idB id = false) := hi
      clear hi HPK
      rcases hk with rfl | rfl | rfl | rfl | rfl
      all_goals
        go_enter Try.func58, Try.ntmps58
        go_wp2_with (first | (go_at_call_of 100 (Value.int IntKind.i64 1); refine (kw1 _).mono ?_; rintro e w' ⟨rfl, rfl⟩) | (go_at_call_of 100 (Value.int IntKind.i64 2); refine (kw2 _).mono ?_; rintro e w' ⟨rfl, rfl⟩) | (go_at_call_of 100 (Value.int IntKind.i64 3); refine (kw3 _).mono ?_; rintro e w' ⟨rfl, rfl⟩) | (go_at_call_of 100 (Value.int IntKind.i64 4); refine (kw4 _).mono ?_; rintro e w' ⟨rfl, rfl⟩) | (go_at_call_of 100 (Value.int IntKind.i64 5); refine (kw5 _).mono ?_; rintro e w' ⟨rfl, rfl⟩) | (go_at_call 101; refine (isObject_any _ _).mono ?_; rintro e w' ⟨rfl, rfl⟩; rw [HI.out]))
        go_ret
        exact ⟨ret_bool (by rw [HV.out, HI.out]; rfl), (Below.refl _ _).alloc (Nat.le_refl _) _⟩
    · have HI : Hid (idB id = true) := hi
      clear hi
      by_cases hz : id = 0
      · subst hz
        clear HPK
        rcases hk with rfl | rfl | rfl | rfl | rfl
        all_goals
          go_enter Try.func58, Try.ntmps58
          go_wp2_with (first | (go_at_call_of 100 (Value.int IntKind.i64 1); refine (kw1 _).mono ?_; rintro e w' ⟨rfl, rfl⟩) | (go_at_call_of 100 (Value.int IntKind.i64 2); refine (kw2 _).mono ?_; rintro e w' ⟨rfl, rfl⟩) | (go_at_call_of 100 (Value.int IntKind.i64 3); refine (kw3 _).mono ?_; rintro e w' ⟨rfl, rfl⟩) | (go_at_call_of 100 (Value.int IntKind.i64 4); refine (kw4 _).mono ?_; rintro e w' ⟨rfl, rfl⟩) | (go_at_call_of 100 (Value.int IntKind.i64 5); refine (kw5 _).mono ?_; rintro e w' ⟨rfl, rfl⟩) | (go_at_call 101; refine (isObject_any _ _).mono ?_; rintro e w' ⟨rfl, rfl⟩; rw [HI.out]))
          go_ret
          exact ⟨ret_bool (by rw [HV.out]; simp), (Below.refl _ _).alloc (Nat.le_refl _) _⟩
      · have t0 : (id != 0) = true := by simpa using hz
        have HT : Hid ((id != 0) = true) := t0
        clear hz
        rcases hk with rfl | rfl | rfl | rfl | rfl
        all_goals
          go_enter Try.func58, Try.ntmps58
          go_wp2_with (first | (go_at_call_of 100 (Value.int IntKind.i64 1); refine (kw1 _).mono ?_; rintro e w' ⟨rfl, rfl⟩) | (go_at_call_of 100 (Value.int IntKind.i64 2); refine (kw2 _).mono ?_; rintro e w' ⟨rfl, rfl⟩) | (go_at_call_of 100 (Value.int IntKind.i64 3); refine (kw3 _).mono ?_; rintro e w' ⟨rfl, rfl⟩) | (go_at_call_of 100 (Value.int IntKind.i64 4); refine (kw4 _).mono ?_; rintro e w' ⟨rfl, rfl⟩) | (go_at_call_of 100 (Value.int IntKind.i64 5); refine (kw5 _).mono ?_; rintro e w' ⟨rfl, rfl⟩) | (go_at_call 101; refine (isObject_any _ _).mono ?_; rintro e w' ⟨rfl, rfl⟩; rw [HI.out]) | (go_at_call 102; refine (HPK _ _).mono ?_; rintro e w9 ⟨rfl, hb9⟩))
          go_ret
          exact ⟨ret_bool (by rw [HV.out, HI.out, HT.out]; simp), ((Below.refl _ _).alloc (Nat.le_refl _) _).trans (hb9.mono (by simp))⟩
  · have HV : Hid (opOk o = false ∧ kword o.kind = ⟨#[]⟩) := opOk_nokind hk
    clear hk HPK
    obtain ⟨k, d, nm, d2, nm2, id, tx⟩ := o
    simp only [LOp.val] at *
    go_enter Try.func58, Try.ntmps58
    go_wp2_with (go_at_call 100; refine (kw0 HV.out.2 _).mono ?_; rintro e w' ⟨rfl, rfl⟩)
    go_ret
    exact ⟨ret_bool (by rw [HV.out.1]), (Below.refl _ _).alloc (Nat.le_refl _) _⟩
end Go.Proofs.Ytjenldenggaljaa
