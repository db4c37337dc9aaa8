/- Lemmas that the proofs of this seat share: Kids12, Obj, OpsAll. -/
import Derived.Test.YtnolbfijcnldjaaGreatDoorV03
import Derived.Deep.DeepCutAuto
import Derived.Deep.QuietTactic
import Derived.BigQuiet
/- Names of a directory, and what is ok of an object: contracts of the program's functions. -/
namespace Go.Proofs.YtnolbfijcnldjaaGreatDoor
open Go.RowKit

theorem less_tri : ∀ a b : List UInt8, (Op.bytesLess a b || a == b) = !Op.bytesLess b a
  | [], [] => rfl
  | [], _ :: _ => rfl
  | _ :: _, [] => rfl
  | a :: x, b :: y => by
    have ih := less_tri x y
    simp only [Op.bytesLess]
    by_cases h1 : a < b
    · have h2 : ¬ b < a := by rw [UInt8.lt_iff_toNat_lt] at *; omega
      have h3 : ¬ b = a := by intro h; rw [h] at h1; exact absurd h1 (by rw [UInt8.lt_iff_toNat_lt]; omega)
      simp [h1, h2, h3]
    · by_cases h2 : b < a
      · have h3 : ¬ a = b := by intro h; rw [h] at h2; exact absurd h2 (by rw [UInt8.lt_iff_toNat_lt]; omega)
        simp [h1, h2, h3]
      · have h3 : a = b := by
          rw [UInt8.lt_iff_toNat_lt] at h1 h2
          exact UInt8.toNat_inj.1 (by omega)
        subst h3
        simp only [h1, decide_false, Bool.false_or, beq_self_eq_true, Bool.true_and]
        rw [← ih]
        cases Op.bytesLess x y <;> simp

def nameLess (a b : LEnt) : Bool := Op.bytesLess a.name.toList b.name.toList
def entB (e : LEnt) : Bool := word e.name.data.toList && decide (0 < e.id) && decide (e.id < 32)
/-- The name at a place is right, and behind the one ahead of it. -/
def kidAt (es : List LEnt) (i : Nat) : Bool :=
  match es[i]? with
  | none => true
  | some e => entB e && (match i with | 0 => true | j + 1 => match es[j]? with | none => true | some p => nameLess p e)
def kidsB (es : List LEnt) : Bool := (List.range es.length).all (kidAt es)
theorem kidsB_no {es : List LEnt} {i : Nat} (hi : i < es.length) (h : kidAt es i = false) : kidsB es = false := by
  unfold kidsB
  rw [List.all_eq_false]
  exact ⟨i, by simpa using hi, by simp [h]⟩
theorem kidsB_yes {es : List LEnt} (h : ∀ i, i < es.length → kidAt es i = true) : kidsB es = true := by
  unfold kidsB
  rw [List.all_eq_true]
  intro i hi
  exact h i (by simpa using hi)
theorem kidAt_ent {es : List LEnt} {i : Nat} {e : LEnt} (h : es[i]? = some e) (k : entB e = false) : kidAt es i = false := by
  unfold kidAt; rw [h]; simp [k]
theorem kidAt_zero {es : List LEnt} {e : LEnt} (h : es[0]? = some e) (k : entB e = true) : kidAt es 0 = true := by
  unfold kidAt; rw [h]; simp [k]
theorem kidAt_succ {es : List LEnt} {i : Nat} {e p : LEnt} (h : es[i + 1]? = some e) (hp : es[i]? = some p) (k : entB e = true) : kidAt es (i + 1) = nameLess p e := by
  unfold kidAt; rw [h]; simp [k, hp]

theorem nodeOf_any (k v : Int) (s : ByteArray) (a : Option Addr) (n c : Nat) (w : World) :
    Calls Tryz.prog 127 #[.agg #[.int .i64 k, .int .i64 v, .string s, .slice a n c]] w fun e w' => e = .returned (.agg #[.int .i64 k, .int .i64 v, .int .i64 (-1), .string ⟨#[]⟩, .string s, .slice a n c]) ∧ Below w.heap.size w w' := by
  go_enter Tryz.func127, Tryz.ntmps127
  go_wp2
  exact bodyPost_ret (v := .agg #[.int .i64 k, .int .i64 v, .int .i64 (-1), .string ⟨#[]⟩, .string s, .slice a n c]) (by simp [results, Tryz.results127, go_sem]) rfl ⟨rfl, by
    repeat (first | exact Below.refl _ _ | refine Below.setCell ?_ (by simp <;> omega) _ | refine Below.alloc ?_ (by simp <;> omega) _)⟩
theorem there_any (k v h : Int) (nm : ByteArray) (w : World) :
    Calls Tryz.prog 136 #[.agg #[.int .i64 k, .int .i64 v, .int .i64 h, .string nm]] w fun e w' => e = .returned (.bool (k != 0)) ∧ w' = w.alloc (.cells #[.int .i64 k, .int .i64 v, .int .i64 h, .string nm] 106) := by
  go_enter Tryz.func136, Tryz.ntmps136
  go_wp2
  go_ret
  exact ⟨rfl, rfl⟩
def verB (k v : Int) : Bool := decide ((if k = 0 then 0 else 1) ≤ v) && decide (v ≤ 1000000)
theorem verOk_any (k v h : Int) (nm : ByteArray) (w : World) :
    Calls Tryz.prog 128 #[.agg #[.int .i64 k, .int .i64 v, .int .i64 h, .string nm]] w fun e w' => e = .returned (.bool (verB k v)) ∧ Below w.heap.size w w' := by
  have hB : ∀ o1 o2, Below w.heap.size w ((w.alloc o1).alloc o2) := fun o1 o2 => ((Below.refl _ _).alloc (Nat.le_refl _) _).alloc (by simp) _
  by_cases hk : k = 0
  · subst hk
    by_cases h0 : 0 ≤ v
    · go_enter Tryz.func128, Tryz.ntmps128
      go_wp2_with (go_at_call 136; refine (there_any _ _ _ _ _).mono ?_; rintro e w' ⟨rfl, rfl⟩)
      go_ret
      exact ⟨ret_bool (by simp [verB, h0]), hB _ _⟩
    · go_enter Tryz.func128, Tryz.ntmps128
      go_wp2_with (go_at_call 136; refine (there_any _ _ _ _ _).mono ?_; rintro e w' ⟨rfl, rfl⟩)
      go_ret
      exact ⟨ret_bool (by simp [verB]; omega), hB _ _⟩
  · have t : (k != 0) = true := by simpa using hk
    have HK : Hid (k ≠ 0) := hk
    clear hk
    by_cases h0 : 1 ≤ v
    · go_enter Tryz.func128, Tryz.ntmps128
      go_wp2_with (go_at_call 136; refine (there_any _ _ _ _ _).mono ?_; rintro e w' ⟨rfl, rfl⟩)
      go_ret
      exact ⟨ret_bool (by simp [verB, h0, HK.out]), hB _ _⟩
    · go_enter Tryz.func128, Tryz.ntmps128
      go_wp2_with (go_at_call 136; refine (there_any _ _ _ _ _).mono ?_; rintro e w' ⟨rfl, rfl⟩)
      go_ret
      exact ⟨ret_bool (by simp [verB, HK.out]; omega), hB _ _⟩

theorem entB_word {e : LEnt} (h : word e.name.data.toList = false) : entB e = false := by simp [entB, h]
theorem entB_lo {e : LEnt} (h : e.id ≤ 0) : entB e = false := by simp [entB]; omega
theorem entB_hi {e : LEnt} (h : 32 ≤ e.id) : entB e = false := by simp [entB]; omega
theorem entB_yes {e : LEnt} (h : word e.name.data.toList = true) (h1 : 0 < e.id) (h2 : e.id < 32) : entB e = true := by simp [entB, h, h1, h2]

def idB (i : Int) : Bool := decide (0 ≤ i) && decide (i < 32)
theorem isObject_any (i : Int) (w : World) : Calls Tryz.prog 78 #[.int .i64 i] w fun e w' => e = .returned (.bool (idB i)) ∧ w' = w := by
  by_cases h0 : 0 ≤ i
  · go_enter Tryz.func78, Tryz.ntmps78
    go_wp2
    go_ret
    exact ⟨ret_bool (by simp [idB, h0]), rfl⟩
  · go_enter Tryz.func78, Tryz.ntmps78
    go_wp2
    go_ret
    exact ⟨ret_bool (by simp [idB]; omega), rfl⟩
theorem isObject_yes {i : Int} (h0 : 0 ≤ i) (h1 : i < 32) (w : World) : Calls Tryz.prog 78 #[.int .i64 i] w fun e w' => e = .returned (.bool true) ∧ w' = w := by
  have : idB i = true := by simp [idB, h0, h1]
  rw [← this]; exact isObject_any i w
theorem isObject_no {i : Int} (h : i < 0 ∨ 32 ≤ i) (w : World) : Calls Tryz.prog 78 #[.int .i64 i] w fun e w' => e = .returned (.bool false) ∧ w' = w := by
  have : idB i = false := by simp [idB]; omega
  rw [← this]; exact isObject_any i w

set_option maxHeartbeats 1000000 in
theorem implKidsOk (a : Option Addr) (n c : Nat) (es : List LEnt) (L U : Nat) (w : World) (hU : U ≤ w.heap.size) (H : EntsAt w L U a n es) :
    Calls Tryz.prog 176 #[.slice a n c] w fun e w' => e = .returned (.bool (kidsB es)) ∧ Below w.heap.size w w' := by
  have hbd := H.bd
  have hlen := H.len
  unfold maxLen at hbd
  have HL : Hid (n = es.length) := hlen
  clear hlen
  go_enter Tryz.func176, Tryz.ntmps176
  go_wp2
  go_loopg [7] n (fun k i wr => ∃ j : Nat, j ≤ n ∧ Hid (k = n - j) ∧ i = .int .i64 j ∧ Hid (∀ i, i < j → kidAt es i = true) ∧ Below w.heap.size w wr)
  case atStart => exact ⟨0, Nat.zero_le _, by show _ = _; omega, rfl, fun i hi => by omega, Below.refl _ _⟩
  case round =>
    obtain ⟨j, hj, hk, rfl, hq, hb⟩ := hrel
    by_cases hlt : j < n
    · obtain ⟨b, off, ha, hL, hbU, hc⟩ := H.at_ (by omega)
      subst ha
      obtain ⟨e, he, hsz, hc0, hc1⟩ := hc j hlt
      rw [← hb.cell (by simp; omega)] at hc0 hc1
      have HE : Hid (es[j]? = some e) := he
      clear he
      have hs1 := hb.size
      have hbl : b < wr.heap.size := by omega
      have hB : ∀ o1, Below w.heap.size w (wr.alloc o1) := fun o1 => hb.alloc hs1 _
      have hlt' : (j : Int) < (n : Int) := by omega
      have hjE : j < es.length := by have := HL.out; omega
      cases hw : word e.name.data.toList
      · have HW : Hid (word e.name.data.toList = false) := hw
        clear hw hc
        go_wp2_with (go_at_call 199; refine (implWord _ _ hsz).mono ?_; rintro x w1 ⟨rfl, rfl⟩; rw [HW.out])
        go_ret
        exact ⟨ret_bool (kidsB_no hjE (kidAt_ent HE.out (entB_word HW.out))).symm, hB _⟩
      · have HW : Hid (word e.name.data.toList = true) := hw
        clear hw
        by_cases h0 : e.id < 0
        · clear hc
          go_wp2_with (first | (go_at_call 199; refine (implWord _ _ hsz).mono ?_; rintro x w1 ⟨rfl, rfl⟩; rw [HW.out]) | (go_at_call 78; refine (isObject_no (.inl h0) _).mono ?_; rintro x w1 ⟨rfl, rfl⟩))
          go_ret
          exact ⟨ret_bool (kidsB_no hjE (kidAt_ent HE.out (entB_lo (by omega)))).symm, hB _⟩
        by_cases h1 : e.id = 0
        · have HZ : Hid (entB e = false) := entB_lo (by omega)
          rw [h1] at hc1
          clear hc h1 h0
          go_wp2_with (first | (go_at_call 199; refine (implWord _ _ hsz).mono ?_; rintro x w1 ⟨rfl, rfl⟩; rw [HW.out]) | (go_at_call 78; refine (isObject_yes (i := 0) (by decide) (by decide) _).mono ?_; rintro x w1 ⟨rfl, rfl⟩))
          go_ret
          exact ⟨ret_bool (kidsB_no hjE (kidAt_ent HE.out HZ.out)).symm, hB _⟩
        have t0 : (e.id == 0) = false := by simpa using h1
        by_cases h2 : 32 ≤ e.id
        · clear hc
          go_wp2_with (first | (go_at_call 199; refine (implWord _ _ hsz).mono ?_; rintro x w1 ⟨rfl, rfl⟩; rw [HW.out]) | (go_at_call 78; refine (isObject_no (.inr h2) _).mono ?_; rintro x w1 ⟨rfl, rfl⟩))
          go_ret
          exact ⟨ret_bool (kidsB_no hjE (kidAt_ent HE.out (entB_hi h2))).symm, hB _⟩
        have HY : Hid (entB e = true) := entB_yes HW.out (by omega) (by omega)
        by_cases hj0 : j = 0
        · subst hj0
          clear hc
          simp only [Nat.zero_mul, Nat.add_zero] at hc0 hc1
          go_wp2_with (first | (go_at_call 199; refine (implWord _ _ hsz).mono ?_; rintro x w1 ⟨rfl, rfl⟩; rw [HW.out]) | (go_at_call 78; refine (isObject_yes (by omega) (by omega) _).mono ?_; rintro x w1 ⟨rfl, rfl⟩))
          go_quiet (fail)
          go_wp2_with fail
          go_roundg (n - (0 + 1))
          case measure => have := hk.out; omega
          case rel =>
            refine ⟨1, by omega, rfl, by go_num, fun i hi => ?_, (hB _).trans ((Below.drewN _ _).mono (by simp; omega))⟩
            have : i = 0 := by omega
            subst this
            exact kidAt_zero HE.out HY.out
        · obtain ⟨jp, rfl⟩ : ∃ jp, j = jp + 1 := ⟨j - 1, by omega⟩
          obtain ⟨p, hp, hpz, hp0, hp1⟩ := hc jp (by omega)
          rw [← hb.cell (by simp; omega)] at hp0
          have HP : Hid (es[jp]? = some p) := hp
          clear hp hc hp1
          have hgt : (0 : Int) < ((jp + 1 : Nat) : Int) := by omega
          cases hl : nameLess p e
          · have t1 : Op.bytesLess p.name.toList e.name.toList = false := hl
            have HN : Hid (nameLess p e = false) := hl
            clear hl
            go_wp2_with (first | (go_at_call 199; refine (implWord _ _ hsz).mono ?_; rintro x w1 ⟨rfl, rfl⟩; rw [HW.out]) | (go_at_call 78; refine (isObject_yes (by omega) (by omega) _).mono ?_; rintro x w1 ⟨rfl, rfl⟩))
            go_quiet (fail)
            go_wp2_with fail
            go_ret
            exact ⟨ret_bool (kidsB_no hjE (by rw [kidAt_succ HE.out HP.out HY.out]; exact HN.out)).symm, (hB _).trans ((Below.drewN _ _).mono (by simp; omega))⟩
          · have t1 : Op.bytesLess p.name.toList e.name.toList = true := hl
            have HN : Hid (nameLess p e = true) := hl
            clear hl
            go_wp2_with (first | (go_at_call 199; refine (implWord _ _ hsz).mono ?_; rintro x w1 ⟨rfl, rfl⟩; rw [HW.out]) | (go_at_call 78; refine (isObject_yes (by omega) (by omega) _).mono ?_; rintro x w1 ⟨rfl, rfl⟩))
            go_quiet (fail)
            go_wp2_with fail
            go_roundg (n - (jp + 1 + 1))
            case measure => have := hk.out; omega
            case rel =>
              refine ⟨jp + 1 + 1, by omega, rfl, by go_num, fun i hi => ?_, (hB _).trans ((Below.drewN _ _).mono (by simp; omega))⟩
              by_cases e : i = jp + 1
              · subst e
                rw [kidAt_succ HE.out HP.out HY.out]
                exact HN.out
              · exact hq.out i (by omega)
    · go_wp2_with fail
      go_ret
      exact ⟨ret_bool (kidsB_yes (fun i hi => hq.out i (by have := HL.out; omega))).symm, hb⟩
end Go.Proofs.YtnolbfijcnldjaaGreatDoor

/- Names of a directory: contracts of the functions of the specification. -/
namespace Go.Proofs.YtnolbfijcnldjaaGreatDoor
open Go.RowKit

theorem EntsAt.drewN {w : World} {L U : Nat} {a : Option Addr} {n : Nat} {es : List LEnt} (h : EntsAt w L U a n es) (m : Nat) : EntsAt (w.drewN m) L U a n es := h.below (B := U) ⟨rfl, rfl, rfl, Nat.le_refl _, fun _ _ => rfl⟩ (Nat.le_refl _)
theorem ObjsAt.drewN {w : World} {L U : Nat} {a : Option Addr} {n : Nat} {os : List LObj} (h : ObjsAt w L U a n os) (m : Nat) : ObjsAt (w.drewN m) L U a n os := h.below (B := U) ⟨rfl, rfl, rfl, Nat.le_refl _, fun _ _ => rfl⟩ (Nat.le_refl _)
theorem specWord_of {s : ByteArray} {b : Bool} (h : word s.data.toList = b) (w : World) (hs : s.size ≤ maxLen) :
    Calls Tryz.prog 89 #[.string s] w fun e w' => e = .returned (.bool b) ∧ w' = w := by rw [← h]; exact specWord s w hs
theorem l1Id_yes (i : Int) (h0 : 0 ≤ i) (h1 : i < 32) (w : World) :
    Calls Tryz.prog 88 #[.int .i64 i] w fun e w' => e = .returned (.bool true) ∧ w' = w := by
  go_enter Tryz.func88, Tryz.ntmps88
  go_wp2
  go_ret
  exact ⟨ret_bool (by simp), rfl⟩
theorem l1Id_no (i : Int) (h : i < 0 ∨ 32 ≤ i) (w : World) :
    Calls Tryz.prog 88 #[.int .i64 i] w fun e w' => e = .returned (.bool false) ∧ w' = w := by
  by_cases h0 : 0 ≤ i
  · have h1 : ¬ i < 32 := by omega
    go_enter Tryz.func88, Tryz.ntmps88
    go_wp2
    go_ret
    exact ⟨ret_bool (by simp), rfl⟩
  · go_enter Tryz.func88, Tryz.ntmps88
    go_wp2
    go_ret
    exact ⟨rfl, rfl⟩

set_option maxHeartbeats 1000000 in
theorem specKidsOk (a : Option Addr) (n c : Nat) (es : List LEnt) (L U : Nat) (w : World) (H : EntsAt w L U a n es) :
    Calls Tryz.prog 125 #[.slice a n c] w fun e w' => e = .returned (.bool (kidsB es)) ∧ ∃ m, w' = w.drewN m := by
  have hbd := H.bd
  have hlen := H.len
  unfold maxLen at hbd
  have HL : Hid (n = es.length) := hlen
  clear hlen
  go_enter Tryz.func125, Tryz.ntmps125
  go_wp2
  go_loopg [3] n (fun k i wr => ∃ j : Nat, j ≤ n ∧ Hid (k = n - j) ∧ i = .int .i64 j ∧ Hid (∀ i, i < j → kidAt es i = true) ∧ Hid (∃ m, wr = w.drewN m))
  case atStart => exact ⟨0, Nat.zero_le _, by show _ = _; omega, rfl, fun i hi => by omega, ⟨0, rfl⟩⟩
  case round =>
    obtain ⟨j, hj, hk, rfl, hq, hb⟩ := hrel
    have Hr : EntsAt wr L U a n es := by obtain ⟨m, hm⟩ := hb.out; rw [hm]; exact H.drewN m
    by_cases hlt : j < n
    · obtain ⟨b, off, ha, hL, hbU, hc⟩ := Hr.at_ (by omega)
      subst ha
      obtain ⟨e, he, hsz, hc0, hc1⟩ := hc j hlt
      have HE : Hid (es[j]? = some e) := he
      clear he
      have hlt' : (j : Int) < (n : Int) := by omega
      have hjE : j < es.length := by have := HL.out; omega
      cases hw : word e.name.data.toList
      · have HW : Hid (word e.name.data.toList = false) := hw
        clear hw hc
        go_wp2_with fail
        go_quiet ((go_at_call 89; exact Calls.quiet_of_same (specWord_of HW.out _ hsz)))
        go_wp2_with fail
        go_ret
        exact ⟨ret_bool (kidsB_no hjE (kidAt_ent HE.out (entB_word HW.out))).symm, by obtain ⟨m, hm⟩ := hb.out; exact ⟨m + nq, by rw [hm, World.drewN_drewN]⟩⟩
      · have HW : Hid (word e.name.data.toList = true) := hw
        clear hw
        by_cases h1 : e.id < 1
        · clear hc
          go_wp2_with fail
          go_quiet ((go_at_call 89; exact Calls.quiet_of_same (specWord_of HW.out _ hsz)))
          go_wp2_with fail
          go_ret
          exact ⟨ret_bool (kidsB_no hjE (kidAt_ent HE.out (entB_lo (by omega)))).symm, by obtain ⟨m, hm⟩ := hb.out; exact ⟨m + nq, by rw [hm, World.drewN_drewN]⟩⟩
        have h1' : decide (e.id < 1) = false := by simpa using h1
        by_cases h2 : 32 ≤ e.id
        · clear hc
          go_wp2_with fail
          go_quiet (first | (go_at_call 89; exact Calls.quiet_of_same (specWord_of HW.out _ hsz)) | (go_at_call 88; exact Calls.quiet_of_same (l1Id_no _ (.inr h2) _)))
          go_wp2_with fail
          go_ret
          exact ⟨ret_bool (kidsB_no hjE (kidAt_ent HE.out (entB_hi h2))).symm, by obtain ⟨m, hm⟩ := hb.out; exact ⟨m + nq, by rw [hm, World.drewN_drewN]⟩⟩
        have HY : Hid (entB e = true) := entB_yes HW.out (by omega) (by omega)
        have h3 : 0 ≤ e.id := by omega
        have h4 : e.id < 32 := by omega
        by_cases hj0 : j = 0
        · subst hj0
          clear hc
          simp only [Nat.zero_mul, Nat.add_zero] at hc0 hc1
          go_wp2_with fail
          go_quiet (first | (go_at_call 89; exact Calls.quiet_of_same (specWord_of HW.out _ hsz)) | (go_at_call 88; exact Calls.quiet_of_same (l1Id_yes _ h3 h4 _)))
          go_wp2_with fail
          go_roundg (n - (0 + 1))
          case measure => have := hk.out; omega
          case rel =>
            refine ⟨1, by omega, rfl, by go_num, fun i hi => ?_, by obtain ⟨m, hm⟩ := hb.out; exact ⟨m + nq, by rw [hm, World.drewN_drewN]⟩⟩
            have : i = 0 := by omega
            subst this
            exact kidAt_zero HE.out HY.out
        · obtain ⟨jp, rfl⟩ : ∃ jp, j = jp + 1 := ⟨j - 1, by omega⟩
          obtain ⟨p, hp, hpz, hp0, hp1⟩ := hc jp (by omega)
          have HP : Hid (es[jp]? = some p) := hp
          clear hp hc hp1
          have hgt : (0 : Int) < ((jp + 1 : Nat) : Int) := by omega
          have tri := less_tri e.name.toList p.name.toList
          cases hl : nameLess p e
          · have t1 : (Op.bytesLess e.name.toList p.name.toList || e.name.toList == p.name.toList) = true := by
              rw [tri]; unfold nameLess at hl; rw [hl]; rfl
            have HN : Hid (nameLess p e = false) := hl
            clear hl tri
            go_wp2_with fail
            go_quiet (first | (go_at_call 89; exact Calls.quiet_of_same (specWord_of HW.out _ hsz)) | (go_at_call 88; exact Calls.quiet_of_same (l1Id_yes _ h3 h4 _)))
            go_wp2_with fail
            go_ret
            exact ⟨ret_bool (kidsB_no hjE (by rw [kidAt_succ HE.out HP.out HY.out]; exact HN.out)).symm, by obtain ⟨m, hm⟩ := hb.out; exact ⟨m + nq, by rw [hm, World.drewN_drewN]⟩⟩
          · have t1 : (Op.bytesLess e.name.toList p.name.toList || e.name.toList == p.name.toList) = false := by
              rw [tri]; unfold nameLess at hl; rw [hl]; rfl
            have HN : Hid (nameLess p e = true) := hl
            clear hl tri
            go_wp2_with fail
            go_quiet (first | (go_at_call 89; exact Calls.quiet_of_same (specWord_of HW.out _ hsz)) | (go_at_call 88; exact Calls.quiet_of_same (l1Id_yes _ h3 h4 _)))
            go_wp2_with fail
            go_roundg (n - (jp + 1 + 1))
            case measure => have := hk.out; omega
            case rel =>
              refine ⟨jp + 1 + 1, by omega, rfl, by go_num, fun i hi => ?_, by obtain ⟨m, hm⟩ := hb.out; exact ⟨m + nq, by rw [hm, World.drewN_drewN]⟩⟩
              by_cases e : i = jp + 1
              · subst e
                rw [kidAt_succ HE.out HP.out HY.out]
                exact HN.out
              · exact hq.out i (by omega)
    · go_wp2_with fail
      go_ret
      exact ⟨ret_bool (kidsB_yes (fun i hi => hq.out i (by have := HL.out; omega))).symm, hb.out⟩
end Go.Proofs.YtnolbfijcnldjaaGreatDoor

/- What is ok of one object: contracts of the program and of the specification. -/
namespace Go.Proofs.YtnolbfijcnldjaaGreatDoor
open Go.RowKit

def emp (s : ByteArray) : Bool := s.toList.isEmpty
def nil? (n : Nat) : Bool := decide (n = 0)
theorem nil_eq (n : Nat) : ((n : Int) == 0) = nil? n := by unfold nil?; rw [Bool.eq_iff_iff]; simp
def partsB (o : LObj) : Bool :=
  if o.kind = 0 then emp o.text && nil? o.kids.length
  else if o.kind = 1 then body o.text.data.toList && nil? o.kids.length
  else if o.kind = 2 then emp o.text && kidsB o.kids
  else false
def objB (o : LObj) : Bool := verB o.kind o.ver && partsB o

theorem implBody_of {s : ByteArray} {b : Bool} (h : body s.data.toList = b) (w : World) (hs : s.size ≤ maxLen) :
    Calls Tryz.prog 175 #[.string s] w fun e w' => e = .returned (.bool b) ∧ w' = w := by rw [← h]; exact implBody s w hs
theorem specBody_of {s : ByteArray} {b : Bool} (h : body s.data.toList = b) (w : World) (hs : s.size ≤ maxLen) :
    Calls Tryz.prog 90 #[.string s] w fun e w' => e = .returned (.bool b) ∧ w' = w := by rw [← h]; exact specBody s w hs

set_option maxHeartbeats 1000000 in
theorem partsOk_any (k v h : Int) (nm s : ByteArray) (a : Option Addr) (n c : Nat) (es : List LEnt) (L U : Nat) (w : World) (hU : U ≤ w.heap.size) (hs : s.size ≤ maxLen) (H : EntsAt w L U a n es) :
    Calls Tryz.prog 129 #[.agg #[.int .i64 k, .int .i64 v, .int .i64 h, .string nm, .string s, .slice a n c]] w fun e w' => e = .returned (.bool (partsB ⟨k, v, s, es⟩)) ∧ Below w.heap.size w w' := by
  have hB : ∀ o1, Below w.heap.size w (w.alloc o1) := fun o1 => (Below.refl _ _).alloc (Nat.le_refl _) _
  have hlen := H.len
  have HL : Hid (n = es.length) := hlen
  clear hlen
  by_cases hk0 : k = 0
  · subst hk0
    cases he : s.toList.isEmpty
    · have HEm : Hid (emp s = false) := he
      go_enter Tryz.func129, Tryz.ntmps129
      go_wp2_with fail
      go_ret
      exact ⟨ret_bool (by simp [partsB, HEm.out]), hB _⟩
    · have HEm : Hid (emp s = true) := he
      go_enter Tryz.func129, Tryz.ntmps129
      go_wp2_with fail
      go_ret
      exact ⟨ret_bool (by simp only [partsB, HEm.out, ← HL.out, nil_eq]; rfl), hB _⟩
  by_cases hk1 : k = 1
  · subst hk1
    cases hb : body s.data.toList
    · have HBy : Hid (body s.data.toList = false) := hb
      clear hb
      go_enter Tryz.func129, Tryz.ntmps129
      go_wp2_with (go_at_call 175; refine (implBody_of HBy.out _ hs).mono ?_; rintro x w1 ⟨rfl, rfl⟩)
      go_ret
      exact ⟨ret_bool (by simp [partsB, HBy.out]), hB _⟩
    · have HBy : Hid (body s.data.toList = true) := hb
      clear hb
      go_enter Tryz.func129, Tryz.ntmps129
      go_wp2_with (go_at_call 175; refine (implBody_of HBy.out _ hs).mono ?_; rintro x w1 ⟨rfl, rfl⟩)
      go_ret
      exact ⟨ret_bool (by simp only [partsB, HBy.out, ← HL.out, nil_eq]; rfl), hB _⟩
  by_cases hk2 : k = 2
  · subst hk2
    cases he : s.toList.isEmpty
    · have HEm : Hid (emp s = false) := he
      go_enter Tryz.func129, Tryz.ntmps129
      go_wp2_with fail
      go_ret
      exact ⟨ret_bool (by simp [partsB, HEm.out]), hB _⟩
    · have HEm : Hid (emp s = true) := he
      go_enter Tryz.func129, Tryz.ntmps129
      go_wp2_with fail
      refine (implKidsOk _ _ _ _ L U _ (by simp; omega) (H.below (hB _) hU)).mono ?_
      rintro x w1 ⟨rfl, hb1⟩
      go_wp2_with fail
      go_ret
      exact ⟨ret_bool (by simp [partsB, HEm.out]), (hB _).trans (hb1.mono (by simp))⟩
  · have t0 : (k == 0) = false := by simpa using hk0
    have t1 : (k == 1) = false := by simpa using hk1
    have t2 : (k == 2) = false := by simpa using hk2
    have HK : Hid (k ≠ 0 ∧ k ≠ 1 ∧ k ≠ 2) := ⟨hk0, hk1, hk2⟩
    clear hk0 hk1 hk2
    go_enter Tryz.func129, Tryz.ntmps129
    go_wp2_with fail
    go_ret
    exact ⟨ret_bool (by simp [partsB, HK.out.1, HK.out.2.1, HK.out.2.2]), hB _⟩

theorem objB_lo {o : LObj} (h : o.ver < 0) : objB o = false := by
  unfold objB verB
  have : ¬ (if o.kind = 0 then (0 : Int) else 1) ≤ o.ver := by split <;> omega
  simp [this]
theorem objB_hi {o : LObj} (h : 1000000 < o.ver) : objB o = false := by
  have : ¬ o.ver ≤ 1000000 := by omega
  simp [objB, verB, this]
theorem objB_parts {o : LObj} (h : partsB o = false) : objB o = false := by simp [objB, h]
theorem objB_0 {o : LObj} (h0 : 0 ≤ o.ver) (h1 : o.ver ≤ 1000000) (hk : o.kind = 0) : objB o = partsB o := by
  simp [objB, verB, hk, h0, h1]
theorem objB_n {o : LObj} (h1 : o.ver ≤ 1000000) (hk : o.kind ≠ 0) : objB o = (partsB o && decide (0 < o.ver)) := by
  have : decide (1 ≤ o.ver) = decide (0 < o.ver) := by rw [Bool.eq_iff_iff]; simp; omega
  simp [objB, verB, hk, h1, this, Bool.and_comm]

set_option maxHeartbeats 1000000 in
theorem l1Obj_any (k v : Int) (s : ByteArray) (a : Option Addr) (n c : Nat) (es : List LEnt) (L U : Nat) (w : World) (hU : U ≤ w.heap.size) (hs : s.size ≤ maxLen) (H : EntsAt w L U a n es) :
    Calls Tryz.prog 71 #[.agg #[.int .i64 k, .int .i64 v, .string s, .slice a n c]] w fun e w' => e = .returned (.bool (objB ⟨k, v, s, es⟩)) ∧ Below w.heap.size w w' := by
  have hB : ∀ o1, Below w.heap.size w (w.alloc o1) := fun o1 => (Below.refl _ _).alloc (Nat.le_refl _) _
  have hlen := H.len
  have HL : Hid (n = es.length) := hlen
  clear hlen
  by_cases hv0 : v < 0
  · go_enter Tryz.func71, Tryz.ntmps71
    go_wp2_with fail
    go_ret
    exact ⟨ret_bool (objB_lo (o := ⟨k, v, s, es⟩) hv0).symm, hB _⟩
  by_cases hv1 : 1000000 < v
  · go_enter Tryz.func71, Tryz.ntmps71
    go_wp2_with fail
    go_ret
    exact ⟨ret_bool (objB_hi (o := ⟨k, v, s, es⟩) hv1).symm, hB _⟩
  have hw0 : 0 ≤ v := by omega
  have hw1 : v ≤ 1000000 := by omega
  have HV0 : Hid (0 ≤ v) := hw0
  have HV1 : Hid (v ≤ 1000000) := hw1
  clear hv0 hv1
  by_cases hk0 : k = 0
  · subst hk0
    cases he : s.toList.isEmpty
    · have HEm : Hid (emp s = false) := he
      go_enter Tryz.func71, Tryz.ntmps71
      go_wp2_with fail
      go_ret
      exact ⟨ret_bool (by rw [objB_0 (o := ⟨0, v, s, es⟩) HV0.out HV1.out rfl]; simp [partsB, HEm.out]), hB _⟩
    · have HEm : Hid (emp s = true) := he
      go_enter Tryz.func71, Tryz.ntmps71
      go_wp2_with fail
      go_ret
      exact ⟨ret_bool (by rw [objB_0 (o := ⟨0, v, s, es⟩) HV0.out HV1.out rfl]; simp only [partsB, HEm.out, ← HL.out, nil_eq]; rfl), hB _⟩
  by_cases hk1 : k = 1
  · subst hk1
    cases hb : body s.data.toList
    · have HBy : Hid (body s.data.toList = false) := hb
      clear hb
      go_enter Tryz.func71, Tryz.ntmps71
      go_wp2_with (go_at_call 90; refine (specBody_of HBy.out _ hs).mono ?_; rintro x w1 ⟨rfl, rfl⟩)
      go_ret
      exact ⟨ret_bool (by rw [objB_parts (o := ⟨1, v, s, es⟩) (by simp [partsB, HBy.out])]), hB _⟩
    · have HBy : Hid (body s.data.toList = true) := hb
      clear hb
      by_cases hn : n = 0
      · have t : ((n : Int) == 0) = true := by simpa using hn
        have HN : Hid (n = 0) := hn
        clear hn
        go_enter Tryz.func71, Tryz.ntmps71
        go_wp2_with (go_at_call 90; refine (specBody_of HBy.out _ hs).mono ?_; rintro x w1 ⟨rfl, rfl⟩)
        go_ret
        exact ⟨ret_bool (by rw [objB_n (o := ⟨1, v, s, es⟩) HV1.out (by simp)]; simp [partsB, HBy.out, nil?, ← HL.out, HN.out]), hB _⟩
      · have t : ((n : Int) == 0) = false := by simpa using hn
        have HN : Hid (n ≠ 0) := hn
        clear hn
        go_enter Tryz.func71, Tryz.ntmps71
        go_wp2_with (go_at_call 90; refine (specBody_of HBy.out _ hs).mono ?_; rintro x w1 ⟨rfl, rfl⟩)
        go_ret
        exact ⟨ret_bool (by rw [objB_parts (o := ⟨1, v, s, es⟩) (by simp [partsB, HBy.out, nil?, ← HL.out, HN.out])]), hB _⟩
  by_cases hk2 : k = 2
  · subst hk2
    cases he : s.toList.isEmpty
    · have HEm : Hid (emp s = false) := he
      go_enter Tryz.func71, Tryz.ntmps71
      go_wp2_with fail
      go_ret
      exact ⟨ret_bool (by rw [objB_parts (o := ⟨2, v, s, es⟩) (by simp [partsB, HEm.out])]), hB _⟩
    · have HEm : Hid (emp s = true) := he
      go_enter Tryz.func71, Tryz.ntmps71
      go_wp2_with fail
      refine (specKidsOk _ _ _ _ L U _ (H.below (hB _) hU)).mono ?_
      rintro x w1 ⟨rfl, m, rfl⟩
      cases hkb : kidsB es
      · have HKB : Hid (kidsB es = false) := hkb
        clear hkb
        go_wp2_with fail
        go_ret
        exact ⟨ret_bool (by rw [objB_parts (o := ⟨2, v, s, es⟩) (by simp [partsB, HKB.out])]), (hB _).trans ((Below.drewN _ _).mono (by simp))⟩
      · have HKB : Hid (kidsB es = true) := hkb
        clear hkb
        go_wp2_with fail
        go_ret
        exact ⟨ret_bool (by rw [objB_n (o := ⟨2, v, s, es⟩) HV1.out (by simp)]; simp [partsB, HKB.out, HEm.out]), (hB _).trans ((Below.drewN _ _).mono (by simp))⟩
  · have t0 : (k == 0) = false := by simpa using hk0
    have t1 : (k == 1) = false := by simpa using hk1
    have t2 : (k == 2) = false := by simpa using hk2
    have HK : Hid (k ≠ 0 ∧ k ≠ 1 ∧ k ≠ 2) := ⟨hk0, hk1, hk2⟩
    clear hk0 hk1 hk2
    go_enter Tryz.func71, Tryz.ntmps71
    go_wp2_with fail
    go_ret
    exact ⟨ret_bool (by rw [objB_parts (o := ⟨k, v, s, es⟩) (by simp [partsB, HK.out.1, HK.out.2.1, HK.out.2.2])]), hB _⟩
end Go.Proofs.YtnolbfijcnldjaaGreatDoor

/- What is done: whether it can be done at all. -/
namespace Go.Proofs.YtnolbfijcnldjaaGreatDoor
open Go.RowKit

structure LOp where
  kind : Int
  dir : Int
  name : ByteArray
  dir2 : Int
  name2 : ByteArray
  id : Int
  text : ByteArray
def LOp.val (o : LOp) : Array Value := #[.int .i64 o.kind, .int .i64 o.dir, .string o.name, .int .i64 o.dir2, .string o.name2, .int .i64 o.id, .string o.text]
theorem l1Id_any (i : Int) (w : World) : Calls Tryz.prog 88 #[.int .i64 i] w fun e w' => e = .returned (.bool (idB i)) ∧ w' = w := by
  by_cases h0 : 0 ≤ i
  · by_cases h1 : i < 32
    · have : idB i = true := by simp [idB, h0, h1]
      rw [this]; exact l1Id_yes i h0 h1 w
    · have : idB i = false := by simp [idB, h1]
      rw [this]; exact l1Id_no i (.inr (by omega)) w
  · have : idB i = false := by simp [idB, h0]
    rw [this]; exact l1Id_no i (.inl (by omega)) w
def opId (o : LOp) : Bool := decide (1 ≤ o.id) && idB o.id
def opSlot (o : LOp) : Bool := idB o.dir && word o.name.data.toList
def opSlot2 (o : LOp) : Bool := idB o.dir2 && word o.name2.data.toList
def opNone2 (o : LOp) : Bool := (o.dir2 == 0) && o.name2.toList.isEmpty
def opOk (o : LOp) : Bool :=
  if o.kind = 1 ∨ o.kind = 2 ∨ o.kind = 3 then opId o && opSlot o && opNone2 o && o.text.toList.isEmpty
  else if o.kind = 4 then opId o && opSlot o && opSlot2 o && o.text.toList.isEmpty
  else if o.kind = 5 then opId o && (o.dir == 0) && o.name.toList.isEmpty && opNone2 o && body o.text.data.toList
  else false

set_option maxHeartbeats 2000000 in
set_option maxRecDepth 20000 in
theorem opOk_any (o : LOp) (w : World) (h1 : o.name.size ≤ maxLen) (h2 : o.name2.size ≤ maxLen) (h3 : o.text.size ≤ maxLen) :
    Calls Tryz.prog 33 #[.agg o.val] w fun e w' => e = .returned (.bool (opOk o)) ∧ w' = w.alloc (.cells o.val 27) := by
  obtain ⟨k, d, nm, d2, nm2, id, tx⟩ := o
  simp only [LOp.val] at *
  go_enter Tryz.func33, Tryz.ntmps33
  go_upto_region 1 with fail
  go_cut [3] (fun s wx => s = .bool (opId ⟨k, d, nm, d2, nm2, id, tx⟩) ∧ wx = w.alloc (.cells #[.int .i64 k, .int .i64 d, .string nm, .int .i64 d2, .string nm2, .int .i64 id, .string tx] 27))
  case first =>
    by_cases hi : 1 ≤ id
    · go_wp2_with fail
      refine (l1Id_any _ _).mono ?_
      rintro x w1 ⟨rfl, rfl⟩
      go_wp2_with fail
      go_meet
      exact ⟨by simp [opId, hi], rfl⟩
    · go_wp2_with fail
      go_meet
      exact ⟨by simp [opId]; omega, rfl⟩
  obtain ⟨rfl, rfl⟩ := hcut
  go_upto_region 2 with fail
  go_cut [4] (fun s wx => s = .bool (opSlot ⟨k, d, nm, d2, nm2, id, tx⟩) ∧ wx = w.alloc (.cells #[.int .i64 k, .int .i64 d, .string nm, .int .i64 d2, .string nm2, .int .i64 id, .string tx] 27))
  case first =>
    by_cases hi : idB d = true
    · go_wp2_with fail
      refine (l1Id_any _ _).mono ?_
      rintro x w1 ⟨rfl, rfl⟩
      go_wp2_with fail
      refine (specWord _ _ h1).mono ?_
      rintro x w1 ⟨rfl, rfl⟩
      go_wp2_with fail
      go_meet
      exact ⟨by simp [opSlot, hi], rfl⟩
    · have hi' : idB d = false := by simpa using hi
      go_wp2_with fail
      refine (l1Id_any _ _).mono ?_
      rintro x w1 ⟨rfl, rfl⟩
      go_wp2_with fail
      go_meet
      exact ⟨by simp [opSlot, hi'], rfl⟩
  obtain ⟨rfl, rfl⟩ := hcut
  go_upto_region 3 with fail
  go_cut [5] (fun s wx => s = .bool (opSlot2 ⟨k, d, nm, d2, nm2, id, tx⟩) ∧ wx = w.alloc (.cells #[.int .i64 k, .int .i64 d, .string nm, .int .i64 d2, .string nm2, .int .i64 id, .string tx] 27))
  case first =>
    by_cases hi : idB d2 = true
    · go_wp2_with fail
      refine (l1Id_any _ _).mono ?_
      rintro x w1 ⟨rfl, rfl⟩
      go_wp2_with fail
      refine (specWord _ _ h2).mono ?_
      rintro x w1 ⟨rfl, rfl⟩
      go_wp2_with fail
      go_meet
      exact ⟨by simp [opSlot2, hi], rfl⟩
    · have hi' : idB d2 = false := by simpa using hi
      go_wp2_with fail
      refine (l1Id_any _ _).mono ?_
      rintro x w1 ⟨rfl, rfl⟩
      go_wp2_with fail
      go_meet
      exact ⟨by simp [opSlot2, hi'], rfl⟩
  obtain ⟨rfl, rfl⟩ := hcut
  go_upto_region 4 with fail
  go_cut [6] (fun s wx => s = .bool (opNone2 ⟨k, d, nm, d2, nm2, id, tx⟩) ∧ wx = w.alloc (.cells #[.int .i64 k, .int .i64 d, .string nm, .int .i64 d2, .string nm2, .int .i64 id, .string tx] 27))
  case first =>
    by_cases hi : d2 = 0
    · have t0 : (d2 == 0) = true := by simpa using hi
      clear hi
      go_wp2_with fail
      go_meet
      exact ⟨by simp only [opNone2, t0]; rfl, rfl⟩
    · have t0 : (d2 == 0) = false := by simpa using hi
      go_wp2_with fail
      go_meet
      exact ⟨by simp [opNone2, hi], rfl⟩
  obtain ⟨rfl, rfl⟩ := hcut
  have HV : Hid (opOk ⟨k, d, nm, d2, nm2, id, tx⟩ = if k = 1 ∨ k = 2 ∨ k = 3 then opId ⟨k, d, nm, d2, nm2, id, tx⟩ && opSlot ⟨k, d, nm, d2, nm2, id, tx⟩ && opNone2 ⟨k, d, nm, d2, nm2, id, tx⟩ && tx.toList.isEmpty
      else if k = 4 then opId ⟨k, d, nm, d2, nm2, id, tx⟩ && opSlot ⟨k, d, nm, d2, nm2, id, tx⟩ && opSlot2 ⟨k, d, nm, d2, nm2, id, tx⟩ && tx.toList.isEmpty
      else if k = 5 then opId ⟨k, d, nm, d2, nm2, id, tx⟩ && (d == 0) && nm.toList.isEmpty && opNone2 ⟨k, d, nm, d2, nm2, id, tx⟩ && body tx.data.toList else false) := rfl
  generalize opId ⟨k, d, nm, d2, nm2, id, tx⟩ = A at HV ⊢
  generalize opSlot ⟨k, d, nm, d2, nm2, id, tx⟩ = S at HV ⊢
  generalize opSlot2 ⟨k, d, nm, d2, nm2, id, tx⟩ = S2 at HV ⊢
  generalize opNone2 ⟨k, d, nm, d2, nm2, id, tx⟩ = N at HV ⊢
  by_cases k1 : k = 1 ∨ k = 2 ∨ k = 3
  · rcases k1 with rfl | rfl | rfl
    all_goals
      cases A <;> cases S <;> cases N <;>
      (go_wp2_with fail; go_ret; exact ⟨by rw [HV.out]; simp, rfl⟩)
  · have e1 : (k == 1) = false := by simp; omega
    have e2 : (k == 2) = false := by simp; omega
    have e3 : (k == 3) = false := by simp; omega
    by_cases k4 : k = 4
    · subst k4
      clear k1 e1 e2 e3
      cases A <;> cases S <;> cases S2 <;>
      (go_wp2_with fail; go_ret; exact ⟨by rw [HV.out]; simp, rfl⟩)
    · have e4 : (k == 4) = false := by simp; omega
      by_cases k5 : k = 5
      · subst k5
        clear k1 e1 e2 e3 e4 k4
        by_cases hd : d = 0
        · have t0 : (d == 0) = true := by simpa using hd
          have HD : Hid (d = 0) := hd
          clear hd
          rcases hn : nm.toList.isEmpty with _ | _
          all_goals
            cases A <;> cases N <;>
            (go_wp2_with (go_at_call 90; refine (specBody _ _ h3).mono ?_; rintro x w1 ⟨rfl, rfl⟩)
             go_ret
             exact ⟨by rw [HV.out]; simp [HD.out, hn], rfl⟩)
        · have t0 : (d == 0) = false := by simpa using hd
          cases A <;> cases N <;>
          (go_wp2_with fail; go_ret; exact ⟨by rw [HV.out]; simp [hd], rfl⟩)
      · have e5 : (k == 5) = false := by simp; omega
        have HV' : Hid (opOk ⟨k, d, nm, d2, nm2, id, tx⟩ = false) := by show _ = _; rw [HV.out]; simp [k1, k4, k5]
        clear HV k1 k4 k5
        go_wp2_with fail
        go_ret
        exact ⟨by rw [HV'.out]; rfl, rfl⟩
end Go.Proofs.YtnolbfijcnldjaaGreatDoor

/- What is done, as an argument: read as data, its size, its copy. -/
namespace Go.Proofs.YtnolbfijcnldjaaGreatDoor
open Go.RowKit Go.ChangeShapes Go.WideShapes

structure OpSz (o : LOp) : Prop where
  name : o.name.size ≤ maxLen
  name2 : o.name2.size ≤ maxLen
  text : o.text.size ≤ maxLen
section
variable {H : Type} {enc : TypeId × Value → H} {w : World} {spare : Nat → Bool} {held : Bool}
end

end Go.Proofs.YtnolbfijcnldjaaGreatDoor

/- What is done: the program's OpOk. -/
namespace Go.Proofs.YtnolbfijcnldjaaGreatDoor
open Go.RowKit

def kword (k : Int) : ByteArray := if k = 1 then ⟨#[102, 105, 108, 101]⟩ else if k = 2 then ⟨#[100, 105, 114]⟩ else if k = 3 then ⟨#[103, 111, 110, 101]⟩ else if k = 4 then ⟨#[109, 111, 118, 101]⟩ else if k = 5 then ⟨#[116, 101, 120, 116]⟩ else ⟨#[]⟩
theorem kword_any (k : Int) (w : World) : Calls Tryz.prog 132 #[.int .i64 k] w fun e w' => e = .returned (.string (kword k)) ∧ w' = w := by
  by_cases h : k = 1 ∨ k = 2 ∨ k = 3 ∨ k = 4 ∨ k = 5
  · rcases h with rfl | rfl | rfl | rfl | rfl <;>
    (go_enter Tryz.func132, Tryz.ntmps132; go_wp2; go_ret; exact ⟨rfl, rfl⟩)
  · have e1 : (k == 1) = false := by simp; omega
    have e2 : (k == 2) = false := by simp; omega
    have e3 : (k == 3) = false := by simp; omega
    have e4 : (k == 4) = false := by simp; omega
    have e5 : (k == 5) = false := by simp; omega
    have HV : Hid (kword k = ⟨#[]⟩) := by show _ = _; unfold kword; rw [if_neg (by omega), if_neg (by omega), if_neg (by omega), if_neg (by omega), if_neg (by omega)]
    clear h
    go_enter Tryz.func132, Tryz.ntmps132
    go_wp2
    go_ret
    exact ⟨by rw [HV.out]; rfl, rfl⟩
theorem inDir_any (k : Int) (w : World) : Calls Tryz.prog 134 #[.int .i64 k] w fun e w' => e = .returned (.bool (k != 5)) ∧ w' = w := by
  go_enter Tryz.func134, Tryz.ntmps134
  go_wp2
  go_ret
  exact ⟨rfl, rfl⟩
theorem moves_any (k : Int) (w : World) : Calls Tryz.prog 135 #[.int .i64 k] w fun e w' => e = .returned (.bool (k == 4)) ∧ w' = w := by
  go_enter Tryz.func135, Tryz.ntmps135
  go_wp2
  go_ret
  exact ⟨rfl, rfl⟩
theorem writes_any (k : Int) (w : World) : Calls Tryz.prog 143 #[.int .i64 k] w fun e w' => e = .returned (.bool (k == 5)) ∧ w' = w := by
  go_enter Tryz.func143, Tryz.ntmps143
  go_wp2
  go_ret
  exact ⟨rfl, rfl⟩
def placeB (has : Bool) (dir : Int) (name : ByteArray) : Bool := if has then idB dir && word name.data.toList else (dir == 0) && name.toList.isEmpty
def textB (has : Bool) (text : ByteArray) : Bool := if has then body text.data.toList else text.toList.isEmpty
theorem placeOk_any (has : Bool) (dir : Int) (name : ByteArray) (w : World) (hs : name.size ≤ maxLen) : Calls Tryz.prog 177 #[.bool has, .int .i64 dir, .string name] w fun e w' => e = .returned (.bool (placeB has dir name)) ∧ w' = w := by
  cases has
  · by_cases h : dir = 0
    · subst h
      go_enter Tryz.func177, Tryz.ntmps177
      go_wp2
      go_ret
      exact ⟨ret_bool (by simp [placeB]), rfl⟩
    · have t : (dir == 0) = false := by simpa using h
      go_enter Tryz.func177, Tryz.ntmps177
      go_wp2
      go_ret
      exact ⟨ret_bool (by simp [placeB, t]), rfl⟩
  · rcases hi : idB dir with _ | _
    · have HI : Hid (idB dir = false) := hi
      clear hi
      go_enter Tryz.func177, Tryz.ntmps177
      go_wp2_with (go_at_call 78; refine (isObject_any _ _).mono ?_; rintro e w' ⟨rfl, rfl⟩; rw [HI.out])
      go_ret
      exact ⟨ret_bool (by simp [placeB, HI.out]), rfl⟩
    · have HI : Hid (idB dir = true) := hi
      clear hi
      go_enter Tryz.func177, Tryz.ntmps177
      go_wp2_with (first | (go_at_call 78; refine (isObject_any _ _).mono ?_; rintro e w' ⟨rfl, rfl⟩; rw [HI.out]) | (go_at_call 199; refine (implWord _ _ hs).mono ?_; rintro e w' ⟨rfl, rfl⟩))
      go_ret
      exact ⟨ret_bool (by simp [placeB, HI.out]), rfl⟩
theorem textOk_any (has : Bool) (text : ByteArray) (w : World) (hs : text.size ≤ maxLen) : Calls Tryz.prog 178 #[.bool has, .string text] w fun e w' => e = .returned (.bool (textB has text)) ∧ w' = w := by
  cases has
  · go_enter Tryz.func178, Tryz.ntmps178
    go_wp2
    go_ret
    exact ⟨ret_bool (by simp [textB]), rfl⟩
  · go_enter Tryz.func178, Tryz.ntmps178
    go_wp2_with (go_at_call 175; refine (implBody _ _ hs).mono ?_; rintro e w' ⟨rfl, rfl⟩)
    go_ret
    exact ⟨ret_bool (by simp [textB]), rfl⟩
def opPartsB (k : Int) (o : LOp) : Bool := placeB (k != 5) o.dir o.name && placeB (k == 4) o.dir2 o.name2 && textB (k == 5) o.text
theorem placeOk_of {has : Bool} {dir : Int} {name : ByteArray} {b : Bool} (h : placeB has dir name = b) (w : World) (hs : name.size ≤ maxLen) : Calls Tryz.prog 177 #[.bool has, .int .i64 dir, .string name] w fun e w' => e = .returned (.bool b) ∧ w' = w := by
  rw [← h]; exact placeOk_any has dir name w hs
set_option maxHeartbeats 400000 in
theorem opPartsOk_any (k : Int) (o : LOp) (w : World) (hs : OpSz o) : Calls Tryz.prog 133 #[.int .i64 k, .agg o.val] w fun e w' => e = .returned (.bool (opPartsB k o)) ∧ Below w.heap.size w w' := by
  simp only [LOp.val]
  have hA : ∀ ob q, Below w.heap.size w ((w.alloc ob).drewN q) := fun ob q => ((Below.refl _ _).alloc (Nat.le_refl _) _).trans ((Below.drewN _ _).mono (by simp))
  rcases h1 : placeB (k != 5) o.dir o.name with _ | _
  · have H1 : Hid (placeB (k != 5) o.dir o.name = false) := h1
    clear h1
    go_enter Tryz.func133, Tryz.ntmps133
    go_wp2_with fail
    go_quiet (first | (go_at_call 134; exact Calls.quiet_of_same (inDir_any _ _)) | (go_at_call_of 177 (Value.string o.name); exact Calls.quiet_of_same (placeOk_of H1.out _ hs.name)))
    go_wp2_with fail
    go_ret
    exact ⟨ret_bool (by simp [opPartsB, H1.out]), hA _ _⟩
  · have H1 : Hid (placeB (k != 5) o.dir o.name = true) := h1
    clear h1
    rcases h2 : placeB (k == 4) o.dir2 o.name2 with _ | _
    · have H2 : Hid (placeB (k == 4) o.dir2 o.name2 = false) := h2
      clear h2
      go_enter Tryz.func133, Tryz.ntmps133
      go_wp2_with fail
      go_quiet (first | (go_at_call 134; exact Calls.quiet_of_same (inDir_any _ _)) | (go_at_call_of 177 (Value.string o.name); exact Calls.quiet_of_same (placeOk_of H1.out _ hs.name)) | (go_at_call 135; exact Calls.quiet_of_same (moves_any _ _)) | (go_at_call_of 177 (Value.string o.name2); exact Calls.quiet_of_same (placeOk_of H2.out _ hs.name2)))
      go_wp2_with fail
      go_ret
      exact ⟨ret_bool (by simp [opPartsB, H2.out]), hA _ _⟩
    · have H2 : Hid (placeB (k == 4) o.dir2 o.name2 = true) := h2
      clear h2
      go_enter Tryz.func133, Tryz.ntmps133
      go_wp2_with fail
      go_quiet (first | (go_at_call 134; exact Calls.quiet_of_same (inDir_any _ _)) | (go_at_call_of 177 (Value.string o.name); exact Calls.quiet_of_same (placeOk_of H1.out _ hs.name)) | (go_at_call 135; exact Calls.quiet_of_same (moves_any _ _)) | (go_at_call_of 177 (Value.string o.name2); exact Calls.quiet_of_same (placeOk_of H2.out _ hs.name2)) | (go_at_call 143; exact Calls.quiet_of_same (writes_any _ _)) | (go_at_call 178; exact Calls.quiet_of_same (textOk_any _ _ _ hs.text)))
      go_wp2_with fail
      go_ret
      exact ⟨ret_bool (by simp [opPartsB, H1.out, H2.out]), hA _ _⟩

/-- What the program asks is what the specification asks. -/
theorem opOk_parts (o : LOp) : opOk o = ((kword o.kind).toList.isEmpty == false && (idB o.id && ((o.id != 0) && opPartsB o.kind o))) := by
  obtain ⟨k, d, nm, d2, nm2, id, tx⟩ := o
  have hid : opId ⟨k, d, nm, d2, nm2, id, tx⟩ = (idB id && (id != 0)) := by
    simp only [opId, idB]
    by_cases h : id = 0
    · subst h; simp
    · have h' : (id != 0) = true := by simpa using h
      rw [h', Bool.eq_iff_iff]; simp; omega
  by_cases h1 : k = 1
  · subst h1; simp [opOk, kword, opPartsB, placeB, textB, hid, opSlot, opNone2, Bool.and_assoc]
  by_cases h2 : k = 2
  · subst h2; simp [opOk, kword, opPartsB, placeB, textB, hid, opSlot, opNone2, Bool.and_assoc]
  by_cases h3 : k = 3
  · subst h3; simp [opOk, kword, opPartsB, placeB, textB, hid, opSlot, opNone2, Bool.and_assoc]
  by_cases h4 : k = 4
  · subst h4; simp [opOk, kword, opPartsB, placeB, textB, hid, opSlot, opSlot2, Bool.and_assoc]
  by_cases h5 : k = 5
  · subst h5; simp [opOk, kword, opPartsB, placeB, textB, hid, opNone2, Bool.and_assoc]
  · simp [opOk, kword, h1, h2, h3, h4, h5]

theorem kw1 (w : World) : Calls Tryz.prog 132 #[.int .i64 1] w fun e w' => e = .returned (.string ⟨#[102, 105, 108, 101]⟩) ∧ w' = w := kword_any 1 w
theorem kw2 (w : World) : Calls Tryz.prog 132 #[.int .i64 2] w fun e w' => e = .returned (.string ⟨#[100, 105, 114]⟩) ∧ w' = w := kword_any 2 w
theorem kw3 (w : World) : Calls Tryz.prog 132 #[.int .i64 3] w fun e w' => e = .returned (.string ⟨#[103, 111, 110, 101]⟩) ∧ w' = w := kword_any 3 w
theorem kw4 (w : World) : Calls Tryz.prog 132 #[.int .i64 4] w fun e w' => e = .returned (.string ⟨#[109, 111, 118, 101]⟩) ∧ w' = w := kword_any 4 w
theorem kw5 (w : World) : Calls Tryz.prog 132 #[.int .i64 5] w fun e w' => e = .returned (.string ⟨#[116, 101, 120, 116]⟩) ∧ w' = w := kword_any 5 w
theorem kw0 {k : Int} (h : kword k = ⟨#[]⟩) (w : World) : Calls Tryz.prog 132 #[.int .i64 k] w fun e w' => e = .returned (.string ⟨#[]⟩) ∧ w' = w := by rw [← h]; exact kword_any k w
theorem opOk_kind {o : LOp} (h : o.kind = 1 ∨ o.kind = 2 ∨ o.kind = 3 ∨ o.kind = 4 ∨ o.kind = 5) : opOk o = (idB o.id && ((o.id != 0) && opPartsB o.kind o)) := by
  rw [opOk_parts]
  rcases h with h | h | h | h | h <;> simp [h, kword]
theorem opOk_nokind {o : LOp} (h : ¬ (o.kind = 1 ∨ o.kind = 2 ∨ o.kind = 3 ∨ o.kind = 4 ∨ o.kind = 5)) : opOk o = false ∧ kword o.kind = ⟨#[]⟩ := by
  have hk : kword o.kind = ⟨#[]⟩ := by unfold kword; rw [if_neg (by omega), if_neg (by omega), if_neg (by omega), if_neg (by omega), if_neg (by omega)]
  refine ⟨?_, hk⟩
  unfold opOk
  rw [if_neg (by omega), if_neg (by omega), if_neg (by omega)]

set_option maxHeartbeats 1000000 in
theorem implOpOk (o : LOp) (w : World) (hs : OpSz o) : Calls Tryz.prog 75 #[.agg o.val] w fun e w' => e = .returned (.bool (opOk o)) ∧ Below w.heap.size w w' := by
  have HPK := fun k w => opPartsOk_any k o w hs
  by_cases hk : o.kind = 1 ∨ o.kind = 2 ∨ o.kind = 3 ∨ o.kind = 4 ∨ o.kind = 5
  · have HV : Hid (opOk o = (idB o.id && ((o.id != 0) && opPartsB o.kind o))) := opOk_kind hk
    obtain ⟨k, d, nm, d2, nm2, id, tx⟩ := o
    simp only [LOp.val] at *
    rcases hi : idB id with _ | _
    · have HI : Hid (idB id = false) := hi
      clear hi HPK
      rcases hk with rfl | rfl | rfl | rfl | rfl
      all_goals
        go_enter Tryz.func75, Tryz.ntmps75
        go_wp2_with (first | (go_at_call_of 132 (Value.int IntKind.i64 1); refine (kw1 _).mono ?_; rintro e w' ⟨rfl, rfl⟩) | (go_at_call_of 132 (Value.int IntKind.i64 2); refine (kw2 _).mono ?_; rintro e w' ⟨rfl, rfl⟩) | (go_at_call_of 132 (Value.int IntKind.i64 3); refine (kw3 _).mono ?_; rintro e w' ⟨rfl, rfl⟩) | (go_at_call_of 132 (Value.int IntKind.i64 4); refine (kw4 _).mono ?_; rintro e w' ⟨rfl, rfl⟩) | (go_at_call_of 132 (Value.int IntKind.i64 5); refine (kw5 _).mono ?_; rintro e w' ⟨rfl, rfl⟩) | (go_at_call 78; refine (isObject_any _ _).mono ?_; rintro e w' ⟨rfl, rfl⟩; rw [HI.out]))
        go_ret
        exact ⟨ret_bool (by rw [HV.out, HI.out]; rfl), (Below.refl _ _).alloc (Nat.le_refl _) _⟩
    · have HI : Hid (idB id = true) := hi
      clear hi
      by_cases hz : id = 0
      · subst hz
        clear HPK
        rcases hk with rfl | rfl | rfl | rfl | rfl
        all_goals
          go_enter Tryz.func75, Tryz.ntmps75
          go_wp2_with (first | (go_at_call_of 132 (Value.int IntKind.i64 1); refine (kw1 _).mono ?_; rintro e w' ⟨rfl, rfl⟩) | (go_at_call_of 132 (Value.int IntKind.i64 2); refine (kw2 _).mono ?_; rintro e w' ⟨rfl, rfl⟩) | (go_at_call_of 132 (Value.int IntKind.i64 3); refine (kw3 _).mono ?_; rintro e w' ⟨rfl, rfl⟩) | (go_at_call_of 132 (Value.int IntKind.i64 4); refine (kw4 _).mono ?_; rintro e w' ⟨rfl, rfl⟩) | (go_at_call_of 132 (Value.int IntKind.i64 5); refine (kw5 _).mono ?_; rintro e w' ⟨rfl, rfl⟩) | (go_at_call 78; refine (isObject_any _ _).mono ?_; rintro e w' ⟨rfl, rfl⟩; rw [HI.out]))
          go_ret
          exact ⟨ret_bool (by rw [HV.out]; simp), (Below.refl _ _).alloc (Nat.le_refl _) _⟩
      · have t0 : (id != 0) = true := by simpa using hz
        have HT : Hid ((id != 0) = true) := t0
        clear hz
        rcases hk with rfl | rfl | rfl | rfl | rfl
        all_goals
          go_enter Tryz.func75, Tryz.ntmps75
          go_wp2_with (first | (go_at_call_of 132 (Value.int IntKind.i64 1); refine (kw1 _).mono ?_; rintro e w' ⟨rfl, rfl⟩) | (go_at_call_of 132 (Value.int IntKind.i64 2); refine (kw2 _).mono ?_; rintro e w' ⟨rfl, rfl⟩) | (go_at_call_of 132 (Value.int IntKind.i64 3); refine (kw3 _).mono ?_; rintro e w' ⟨rfl, rfl⟩) | (go_at_call_of 132 (Value.int IntKind.i64 4); refine (kw4 _).mono ?_; rintro e w' ⟨rfl, rfl⟩) | (go_at_call_of 132 (Value.int IntKind.i64 5); refine (kw5 _).mono ?_; rintro e w' ⟨rfl, rfl⟩) | (go_at_call 78; refine (isObject_any _ _).mono ?_; rintro e w' ⟨rfl, rfl⟩; rw [HI.out]) | (go_at_call 133; refine (HPK _ _).mono ?_; rintro e w9 ⟨rfl, hb9⟩))
          go_ret
          exact ⟨ret_bool (by rw [HV.out, HI.out, HT.out]; simp), ((Below.refl _ _).alloc (Nat.le_refl _) _).trans (hb9.mono (by simp))⟩
  · have HV : Hid (opOk o = false ∧ kword o.kind = ⟨#[]⟩) := opOk_nokind hk
    clear hk HPK
    obtain ⟨k, d, nm, d2, nm2, id, tx⟩ := o
    simp only [LOp.val] at *
    go_enter Tryz.func75, Tryz.ntmps75
    go_wp2_with (go_at_call 132; refine (kw0 HV.out.2 _).mono ?_; rintro e w' ⟨rfl, rfl⟩)
    go_ret
    exact ⟨ret_bool (by rw [HV.out.1]), (Below.refl _ _).alloc (Nat.le_refl _) _⟩
end Go.Proofs.YtnolbfijcnldjaaGreatDoor

/- Lists of what is done: in memory, their sizes, their copies, compared. -/
namespace Go.Proofs.YtnolbfijcnldjaaGreatDoor
open Go.RowKit Go.ChangeShapes Go.WideShapes

structure OpAt (w : World) (b k : Nat) (o : LOp) : Prop where
  c0 : w.cell? ⟨b, k, none⟩ = some (.int .i64 o.kind)
  c1 : w.cell? ⟨b, k + 1, none⟩ = some (.int .i64 o.dir)
  c2 : w.cell? ⟨b, k + 2, none⟩ = some (.string o.name)
  c3 : w.cell? ⟨b, k + 3, none⟩ = some (.int .i64 o.dir2)
  c4 : w.cell? ⟨b, k + 4, none⟩ = some (.string o.name2)
  c5 : w.cell? ⟨b, k + 5, none⟩ = some (.int .i64 o.id)
  c6 : w.cell? ⟨b, k + 6, none⟩ = some (.string o.text)
theorem OpAt.of_block {w w' : World} {b k : Nat} {o : LOp} (h : OpAt w b k o) (e : w'.heap[b]? = w.heap[b]?) : OpAt w' b k o := by
  have hc : ∀ j, w'.cell? ⟨b, j, none⟩ = w.cell? ⟨b, j, none⟩ := fun j => World.cell?_of_block (w := w) e
  exact ⟨by rw [hc]; exact h.c0, by rw [hc]; exact h.c1, by rw [hc]; exact h.c2, by rw [hc]; exact h.c3, by rw [hc]; exact h.c4, by rw [hc]; exact h.c5, by rw [hc]; exact h.c6⟩
structure OpsAt (w : World) (L U : Nat) (a : Option Addr) (n : Nat) (ops : List LOp) : Prop where
  len : n = ops.length
  bd : n ≤ maxLen
  at_ : n ≠ 0 → ∃ b off, a = some ⟨b, off, none⟩ ∧ L ≤ b ∧ b < U ∧ ∀ i, i < n → ∃ o, ops[i]? = some o ∧ OpSz o ∧ OpAt w b (off + i * 7) o
theorem OpsAt.below {w w' : World} {L U B : Nat} {a : Option Addr} {n : Nat} {ops : List LOp} (h : OpsAt w L U a n ops) (hb : Below B w w') (hU : U ≤ B) : OpsAt w' L U a n ops :=
  ⟨h.len, h.bd, fun hn => by
    obtain ⟨b, off, ha, hL, hbU, hc⟩ := h.at_ hn
    refine ⟨b, off, ha, hL, hbU, fun i hi => ?_⟩
    obtain ⟨o, ho, hs, h0⟩ := hc i hi
    exact ⟨o, ho, hs, h0.of_block (hb.block b (by omega))⟩⟩
theorem OpsAt.wide {w : World} {L U L' U' : Nat} {a : Option Addr} {n : Nat} {ops : List LOp} (h : OpsAt w L U a n ops) (hL' : L' ≤ L) (hU : U ≤ U') : OpsAt w L' U' a n ops :=
  ⟨h.len, h.bd, fun hn => by
    obtain ⟨b, off, ha, hL, hbU, hc⟩ := h.at_ hn
    exact ⟨b, off, ha, by omega, by omega, hc⟩⟩

/-! Read as data. -/
section
variable {H : Type} {enc : TypeId × Value → H} {w : World} {spare : Nat → Bool} {held : Bool}
end

/-! Sizes. -/
/-! Copies. -/
def opF (f : Nat → Value) (i : Nat) (o : LOp) : Prop := f (i * 7) = .int .i64 o.kind ∧ f (i * 7 + 1) = .int .i64 o.dir ∧ f (i * 7 + 2) = .string o.name ∧ f (i * 7 + 3) = .int .i64 o.dir2 ∧ f (i * 7 + 4) = .string o.name2 ∧ f (i * 7 + 5) = .int .i64 o.id ∧ f (i * 7 + 6) = .string o.text

end Go.Proofs.YtnolbfijcnldjaaGreatDoor
