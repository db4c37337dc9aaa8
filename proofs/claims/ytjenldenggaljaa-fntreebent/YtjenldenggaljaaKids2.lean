/- Names of a directory: contracts of the functions of the specification. -/
import Derived.Test.YtjenldenggaljaaKids
namespace Go.Proofs.Ytjenldenggaljaa
open Go.RowKit

theorem EntsAt.drewN {w : World} {L U : Nat} {a : Option Addr} {n : Nat} {es : List LEnt} (h : EntsAt w L U a n es) (m : Nat) : EntsAt (w.drewN m) L U a n es := h.below (B := U) ⟨rfl, rfl, rfl, Nat.le_refl _, fun _ _ => rfl⟩ (Nat.le_refl _)
theorem ObjsAt.drewN {w : World} {L U : Nat} {a : Option Addr} {n : Nat} {os : List LObj} (h : ObjsAt w L U a n os) (m : Nat) : ObjsAt (w.drewN m) L U a n os := h.below (B := U) ⟨rfl, rfl, rfl, Nat.le_refl _, fun _ _ => rfl⟩ (Nat.le_refl _)
theorem specWord_of {s : ByteArray} {b : Bool} (h : word s.data.toList = b) (w : World) (hs : s.size ≤ maxLen) :
    Calls Try.prog 42 #[.string s] w fun e w' => e = .returned (.bool b) ∧ w' = w := by rw [← h]; exact specWord s w hs
theorem l1Id_yes (i : Int) (h0 : 0 ≤ i) (h1 : i < 32) (w : World) :
    Calls Try.prog 78 #[.int .i64 i] w fun e w' => e = .returned (.bool true) ∧ w' = w := by
  go_enter Try.func78, Try.ntmps78
  go_wp2
  go_ret
  exact ⟨ret_bool (by simp), rfl⟩
theorem l1Id_no (i : Int) (h : i < 0 ∨ 32 ≤ i) (w : World) :
    Calls Try.prog 78 #[.int .i64 i] w fun e w' => e = .returned (.bool false) ∧ w' = w := by
  by_cases h0 : 0 ≤ i
  · have h1 : ¬ i < 32 := by omega
    go_enter Try.func78, Try.ntmps78
    go_wp2
    go_ret
    exact ⟨ret_bool (by simp), rfl⟩
  · go_enter Try.func78, Try.ntmps78
    go_wp2
    go_ret
    exact ⟨rfl, rfl⟩

set_option maxHeartbeats 1000000 in
theorem specKidsOk (a : Option Addr) (n c : Nat) (es : List LEnt) (L U : Nat) (w : World) (H : EntsAt w L U a n es) :
    Calls Try.prog 120 #[.slice a n c] w fun e w' => e = .returned (.bool (kidsB es)) ∧ ∃ m, w' = w.drewN m := by
  have hbd := H.bd
  have hlen := H.len
  unfold maxLen at hbd
  have HL : Hid (n = es.length) := hlen
  clear hlen
  go_enter Try.func120, Try.ntmps120
  go_wp2
  go_loopg [3] n (fun k i wr => ∃ j : Nat, j ≤ n ∧ Hid (k = n - j) ∧ i = .int .i64 j ∧ Hid (∀ i, i < j → kidAt es i = true) ∧ Hid (∃ m, wr = w.drewN m))
  case atStart => exact ⟨0, Nat.zero_le _, by show _ = _; omega, rfl, fun i hi => by omega, ⟨0, rfl⟩⟩
  case round =>
    obtain ⟨j, hj, hk, rfl, hq, hb⟩ := hrel
    have Hr : EntsAt wr L U a n es := by obtain ⟨m, hm⟩ := hb.out; rw [hm]; exact H.drewN m
    by_cases hlt : j < n
    · obtain ⟨b, off, ha, hL, hbU, hc⟩ := Hr.at_ (by omega)
      subst ha
      obtain ⟨e, he, hsz, hc0, hc1⟩ := hc j hlt
      have HE : Hid (es[j]? = some e) := he
      clear he
      have hlt' : (j : Int) < (n : Int) := by omega
      have hjE : j < es.length := by have := HL.out; omega
      cases hw : word e.name.data.toList
      · have HW : Hid (word e.name.data.toList = false) := hw
        clear hw hc
        go_wp2_with fail
        go_quiet ((go_at_call 42; exact Calls.quiet_of_same (specWord_of HW.out _ hsz)))
        go_wp2_with fail
        go_ret
        exact ⟨ret_bool (kidsB_no hjE (kidAt_ent HE.out (entB_word HW.out))).symm, by obtain ⟨m, hm⟩ := hb.out; exact ⟨m + nq, by rw [hm, World.drewN_drewN]⟩⟩
      · have HW : Hid (word e.name.data.toList = true) := hw
        clear hw
        by_cases h1 : e.id < 1
        · clear hc
          go_wp2_with fail
          go_quiet ((go_at_call 42; exact Calls.quiet_of_same (specWord_of HW.out _ hsz)))
          go_wp2_with fail
          go_ret
          exact ⟨ret_bool (kidsB_no hjE (kidAt_ent HE.out (entB_lo (by omega)))).symm, by obtain ⟨m, hm⟩ := hb.out; exact ⟨m + nq, by rw [hm, World.drewN_drewN]⟩⟩
        have h1' : decide (e.id < 1) = false := by simpa using h1
        by_cases h2 : 32 ≤ e.id
        · clear hc
          go_wp2_with fail
          go_quiet (first | (go_at_call 42; exact Calls.quiet_of_same (specWord_of HW.out _ hsz)) | (go_at_call 78; exact Calls.quiet_of_same (l1Id_no _ (.inr h2) _)))
          go_wp2_with fail
          go_ret
          exact ⟨ret_bool (kidsB_no hjE (kidAt_ent HE.out (entB_hi h2))).symm, by obtain ⟨m, hm⟩ := hb.out; exact ⟨m + nq, by rw [hm, World.drewN_drewN]⟩⟩
        have HY : Hid (entB e = true) := entB_yes HW.out (by omega) (by omega)
        have h3 : 0 ≤ e.id := by omega
        have h4 : e.id < 32 := by omega
        by_cases hj0 : j = 0
        · subst hj0
          clear hc
          simp only [Nat.zero_mul, Nat.add_zero] at hc0 hc1
          go_wp2_with fail
          go_quiet (first | (go_at_call 42; exact Calls.quiet_of_same (specWord_of HW.out _ hsz)) | (go_at_call 78; exact Calls.quiet_of_same (l1Id_yes _ h3 h4 _)))
          go_wp2_with fail
          go_roundg (n - (0 + 1))
          case measure => have := hk.out; omega
          case rel =>
            refine ⟨1, by omega, rfl, by go_num, fun i hi => ?_, by obtain ⟨m, hm⟩ := hb.out; exact ⟨m + nq, by rw [hm, World.drewN_drewN]⟩⟩
            have : i = 0 := by omega
            subst this
            exact kidAt_zero HE.out HY.out
        · obtain ⟨jp, rfl⟩ : ∃ jp, j = jp + 1 := ⟨j - 1, by omega⟩
          obtain ⟨p, hp, hpz, hp0, hp1⟩ := hc jp (by omega)
          have HP : Hid (es[jp]? = some p) := hp
          clear hp hc hp1
          have hgt : (0 : Int) < ((jp + 1 : Nat) : Int) := by omega
          have tri := less_tri e.name.toList p.name.toList
          cases hl : nameLess p e
          · have t1 : (Op.bytesLess e.name.toList p.name.toList || e.name.toList == p.name.toList) = true := by
              rw [tri]; unfold nameLess at hl; rw [hl]; rfl
            have HN : Hid (nameLess p e = false) := hl
            clear hl tri
            go_wp2_with fail
            go_quiet (first | (go_at_call 42; exact Calls.quiet_of_same (specWord_of HW.out _ hsz)) | (go_at_call 78; exact Calls.quiet_of_same (l1Id_yes _ h3 h4 _)))
            go_wp2_with fail
            go_ret
            exact ⟨ret_bool (kidsB_no hjE (by rw [kidAt_succ HE.out HP.out HY.out]; exact HN.out)).symm, by obtain ⟨m, hm⟩ := hb.out; exact ⟨m + nq, by rw [hm, World.drewN_drewN]⟩⟩
          · have t1 : (Op.bytesLess e.name.toList p.name.toList || e.name.toList == p.name.toList) = false := by
              rw [tri]; unfold nameLess at hl; rw [hl]; rfl
            have HN : Hid (nameLess p e = true) := hl
            clear hl tri
            go_wp2_with fail
            go_quiet (first | (go_at_call 42; exact Calls.quiet_of_same (specWord_of HW.out _ hsz)) | (go_at_call 78; exact Calls.quiet_of_same (l1Id_yes _ h3 h4 _)))
            go_wp2_with fail
            go_roundg (n - (jp + 1 + 1))
            case measure => have := hk.out; omega
            case rel =>
              refine ⟨jp + 1 + 1, by omega, rfl, by go_num, fun i hi => ?_, by obtain ⟨m, hm⟩ := hb.out; exact ⟨m + nq, by rw [hm, World.drewN_drewN]⟩⟩
              by_cases e : i = jp + 1
              · subst e
                rw [kidAt_succ HE.out HP.out HY.out]
                exact HN.out
              · exact hq.out i (by omega)
    · go_wp2_with fail
      go_ret
      exact ⟨ret_bool (kidsB_yes (fun i hi => hq.out i (by have := HL.out; omega))).symm, hb.out⟩
end Go.Proofs.Ytjenldenggaljaa
