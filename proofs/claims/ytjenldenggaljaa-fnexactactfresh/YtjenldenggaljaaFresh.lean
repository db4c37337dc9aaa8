/- Fresh numbers: contracts of the program and of the specification. -/
import Derived.Test.YtjenldenggaljaaUnder
import Derived.Test.YtjenldenggaljaaOpOk
namespace Go.Proofs.Ytjenldenggaljaa
open Go.RowKit

/-- Whether a number was never anybody's. -/
def freshV (os : List LObj) (id : Int) : Bool :=
  specOk os && decide (1 ≤ id) && idB id && (match os[id.toNat]? with | some o => decide (o.kind = 0) && decide (o.ver = 0) | none => false)
theorem freshV_no {os : List LObj} (h : specOk os = false) (id : Int) : freshV os id = false := by simp [freshV, h]
theorem freshV_out {os : List LObj} {id : Int} (h : id < 1 ∨ 32 ≤ id) : freshV os id = false := by
  have : (decide (1 ≤ id) && idB id) = false := by
    rcases h with h | h
    · have : ¬ 1 ≤ id := by omega
      simp [this]
    · have : ¬ id < 32 := by omega
      simp [idB, this]
  simp only [freshV, Bool.and_assoc] at *
  rw [← Bool.and_assoc (decide (1 ≤ id)), this]; simp
theorem freshV_at {os : List LObj} {k : Nat} {o : LObj} (h : specOk os = true) (h0 : 1 ≤ k) (h1 : k < 32) (ho : os[k]? = some o) : freshV os k = (decide (o.kind = 0) && decide (o.ver = 0)) := by
  have a : decide (1 ≤ (k : Int)) = true := by simp; omega
  have b : idB (k : Int) = true := by simp [idB]; omega
  simp [freshV, h, ho, b]; omega

set_option maxHeartbeats 1000000 in
theorem specFresh (a : Option Addr) (n c : Nat) (os : List LObj) (L U : Nat) (id : Int) (w : World) (hS : Sizes os 1048576) (hU : U ≤ w.heap.size) (H : ObjsAt w L U a n os) :
    Calls Try.prog 69 #[.agg #[.slice a n c], .int .i64 id] w fun e w' => e = .returned (.bool (freshV os id)) ∧ Below w.heap.size w w' := by
  go_enter Try.func69, Try.ntmps69
  go_wp2_with fail
  refine (specTreeOk _ _ _ _ L U _ hS (by simp; omega) (H.below ((Below.refl _ _).alloc (Nat.le_refl _) _) hU)).mono ?_
  rintro x w1 ⟨rfl, hb⟩
  have hO := One.start hb
  have hx1 := hO.c0
  clear hb
  cases hs : specOk os
  · have HS : Hid (specOk os = false) := hs
    clear hs
    go_wp2_with fail
    go_ret
    exact ⟨ret_bool (freshV_no HS.out id).symm, hO.below⟩
  · have HS : Hid (specOk os = true) := hs
    have HOK : Hid (ImplOk os) := (specOk_iff os).1 hs
    clear hs
    by_cases h1 : 1 ≤ id
    · by_cases h2 : id < 32
      · obtain ⟨k, rfl⟩ := Int.eq_ofNat_of_zero_le (show 0 ≤ id by omega)
        have hk : k < 32 := by omega
        have hn : n = 32 := by rw [H.len]; exact HOK.out.1
        subst hn
        obtain ⟨b, off, ha, hL, hbU, hc⟩ := H.at_ (by omega)
        subst ha
        obtain ⟨o, ka, kn, kc, ho, hsz, hd0, hd1, _⟩ := hc k hk
        rw [← hO.below.cell (by simp; omega)] at hd0 hd1
        have HV : Hid (freshV os k = (decide (o.kind = 0) && decide (o.ver = 0))) := freshV_at HS.out (by omega) hk ho
        clear ho hc
        have hk0 : (0 : Int) ≤ (k : Int) := by omega
        by_cases hlive : o.kind = 0
        · have t1 : (o.kind == 0) = true := by simpa using hlive
          have HW : Hid (freshV os k = (o.ver == 0)) := by show _ = _; rw [HV.out]; simp [hlive]; rfl
          clear hlive HV
          go_wp2_with (go_at_call 78; refine (l1Id_yes _ hk0 h2 _).mono ?_; rintro x w2 ⟨rfl, rfl⟩)
          go_ret
          exact ⟨ret_bool HW.out.symm, hO.below⟩
        · have t1 : (o.kind == 0) = false := by simpa using hlive
          have HW : Hid (freshV os k = false) := by show _ = _; rw [HV.out]; simp [hlive]
          clear hlive HV
          go_wp2_with (go_at_call 78; refine (l1Id_yes _ hk0 h2 _).mono ?_; rintro x w2 ⟨rfl, rfl⟩)
          go_ret
          exact ⟨ret_bool HW.out.symm, hO.below⟩
      · go_wp2_with (go_at_call 78; refine (l1Id_no _ (by omega) _).mono ?_; rintro x w2 ⟨rfl, rfl⟩)
        go_ret
        exact ⟨ret_bool (freshV_out (.inr (by omega))).symm, hO.below⟩
    · go_wp2_with fail
      go_ret
      exact ⟨ret_bool (freshV_out (.inl (by omega))).symm, hO.below⟩

set_option maxHeartbeats 1000000 in
/-- isFresh of an object that is there. -/
theorem isFresh_any (b off n c : Nat) (k : Nat) (kd vr : Int) (w : World) (hk : k < n) (hb : b < w.heap.size) (h0 : w.cell? ⟨b, off + k * 4, none⟩ = some (.int .i64 kd)) (h1 : w.cell? ⟨b, off + k * 4 + 1, none⟩ = some (.int .i64 vr)) :
    Calls Try.prog 108 #[.agg #[.slice (some ⟨b, off, none⟩) n c], .int .i64 k] w fun e w' => e = .returned (.bool (decide (k ≠ 0) && decide (kd = 0) && decide (vr = 0))) ∧ Below w.heap.size w w' := by
  have hkI : (k : Int) < (n : Int) := by omega
  have hk0 : (0 : Int) ≤ (k : Int) := by omega
  by_cases hz : k = 0
  · have t0 : ((k : Int) != 0) = false := by simp [hz]
    have HV : Hid ((decide (k ≠ 0) && decide (kd = 0) && decide (vr = 0)) = false) := by show _ = _; simp [hz]
    clear hz
    go_enter Try.func108, Try.ntmps108
    go_wp2_with fail
    go_ret
    exact ⟨ret_bool HV.out.symm, (Below.refl _ _).alloc (Nat.le_refl _) _⟩
  · have t0 : ((k : Int) != 0) = true := by simp; omega
    by_cases hlive : kd = 0
    · have t1 : (kd == 0) = true := by simpa using hlive
      have HV : Hid ((decide (k ≠ 0) && decide (kd = 0) && decide (vr = 0)) = (vr == 0)) := by show _ = _; simp [hz, hlive]; rfl
      clear hz hlive
      go_enter Try.func108, Try.ntmps108
      go_wp2_with fail
      go_ret
      exact ⟨ret_bool HV.out.symm, (Below.refl _ _).alloc (Nat.le_refl _) _⟩
    · have t1 : (kd == 0) = false := by simpa using hlive
      have HV : Hid ((decide (k ≠ 0) && decide (kd = 0) && decide (vr = 0)) = false) := by show _ = _; simp [hlive]
      clear hz hlive
      go_enter Try.func108, Try.ntmps108
      go_wp2_with fail
      go_ret
      exact ⟨ret_bool HV.out.symm, (Below.refl _ _).alloc (Nat.le_refl _) _⟩

set_option maxHeartbeats 1000000 in
theorem implFresh (a : Option Addr) (n c : Nat) (os : List LObj) (L U : Nat) (id : Int) (w : World) (hU : U ≤ w.heap.size) (H : ObjsAt w L U a n os) :
    Calls Try.prog 70 #[.agg #[.slice a n c], .int .i64 id] w fun e w' => e = .returned (.bool (freshV os id)) ∧ Below w.heap.size w w' := by
  go_enter Try.func70, Try.ntmps70
  go_wp2_with fail
  refine (implTreeOk _ _ _ _ L U _ (by simp; omega) (H.below ((Below.refl _ _).alloc (Nat.le_refl _) _) hU)).mono ?_
  rintro x w1 ⟨rfl, hb⟩
  have hO := One.start hb
  have hx1 := hO.c0
  clear hb
  cases hs : specOk os
  · have HS : Hid (specOk os = false) := hs
    clear hs
    go_wp2_with fail
    go_ret
    exact ⟨ret_bool (freshV_no HS.out id).symm, hO.below⟩
  · have HS : Hid (specOk os = true) := hs
    have HOK : Hid (ImplOk os) := (specOk_iff os).1 hs
    clear hs
    by_cases h1 : 0 ≤ id ∧ id < 32
    · obtain ⟨k, rfl⟩ := Int.eq_ofNat_of_zero_le h1.1
      have hk : k < 32 := by omega
      have hn : n = 32 := by rw [H.len]; exact HOK.out.1
      subst hn
      obtain ⟨b, off, ha, hL, hbU, hc⟩ := H.at_ (by omega)
      subst ha
      obtain ⟨o, ka, kn, kc, ho, hsz, hd0, hd1, _⟩ := hc k hk
      rw [← hO.below.cell (by simp; omega)] at hd0 hd1
      have HI : Hid (idB (k : Int) = true) := by show _ = _; simp [idB]; omega
      have HV : Hid (freshV os k = (decide (k ≠ 0) && decide (o.kind = 0) && decide (o.ver = 0))) := by
        show _ = _
        by_cases hz : k = 0
        · subst hz; rw [freshV_out (.inl (by omega))]; simp
        · rw [freshV_at HS.out (by omega) hk ho]; simp [hz]
      clear ho hc h1
      go_wp2_with (go_at_call 101; refine (isObject_any _ _).mono ?_; rintro x w2 ⟨rfl, rfl⟩; rw [HI.out])
      refine (isFresh_any b off 32 c k o.kind o.ver _ hk (by have := hO.below.size; omega) hd0 hd1).mono ?_
      rintro x w2 ⟨rfl, hb2⟩
      go_wp2_with fail
      go_ret
      exact ⟨ret_bool (by rw [HV.out]; simp), (hO.next hb2).below⟩
    · have HI : Hid (idB id = false) := by show _ = _; simp [idB]; omega
      go_wp2_with (go_at_call 101; refine (isObject_any _ _).mono ?_; rintro x w2 ⟨rfl, rfl⟩; rw [HI.out])
      go_ret
      exact ⟨ret_bool (freshV_out (by omega)).symm, hO.below⟩
end Go.Proofs.Ytjenldenggaljaa
