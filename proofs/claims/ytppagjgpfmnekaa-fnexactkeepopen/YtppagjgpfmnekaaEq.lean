/- Contracts of the law eqTree, at two readings of one tree. -/
import Derived.Test.YtppagjgpfmnekaaMem
namespace Go.Proofs.Ytppagjgpfmnekaa
open Go.RowKit

set_option maxHeartbeats 400000 in
theorem eqEntS_same (a a' : Option Addr) (n c c' : Nat) (es : List LEnt) (L U L' U' : Nat) (w : World) (hU : U ≤ w.heap.size) (hU' : U' ≤ w.heap.size) (H : EntsAt w L U a n es) (H' : EntsAt w L' U' a' n es) :
    Calls Try.prog 29 #[.slice a n c, .slice a' n c'] w fun e w' => e = .returned (.bool true) ∧ Below w.heap.size w w' := by
  have hbd := H.bd
  unfold maxLen at hbd
  go_enter Try.func29, Try.ntmps29
  go_wp2
  go_loopg [5] n (fun k i wr => ∃ j : Nat, j ≤ n ∧ Hid (k = n - j) ∧ i = .int .i64 j ∧ Below w.heap.size w wr)
  case atStart => exact ⟨0, Nat.zero_le _, by show _ = _; omega, rfl, Below.refl _ _⟩
  case round =>
    obtain ⟨j, hj, hk, rfl, hb⟩ := hrel
    by_cases hlt : j < n
    · obtain ⟨b, off, ha, hL, hbU, hc⟩ := H.at_ (by omega)
      obtain ⟨b', off', ha', hL', hbU', hc'⟩ := H'.at_ (by omega)
      subst ha ha'
      obtain ⟨e, he, hsz, hc0, hc1⟩ := hc j hlt
      obtain ⟨e2, he2, hsz2, hd0, hd1⟩ := hc' j hlt
      rw [he] at he2
      cases he2
      clear he hc hc'
      rw [← hb.cell (by simp; omega)] at hc0 hc1 hd0 hd1
      go_wp2_with fail
      go_region_with (go_at_call 30; refine (eqEnt_same _ _ _).mono ?_; rintro x w1 ⟨rfl, hb1⟩)
      all_goals
        go_wp2_with fail
        go_roundg (n - (j + 1))
        case measure => have := hk.out; omega
        case rel => exact ⟨j + 1, by omega, rfl, by go_num, hb.trans (Below.trans (by repeat (first | exact Below.refl _ _ | refine Below.drew ?_)) (hb1.mono hb.size))⟩
    · go_wp2_with fail
      go_ret
      exact ⟨rfl, hb⟩

set_option maxHeartbeats 400000 in
theorem eqObj_same (k v : Int) (s : ByteArray) (a a' : Option Addr) (n c c' : Nat) (es : List LEnt) (L U L' U' : Nat) (w : World) (hU : U ≤ w.heap.size) (hU' : U' ≤ w.heap.size) (H : EntsAt w L U a n es) (H' : EntsAt w L' U' a' n es) :
    Calls Try.prog 26 #[.agg #[.int .i64 k, .int .i64 v, .string s, .slice a n c], .agg #[.int .i64 k, .int .i64 v, .string s, .slice a' n c']] w fun e w' => e = .returned (.bool true) ∧ Below w.heap.size w w' := by
  have hB : ∀ o1 o2, Below w.heap.size w ((w.alloc o1).alloc o2) := fun o1 o2 => ((Below.refl _ _).alloc (Nat.le_refl _) _).alloc (by simp) _
  go_enter Try.func26, Try.ntmps26
  go_wp2_with fail
  refine (eqEntS_same _ _ _ _ _ _ L U L' U' _ (by simp; omega) (by simp; omega) (H.below (hB _ _) hU) (H'.below (hB _ _) hU')).mono ?_
  rintro x w1 ⟨rfl, hb⟩
  go_wp2_with fail
  go_ret
  exact ⟨rfl, (hB _ _).trans (hb.mono (by simp; omega))⟩

set_option maxHeartbeats 800000 in
theorem eqObjS_same (a a' : Option Addr) (n c c' : Nat) (os : List LObj) (L U L' U' : Nat) (w : World) (hU : U ≤ w.heap.size) (hU' : U' ≤ w.heap.size) (H : ObjsAt w L U a n os) (H' : ObjsAt w L' U' a' n os) :
    Calls Try.prog 21 #[.slice a n c, .slice a' n c'] w fun e w' => e = .returned (.bool true) ∧ Below w.heap.size w w' := by
  have hbd := H.bd
  unfold maxLen at hbd
  go_enter Try.func21, Try.ntmps21
  go_wp2
  go_loopg [5] n (fun k i wr => ∃ j : Nat, j ≤ n ∧ Hid (k = n - j) ∧ i = .int .i64 j ∧ Below w.heap.size w wr)
  case atStart => exact ⟨0, Nat.zero_le _, by show _ = _; omega, rfl, Below.refl _ _⟩
  case round =>
    obtain ⟨j, hj, hk, rfl, hb⟩ := hrel
    by_cases hlt : j < n
    · obtain ⟨b, off, ha, hL, hbU, hc⟩ := H.at_ (by omega)
      obtain ⟨b', off', ha', hL', hbU', hc'⟩ := H'.at_ (by omega)
      subst ha ha'
      obtain ⟨o, ka, kn, kc, he, hsz, hc0, hc1, hc2, hc3, hke⟩ := hc j hlt
      obtain ⟨o2, ka', kn', kc', he2, hsz2, hd0, hd1, hd2, hd3, hke'⟩ := hc' j hlt
      rw [he] at he2
      cases he2
      have hkk : kn' = kn := by rw [hke.len, hke'.len]
      subst hkk
      clear he hc hc'
      rw [← hb.cell (by simp; omega)] at hc0 hc1 hc2 hc3 hd0 hd1 hd2 hd3
      have hk1 := hke.below hb hU
      have hk2 := hke'.below hb hU'
      have hs1 := hb.size
      go_wp2_with fail
      go_region_with (go_at_call 26; refine (eqObj_same _ _ _ _ _ _ _ _ _ L U L' U' _ (by simp; omega) (by simp; omega) (hk1.below (by repeat (first | exact Below.refl _ _ | refine Below.drew ?_)) (Nat.le_trans hU hs1)) (hk2.below (by repeat (first | exact Below.refl _ _ | refine Below.drew ?_)) (Nat.le_trans hU' hs1))).mono ?_; rintro x w1 ⟨rfl, hb1⟩)
      all_goals
        go_wp2_with fail
        go_roundg (n - (j + 1))
        case measure => have := hk.out; omega
        case rel => exact ⟨j + 1, by omega, rfl, by go_num, hb.trans (Below.trans (by repeat (first | exact Below.refl _ _ | refine Below.drew ?_)) (hb1.mono hb.size))⟩
    · go_wp2_with fail
      go_ret
      exact ⟨rfl, hb⟩

theorem eqTree_same (a a' : Option Addr) (n c c' : Nat) (os : List LObj) (L U L' U' : Nat) (w : World) (hU : U ≤ w.heap.size) (hU' : U' ≤ w.heap.size) (H : ObjsAt w L U a n os) (H' : ObjsAt w L' U' a' n os) :
    Calls Try.prog 12 #[.agg #[.slice a n c], .agg #[.slice a' n c']] w fun e w' => e = .returned (.bool true) ∧ Below w.heap.size w w' := by
  have hB : ∀ o1 o2, Below w.heap.size w ((w.alloc o1).alloc o2) := fun o1 o2 => ((Below.refl _ _).alloc (Nat.le_refl _) _).alloc (by simp) _
  go_enter Try.func12, Try.ntmps12
  go_wp2_with fail
  refine (eqObjS_same _ _ _ _ _ _ L U L' U' _ (by simp; omega) (by simp; omega) (H.below (hB _ _) hU) (H'.below (hB _ _) hU')).mono ?_
  rintro x w1 ⟨rfl, hb⟩
  go_wp2_with fail
  go_ret
  exact ⟨rfl, (hB _ _).trans (hb.mono (by simp; omega))⟩
end Go.Proofs.Ytppagjgpfmnekaa
