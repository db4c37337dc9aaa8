/- The specification compares trees: contracts. -/
import Derived.Test.YtjenldenggaljaaSame
namespace Go.Proofs.Ytjenldenggaljaa
open Go.RowKit

set_option maxHeartbeats 1000000 in
theorem specLike (a a' : Option Addr) (n n' c c' : Nat) (os os' : List LObj) (L U L' U' : Nat) (w : World) (hU : U ≤ w.heap.size) (hU' : U' ≤ w.heap.size) (H : ObjsAt w L U a n os) (H' : ObjsAt w L' U' a' n' os') :
    Calls Try.prog 36 #[.agg #[.slice a n c], .agg #[.slice a' n' c']] w fun e w' => e = .returned (.bool (listEq oLike os os')) ∧ Below w.heap.size w w' := by
  have hbd := H.bd
  have hbd' := H'.bd
  unfold maxLen at hbd hbd'
  have hB : ∀ o1 o2, Below w.heap.size w ((w.alloc o1).alloc o2) := fun o1 o2 => ((Below.refl _ _).alloc (Nat.le_refl _) _).alloc (by simp) _
  by_cases hnn : n = n'
  · subst hnn
    go_enter Try.func36, Try.ntmps36
    go_wp2
    go_loopg [5] n (fun k i wr => ∃ j : Nat, j ≤ n ∧ Hid (k = n - j) ∧ i = .int .i64 j ∧ Hid (∀ i, i < j → ∀ x y, os[i]? = some x → os'[i]? = some y → oLike x y = true) ∧ wr.cell? ⟨w.heap.size, 0, none⟩ = some (.slice a n c) ∧ wr.cell? ⟨w.heap.size + 1, 0, none⟩ = some (.slice a' n c') ∧ Below w.heap.size w wr)
    case atStart => exact ⟨0, Nat.zero_le _, by show _ = _; omega, rfl, fun i hi => by omega, by simp [go_sem], by simp [go_sem], hB _ _⟩
    case round =>
      obtain ⟨j, hj, hk, rfl, hq, hx1, hx2, hb⟩ := hrel
      by_cases hlt : j < n
      · obtain ⟨b, off, ha, hL, hbU, hc⟩ := H.at_ (by omega)
        obtain ⟨b', off', ha', hL', hbU', hc'⟩ := H'.at_ (by omega)
        subst ha ha'
        obtain ⟨o, ka, kn, kc, he, hsz, hc0, hc1, hc2, hc3, hks⟩ := hc j hlt
        obtain ⟨o2, ka2, kn2, kc2, he2, hsz2, hd0, hd1, hd2, hd3, hks2⟩ := hc' j hlt
        rw [← hb.cell (by simp; omega)] at hc0 hc1 hc2 hc3 hd0 hd1 hd2 hd3
        have HE : Hid (os[j]? = some o ∧ os'[j]? = some o2) := ⟨he, he2⟩
        clear he he2 hc hc'
        have hk1 := hks.below hb hU
        have hk2 := hks2.below hb hU'
        have hlt' : (j : Int) < (n : Int) := by omega
        by_cases hkd : o.kind = o2.kind
        · have t0 : (o.kind == o2.kind) = true := by simpa using hkd
          have t0' : (o.kind != o2.kind) = false := by simpa using hkd
          have HK : Hid (o.kind = o2.kind) := hkd
          clear hkd
          by_cases htx : sEq o.text o2.text = true
          · have t1 : (o.text.toList == o2.text.toList) = true := htx
            have HT : Hid (sEq o.text o2.text = true) := htx
            clear htx
            go_wp2_with fail
            go_quiet ((go_at_call 89; exact Calls.quiet_of (specKids _ _ _ _ _ _ _ _ L U L' U' _ (hk1.below (Below.drewN _ _) (by have := hb.size; omega)) (hk2.below (Below.drewN _ _) (by have := hb.size; omega)))))
            cases hp : listEq eEq o.kids o2.kids
            · have HP : Hid (listEq eEq o.kids o2.kids = false) := hp
              clear hp
              go_wp2_with fail
              go_ret
              exact ⟨ret_bool (listEq_no HE.out.1 HE.out.2 (by unfold oLike; rw [HP.out, Bool.and_false])).symm, hb.trans ((Below.drewN _ _).mono hb.size)⟩
            · have HP : Hid (listEq eEq o.kids o2.kids = true) := hp
              clear hp
              go_wp2_with fail
              go_roundg (n - (j + 1))
              case measure => have := hk.out; omega
              case rel =>
                refine ⟨j + 1, by omega, rfl, by go_num, fun i hi x y hx hy => ?_, by simpa using hx1, by simpa using hx2, hb.trans ((Below.drewN _ _).mono hb.size)⟩
                by_cases e : i = j
                · subst e
                  rw [HE.out.1] at hx
                  rw [HE.out.2] at hy
                  cases hx
                  cases hy
                  unfold oLike
                  rw [HP.out, HT.out, HK.out]
                  simp
                · exact hq.out i (by omega) x y hx hy
          · have t1 : (o.text.toList == o2.text.toList) = false := by simpa [sEq] using htx
            have HT : Hid (sEq o.text o2.text = false) := t1
            clear htx
            go_wp2_with fail
            go_quiet (fail)
            go_wp2_with fail
            go_ret
            exact ⟨ret_bool (listEq_no HE.out.1 HE.out.2 (by unfold oLike; rw [HT.out]; simp)).symm, hb.trans ((Below.drewN _ _).mono hb.size)⟩
        · have t0 : (o.kind == o2.kind) = false := by simpa using hkd
          have t0' : (o.kind != o2.kind) = true := by simpa using hkd
          have HK : Hid ((o.kind == o2.kind) = false) := t0
          clear hkd
          go_wp2_with fail
          go_quiet (fail)
          go_wp2_with fail
          go_ret
          exact ⟨ret_bool (listEq_no HE.out.1 HE.out.2 (by unfold oLike; rw [HK.out]; simp)).symm, hb.trans ((Below.drewN _ _).mono hb.size)⟩
      · go_wp2_with fail
        go_ret
        exact ⟨ret_bool (listEq_yes (by rw [← H.len, ← H'.len]) (fun i x y hx hy => hq.out i (by have := (List.getElem?_eq_some_iff.1 hx).1; have := H.len; omega) x y hx hy)).symm, hb⟩
  · have hne : ((n : Int) == n') = false := by simp; omega
    go_enter Try.func36, Try.ntmps36
    go_wp2
    go_ret
    exact ⟨ret_bool (listEq_len (by rw [← H.len, ← H'.len]; exact hnn)).symm, hB _ _⟩

def vers (a b : LObj) : Bool := a.ver == b.ver
theorem listEq_and {α : Type} (f g : α → α → Bool) : ∀ l m : List α, listEq (fun a b => f a b && g a b) l m = (listEq g l m && listEq f l m)
  | [], [] => rfl
  | [], _ :: _ => rfl
  | _ :: _, [] => rfl
  | a :: l, b :: m => by
    unfold listEq
    rw [listEq_and f g l m]
    cases f a b <;> cases g a b <;> cases listEq f l m <;> cases listEq g l m <;> rfl
theorem same_of (l m : List LObj) : listEq oSame l m = (listEq oLike l m && listEq vers l m) := listEq_and vers oLike l m

set_option maxHeartbeats 1000000 in
theorem specSame (a a' : Option Addr) (n n' c c' : Nat) (os os' : List LObj) (L U L' U' : Nat) (w : World) (hU : U ≤ w.heap.size) (hU' : U' ≤ w.heap.size) (H : ObjsAt w L U a n os) (H' : ObjsAt w L' U' a' n' os') :
    Calls Try.prog 35 #[.agg #[.slice a n c], .agg #[.slice a' n' c']] w fun e w' => e = .returned (.bool (listEq oSame os os')) ∧ Below w.heap.size w w' := by
  have hbd := H.bd
  have hbd' := H'.bd
  unfold maxLen at hbd hbd'
  have hB : ∀ o1 o2, Below w.heap.size w ((w.alloc o1).alloc o2) := fun o1 o2 => ((Below.refl _ _).alloc (Nat.le_refl _) _).alloc (by simp) _
  rw [same_of]
  go_enter Try.func35, Try.ntmps35
  go_wp2_with fail
  refine (specLike _ _ _ _ _ _ _ _ L U L' U' _ (by simp; omega) (by simp; omega) (H.below (hB _ _) hU) (H'.below (hB _ _) hU')).mono ?_
  rintro x w1 ⟨rfl, hb1⟩
  obtain ⟨hc, hf⟩ := bcell hb1
  have hx1 : w1.cell? ⟨w.heap.size, 0, none⟩ = some (.slice a n c) := by rw [hc _ _ (by simp; omega)]; simp [go_sem]
  have hx2 : w1.cell? ⟨w.heap.size + 1, 0, none⟩ = some (.slice a' n' c') := by rw [hc _ _ (by simp)]; simp [go_sem]
  have hb0 : Below w.heap.size w w1 := (hB _ _).trans (hb1.mono (by simp; omega))
  clear hc hf hb1
  cases hp : listEq oLike os os'
  · have HP : Hid (listEq oLike os os' = false) := hp
    clear hp
    go_wp2_with fail
    go_ret
    exact ⟨ret_bool (by rw [HP.out]; rfl), hb0⟩
  · have hnn : n = n' := by
      apply Classical.byContradiction
      intro h
      rw [listEq_len (by rw [← H.len, ← H'.len]; exact h)] at hp
      cases hp
    subst hnn
    have HP : Hid (listEq oLike os os' = true) := hp
    clear hp
    go_wp2_with fail
    go_loopg [5] n (fun k i wr => ∃ j : Nat, j ≤ n ∧ Hid (k = n - j) ∧ i = .int .i64 j ∧ Hid (∀ i, i < j → ∀ x y, os[i]? = some x → os'[i]? = some y → vers x y = true) ∧ wr.cell? ⟨w.heap.size, 0, none⟩ = some (.slice a n c) ∧ wr.cell? ⟨w.heap.size + 1, 0, none⟩ = some (.slice a' n c') ∧ Below w.heap.size w wr)
    case atStart => exact ⟨0, Nat.zero_le _, by show _ = _; omega, rfl, fun i hi => by omega, hx1, hx2, hb0⟩
    case round =>
      clear hx1 hx2 hb0
      obtain ⟨j, hj, hk, rfl, hq, hx1, hx2, hb⟩ := hrel
      by_cases hlt : j < n
      · obtain ⟨b, off, ha, hL, hbU, hc⟩ := H.at_ (by omega)
        obtain ⟨b', off', ha', hL', hbU', hc'⟩ := H'.at_ (by omega)
        subst ha ha'
        obtain ⟨o, ka, kn, kc, he, hsz, hc0, hc1, hc2, hc3, hks⟩ := hc j hlt
        obtain ⟨o2, ka2, kn2, kc2, he2, hsz2, hd0, hd1, hd2, hd3, hks2⟩ := hc' j hlt
        rw [← hb.cell (by simp; omega)] at hc1 hd1
        have HE : Hid (os[j]? = some o ∧ os'[j]? = some o2) := ⟨he, he2⟩
        clear he he2 hc hc' hc0 hc2 hc3 hd0 hd2 hd3 hks hks2
        have hlt' : (j : Int) < (n : Int) := by omega
        by_cases hv : o.ver = o2.ver
        · have t0 : (o.ver != o2.ver) = false := by simpa using hv
          have HV : Hid (vers o o2 = true) := by show _ = _; unfold vers; simpa using hv
          clear hv
          go_wp2_with fail
          go_quiet (fail)
          go_wp2_with fail
          go_roundg (n - (j + 1))
          case measure => have := hk.out; omega
          case rel =>
            refine ⟨j + 1, by omega, rfl, by go_num, fun i hi x y hx hy => ?_, by simpa using hx1, by simpa using hx2, hb.trans ((Below.drewN _ _).mono hb.size)⟩
            by_cases e : i = j
            · subst e
              rw [HE.out.1] at hx
              rw [HE.out.2] at hy
              cases hx
              cases hy
              exact HV.out
            · exact hq.out i (by omega) x y hx hy
        · have t0 : (o.ver != o2.ver) = true := by simpa using hv
          have HV : Hid (vers o o2 = false) := by show _ = _; unfold vers; simpa using hv
          clear hv
          go_wp2_with fail
          go_quiet (fail)
          go_wp2_with fail
          go_ret
          exact ⟨ret_bool (by rw [listEq_no HE.out.1 HE.out.2 HV.out, Bool.and_false]), hb.trans ((Below.drewN _ _).mono hb.size)⟩
      · go_wp2_with fail
        go_ret
        exact ⟨ret_bool (by rw [listEq_yes (f := vers) (by rw [← H.len, ← H'.len]) (fun i x y hx hy => hq.out i (by have := (List.getElem?_eq_some_iff.1 hx).1; have := H.len; omega) x y hx hy), HP.out]; rfl), hb⟩
end Go.Proofs.Ytjenldenggaljaa
