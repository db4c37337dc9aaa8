import Derived.Test.YtnfegihemhidgaaEq
import Derived.Test.YtnfegihemhidgaaOpen
import Derived.Deep.DeepCutAuto
/- The program and the specification compare names, objects and trees: contracts. -/
namespace Go.Proofs.Ytnfegihemhidgaa
open Go.RowKit

def sEq (s s' : ByteArray) : Bool := s.toList == s'.toList
theorem sEq_iff (s s' : ByteArray) : sEq s s' = true ↔ s = s' := by
  unfold sEq
  rw [beq_iff_eq, ByteArray.toList_eq, ByteArray.toList_eq]
  constructor
  · intro h
    cases s; cases s'; simp at h; simp [h]
  · intro h; rw [h]
def eEq (a b : LEnt) : Bool := sEq a.name b.name && a.id == b.id
theorem eEq_yes {a b : LEnt} (h : a.name = b.name) (k : a.id = b.id) : eEq a b = true := by
  unfold eEq; rw [(sEq_iff _ _).2 h, k]; simp
def listEq {α : Type} (f : α → α → Bool) : List α → List α → Bool
  | [], [] => true
  | a :: l, b :: m => f a b && listEq f l m
  | _, _ => false
theorem listEq_len {α : Type} {f : α → α → Bool} : ∀ {l m : List α}, l.length ≠ m.length → listEq f l m = false
  | [], [], h => absurd rfl h
  | [], _ :: _, _ => rfl
  | _ :: _, [], _ => rfl
  | a :: l, b :: m, h => by
    unfold listEq
    rw [listEq_len (l := l) (m := m) (by simpa using h), Bool.and_false]
theorem listEq_no {α : Type} {f : α → α → Bool} : ∀ {l m : List α} {j : Nat} {a b : α}, l[j]? = some a → m[j]? = some b → f a b = false → listEq f l m = false
  | [], _, j, _, _, h, _, _ => by simp at h
  | _ :: _, [], _, _, _, _, h, _ => by simp at h
  | a :: l, b :: m, 0, x, y, h, k, e => by
    simp at h k
    subst h k
    unfold listEq
    rw [e, Bool.false_and]
  | a :: l, b :: m, j + 1, x, y, h, k, e => by
    unfold listEq
    rw [listEq_no (l := l) (m := m) (j := j) (by simpa using h) (by simpa using k) e, Bool.and_false]
theorem listEq_yes {α : Type} {f : α → α → Bool} : ∀ {l m : List α}, l.length = m.length → (∀ (j : Nat) a b, l[j]? = some a → m[j]? = some b → f a b = true) → listEq f l m = true
  | [], [], _, _ => rfl
  | [], _ :: _, h, _ => by simp at h
  | _ :: _, [], h, _ => by simp at h
  | a :: l, b :: m, h, k => by
    unfold listEq
    rw [k 0 a b rfl rfl, Bool.true_and]
    exact listEq_yes (by simpa using h) (fun j x y hx hy => k (j + 1) x y (by simpa using hx) (by simpa using hy))
def oLike (a b : LObj) : Bool := a.kind == b.kind && sEq a.text b.text && listEq eEq a.kids b.kids
def oSame (a b : LObj) : Bool := a.ver == b.ver && oLike a b

set_option maxHeartbeats 800000 in
theorem specKids (a a' : Option Addr) (n n' c c' : Nat) (es es' : List LEnt) (L U L' U' : Nat) (w : World) (H : EntsAt w L U a n es) (H' : EntsAt w L' U' a' n' es') :
    Calls Try.prog 74 #[.slice a n c, .slice a' n' c'] w fun e w' => e = .returned (.bool (listEq eEq es es')) ∧ ∃ m, w' = w.drewN m := by
  have hbd := H.bd
  have hbd' := H'.bd
  unfold maxLen at hbd hbd'
  by_cases hnn : n = n'
  · subst hnn
    go_enter Try.func74, Try.ntmps74
    go_wp2
    go_loopg [5] n (fun k i wr => ∃ j : Nat, j ≤ n ∧ Hid (k = n - j) ∧ i = .int .i64 j ∧ Hid (∀ i, i < j → ∀ x y, es[i]? = some x → es'[i]? = some y → eEq x y = true) ∧ Hid (∃ m, wr = w.drewN m))
    case atStart => exact ⟨0, Nat.zero_le _, by show _ = _; omega, rfl, fun i hi => by omega, ⟨0, rfl⟩⟩
    case round =>
      obtain ⟨j, hj, hk, rfl, hq, hb⟩ := hrel
      obtain ⟨m, rfl⟩ := hb.out
      by_cases hlt : j < n
      · obtain ⟨b, off, ha, hL, hbU, hc⟩ := H.at_ (by omega)
        obtain ⟨b', off', ha', hL', hbU', hc'⟩ := H'.at_ (by omega)
        subst ha ha'
        obtain ⟨e, he, hsz, hc0, hc1⟩ := hc j hlt
        obtain ⟨e2, he2, hsz2, hd0, hd1⟩ := hc' j hlt
        have HE : Hid (es[j]? = some e ∧ es'[j]? = some e2) := ⟨he, he2⟩
        clear he he2 hc hc'
        by_cases hnm : sEq e.name e2.name = true
        · have t1 : (e.name.toList == e2.name.toList) = true := hnm
          by_cases hid : e.id = e2.id
          · have HY : Hid (eEq e e2 = true) := eEq_yes ((sEq_iff _ _).1 hnm) hid
            clear hnm
            go_wp2_with fail
            go_quiet (fail)
            go_wp2_with fail
            go_roundg (n - (j + 1))
            case measure => have := hk.out; omega
            case rel =>
              refine ⟨j + 1, by omega, rfl, by go_num, fun i hi x y hx hy => ?_, ⟨_, rfl⟩⟩
              by_cases e : i = j
              · subst e
                rw [HE.out.1] at hx
                rw [HE.out.2] at hy
                cases hx
                cases hy
                exact HY.out
              · exact hq.out i (by omega) x y hx hy
          · have t2 : (e.id == e2.id) = false := by simpa using hid
            have HN : Hid (eEq e e2 = false) := by show _ = _; unfold eEq; rw [t2, Bool.and_false]
            clear hnm
            go_wp2_with fail
            go_quiet (fail)
            go_wp2_with fail
            go_ret
            exact ⟨ret_bool (listEq_no HE.out.1 HE.out.2 HN.out).symm, m + nq, by rw [World.drewN_drewN]⟩
        · have t1 : (e.name.toList == e2.name.toList) = false := by simpa [sEq] using hnm
          have HN : Hid (eEq e e2 = false) := by show _ = _; unfold eEq sEq; rw [t1, Bool.false_and]
          clear hnm
          go_wp2_with fail
          go_quiet (fail)
          go_wp2_with fail
          go_ret
          exact ⟨ret_bool (listEq_no HE.out.1 HE.out.2 HN.out).symm, m + nq, by rw [World.drewN_drewN]⟩
      · go_wp2_with fail
        go_ret
        exact ⟨ret_bool (listEq_yes (by rw [← H.len, ← H'.len]) (fun i x y hx hy => hq.out i (by have := (List.getElem?_eq_some_iff.1 hx).1; have := H.len; omega) x y hx hy)).symm, m, rfl⟩
  · have hne : ((n : Int) == n') = false := by simp; omega
    go_enter Try.func74, Try.ntmps74
    go_wp2
    go_ret
    exact ⟨ret_bool (listEq_len (by rw [← H.len, ← H'.len]; exact hnn)).symm, 0, rfl⟩

set_option maxHeartbeats 800000 in
theorem implKids (a a' : Option Addr) (n n' c c' : Nat) (es es' : List LEnt) (L U L' U' : Nat) (w : World) (H : EntsAt w L U a n es) (H' : EntsAt w L' U' a' n' es') :
    Calls Try.prog 76 #[.slice a n c, .slice a' n' c'] w fun e w' => e = .returned (.bool (listEq eEq es es')) ∧ ∃ m, w' = w.drewN m := by
  have hbd := H.bd
  have hbd' := H'.bd
  unfold maxLen at hbd hbd'
  by_cases hnn : n = n'
  · subst hnn
    go_enter Try.func76, Try.ntmps76
    go_wp2
    go_loopg [13] n (fun k i wr => ∃ j : Nat, j ≤ n ∧ Hid (k = n - j) ∧ i = .int .i64 j ∧ Hid (∀ i, i < j → ∀ x y, es[i]? = some x → es'[i]? = some y → eEq x y = true) ∧ Hid (∃ m, wr = w.drewN m))
    case atStart => exact ⟨0, Nat.zero_le _, by show _ = _; omega, rfl, fun i hi => by omega, ⟨0, rfl⟩⟩
    case round =>
      obtain ⟨j, hj, hk, rfl, hq, hb⟩ := hrel
      obtain ⟨m, rfl⟩ := hb.out
      by_cases hlt : j < n
      · obtain ⟨b, off, ha, hL, hbU, hc⟩ := H.at_ (by omega)
        obtain ⟨b', off', ha', hL', hbU', hc'⟩ := H'.at_ (by omega)
        subst ha ha'
        obtain ⟨e, he, hsz, hc0, hc1⟩ := hc j hlt
        obtain ⟨e2, he2, hsz2, hd0, hd1⟩ := hc' j hlt
        have HE : Hid (es[j]? = some e ∧ es'[j]? = some e2) := ⟨he, he2⟩
        clear he he2 hc hc'
        by_cases hnm : sEq e.name e2.name = true
        · have t1 : (e.name.toList == e2.name.toList) = true := hnm
          by_cases hid : e.id = e2.id
          · have HY : Hid (eEq e e2 = true) := eEq_yes ((sEq_iff _ _).1 hnm) hid
            clear hnm
            go_wp2_with fail
            go_quiet (fail)
            go_wp2_with fail
            go_roundg (n - (j + 1))
            case measure => have := hk.out; omega
            case rel =>
              refine ⟨j + 1, by omega, rfl, by go_num, fun i hi x y hx hy => ?_, ⟨_, rfl⟩⟩
              by_cases e : i = j
              · subst e
                rw [HE.out.1] at hx
                rw [HE.out.2] at hy
                cases hx
                cases hy
                exact HY.out
              · exact hq.out i (by omega) x y hx hy
          · have t2 : (e.id == e2.id) = false := by simpa using hid
            have HN : Hid (eEq e e2 = false) := by show _ = _; unfold eEq; rw [t2, Bool.and_false]
            clear hnm
            go_wp2_with fail
            go_quiet (fail)
            go_wp2_with fail
            go_ret
            exact ⟨ret_bool (listEq_no HE.out.1 HE.out.2 HN.out).symm, m + nq, by rw [World.drewN_drewN]⟩
        · have t1 : (e.name.toList == e2.name.toList) = false := by simpa [sEq] using hnm
          have HN : Hid (eEq e e2 = false) := by show _ = _; unfold eEq sEq; rw [t1, Bool.false_and]
          clear hnm
          go_wp2_with fail
          go_quiet (fail)
          go_wp2_with fail
          go_ret
          exact ⟨ret_bool (listEq_no HE.out.1 HE.out.2 HN.out).symm, m + nq, by rw [World.drewN_drewN]⟩
      · go_wp2_with fail
        go_ret
        exact ⟨ret_bool (listEq_yes (by rw [← H.len, ← H'.len]) (fun i x y hx hy => hq.out i (by have := (List.getElem?_eq_some_iff.1 hx).1; have := H.len; omega) x y hx hy)).symm, m, rfl⟩
  · have hne : ((n : Int) == n') = false := by simp; omega
    go_enter Try.func76, Try.ntmps76
    go_wp2
    go_ret
    exact ⟨ret_bool (listEq_len (by rw [← H.len, ← H'.len]; exact hnn)).symm, 0, rfl⟩


theorem Below.drewN (w : World) (m : Nat) : Below w.heap.size w (w.drewN m) := by
  induction m with
  | zero => exact Below.refl _ _
  | succ m ih => exact ⟨ih.os, ih.tape, ih.output, ih.size, ih.block⟩

set_option maxHeartbeats 400000 in
theorem objLike_any (k v : Int) (s : ByteArray) (a : Option Addr) (n c : Nat) (es : List LEnt) (k' v' : Int) (s' : ByteArray) (a' : Option Addr) (n' c' : Nat) (es' : List LEnt) (L U L' U' : Nat) (w : World) (hU : U ≤ w.heap.size) (hU' : U' ≤ w.heap.size) (H : EntsAt w L U a n es) (H' : EntsAt w L' U' a' n' es') :
    Calls Try.prog 56 #[.agg #[.int .i64 k, .int .i64 v, .string s, .slice a n c], .agg #[.int .i64 k', .int .i64 v', .string s', .slice a' n' c']] w fun e w' => e = .returned (.bool (oLike ⟨k, v, s, es⟩ ⟨k', v', s', es'⟩)) ∧ Below w.heap.size w w' := by
  have hB : ∀ o1 o2, Below w.heap.size w ((w.alloc o1).alloc o2) := fun o1 o2 => ((Below.refl _ _).alloc (Nat.le_refl _) _).alloc (by simp) _
  by_cases hk : k = k'
  · have HK : Hid (k = k') := hk
    have t0 : (k == k') = true := by simpa using hk
    clear hk
    by_cases ht : sEq s s' = true
    · have t1 : (s.toList == s'.toList) = true := ht
      have HT : Hid (sEq s s' = true) := ht
      clear ht
      go_enter Try.func56, Try.ntmps56
      go_wp2_with fail
      refine (implKids _ _ _ _ _ _ _ _ L U L' U' _ (H.below (hB _ _) hU) (H'.below (hB _ _) hU')).mono ?_
      rintro x w1 ⟨rfl, m, rfl⟩
      go_wp2_with fail
      go_ret
      exact ⟨ret_bool (by unfold oLike; simp [HK.out, HT.out]), (hB _ _).trans ((Below.drewN _ _).mono (by simp; omega))⟩
    · have t1 : (s.toList == s'.toList) = false := by simpa [sEq] using ht
      go_enter Try.func56, Try.ntmps56
      go_wp2_with fail
      go_ret
      exact ⟨ret_bool (by unfold oLike sEq; simp [t1]), hB _ _⟩
  · have t0 : (k == k') = false := by simpa using hk
    go_enter Try.func56, Try.ntmps56
    go_wp2_with fail
    go_ret
    exact ⟨ret_bool (by unfold oLike; simp [t0]), hB _ _⟩

set_option maxHeartbeats 400000 in
theorem objSame_any (k v : Int) (s : ByteArray) (a : Option Addr) (n c : Nat) (es : List LEnt) (k' v' : Int) (s' : ByteArray) (a' : Option Addr) (n' c' : Nat) (es' : List LEnt) (L U L' U' : Nat) (w : World) (hU : U ≤ w.heap.size) (hU' : U' ≤ w.heap.size) (H : EntsAt w L U a n es) (H' : EntsAt w L' U' a' n' es') :
    Calls Try.prog 55 #[.agg #[.int .i64 k, .int .i64 v, .string s, .slice a n c], .agg #[.int .i64 k', .int .i64 v', .string s', .slice a' n' c']] w fun e w' => e = .returned (.bool (oSame ⟨k, v, s, es⟩ ⟨k', v', s', es'⟩)) ∧ Below w.heap.size w w' := by
  have hB : ∀ o1 o2, Below w.heap.size w ((w.alloc o1).alloc o2) := fun o1 o2 => ((Below.refl _ _).alloc (Nat.le_refl _) _).alloc (by simp) _
  by_cases hk : v = v'
  · have HK : Hid (v = v') := hk
    have t0 : (v == v') = true := by simpa using hk
    clear hk
    go_enter Try.func55, Try.ntmps55
    go_wp2_with fail
    refine (objLike_any _ _ _ _ _ _ _ _ _ _ _ _ _ _ L U L' U' _ (by simp; omega) (by simp; omega) (H.below (hB _ _) hU) (H'.below (hB _ _) hU')).mono ?_
    rintro x w1 ⟨rfl, hb⟩
    go_wp2_with fail
    go_ret
    exact ⟨ret_bool (by unfold oSame; simp [HK.out]), (hB _ _).trans (hb.mono (by simp; omega))⟩
  · have t0 : (v == v') = false := by simpa using hk
    go_enter Try.func55, Try.ntmps55
    go_wp2_with fail
    go_ret
    exact ⟨ret_bool (by unfold oSame; simp [t0]), hB _ _⟩

set_option maxHeartbeats 800000 in
theorem equalFunc_like (a a' : Option Addr) (n n' c c' : Nat) (os os' : List LObj) (L U L' U' : Nat) (w : World) (hU : U ≤ w.heap.size) (hU' : U' ≤ w.heap.size) (H : ObjsAt w L U a n os) (H' : ObjsAt w L' U' a' n' os') :
    Calls Try.prog 54 #[.slice a n c, .slice a' n' c', .func (.func 56) #[] #[]] w fun e w' => e = .returned (.bool (listEq oLike os os')) ∧ Below w.heap.size w w' := by
  have hbd := H.bd
  have hbd' := H'.bd
  unfold maxLen at hbd hbd'
  by_cases hnn : n = n'
  · subst hnn
    go_enter Try.func54, Try.ntmps54
    go_wp2
    go_loopg [17] n (fun k i wr => ∃ j : Nat, j ≤ n ∧ Hid (k = n - j) ∧ i = .int .i64 j ∧ Hid (∀ i, i < j → ∀ x y, os[i]? = some x → os'[i]? = some y → oLike x y = true) ∧ Below w.heap.size w wr)
    case atStart => exact ⟨0, Nat.zero_le _, by show _ = _; omega, rfl, fun i hi => by omega, Below.refl _ _⟩
    case round =>
      obtain ⟨j, hj, hk, rfl, hq, hb⟩ := hrel
      by_cases hlt : j < n
      · obtain ⟨b, off, ha, hL, hbU, hc⟩ := H.at_ (by omega)
        obtain ⟨b', off', ha', hL', hbU', hc'⟩ := H'.at_ (by omega)
        subst ha ha'
        obtain ⟨o, ka, kn, kc, he, hsz, hc0, hc1, hc2, hc3, hks⟩ := hc j hlt
        obtain ⟨o2, ka2, kn2, kc2, he2, hsz2, hd0, hd1, hd2, hd3, hks2⟩ := hc' j hlt
        rw [← hb.cell (by simp; omega)] at hc0 hc1 hc2 hc3 hd0 hd1 hd2 hd3
        have HE : Hid (os[j]? = some o ∧ os'[j]? = some o2) := ⟨he, he2⟩
        clear he he2 hc hc'
        have hs1 := hb.size
        have hbl : b < wr.heap.size := by omega
        have hbl' : b' < wr.heap.size := by omega
        have hB : ∀ o1 o2, Below wr.heap.size wr ((wr.alloc o1).alloc o2) := fun o1 o2 => ((Below.refl _ _).alloc (Nat.le_refl _) _).alloc (by simp) _
        have hk1 := hks.below hb hU
        have hk2 := hks2.below hb hU'
        go_wp2_with fail
        refine (objLike_any _ _ _ _ _ _ _ _ _ _ _ _ _ _ L U L' U' _ (by simp; omega) (by simp; omega) (hk1.below (hB _ _) (by omega)) (hk2.below (hB _ _) (by omega))).mono ?_
        rintro x w1 ⟨rfl, hb1⟩
        have hb2 : Below w.heap.size w w1 := (hb.trans ((hB _ _).mono hs1)).trans (hb1.mono (by simp; omega))
        cases hp : oLike o o2
        · have HP : Hid (oLike o o2 = false) := hp
          clear hp
          go_wp2_with fail
          go_ret
          exact ⟨ret_bool (listEq_no HE.out.1 HE.out.2 HP.out).symm, hb2⟩
        · have HP : Hid (oLike o o2 = true) := hp
          clear hp
          go_wp2_with fail
          go_roundg (n - (j + 1))
          case measure => have := hk.out; omega
          case rel =>
            refine ⟨j + 1, by omega, rfl, by go_num, fun i hi x y hx hy => ?_, hb2⟩
            by_cases e : i = j
            · subst e
              rw [HE.out.1] at hx
              rw [HE.out.2] at hy
              cases hx
              cases hy
              exact HP.out
            · exact hq.out i (by omega) x y hx hy
      · go_wp2_with fail
        go_ret
        exact ⟨ret_bool (listEq_yes (by rw [← H.len, ← H'.len]) (fun i x y hx hy => hq.out i (by have := (List.getElem?_eq_some_iff.1 hx).1; have := H.len; omega) x y hx hy)).symm, hb⟩
  · have hne : ((n : Int) == n') = false := by simp; omega
    go_enter Try.func54, Try.ntmps54
    go_wp2
    go_ret
    exact ⟨ret_bool (listEq_len (by rw [← H.len, ← H'.len]; exact hnn)).symm, Below.refl _ _⟩

set_option maxHeartbeats 800000 in
theorem equalFunc_same (a a' : Option Addr) (n n' c c' : Nat) (os os' : List LObj) (L U L' U' : Nat) (w : World) (hU : U ≤ w.heap.size) (hU' : U' ≤ w.heap.size) (H : ObjsAt w L U a n os) (H' : ObjsAt w L' U' a' n' os') :
    Calls Try.prog 54 #[.slice a n c, .slice a' n' c', .func (.func 55) #[] #[]] w fun e w' => e = .returned (.bool (listEq oSame os os')) ∧ Below w.heap.size w w' := by
  have hbd := H.bd
  have hbd' := H'.bd
  unfold maxLen at hbd hbd'
  by_cases hnn : n = n'
  · subst hnn
    go_enter Try.func54, Try.ntmps54
    go_wp2
    go_loopg [17] n (fun k i wr => ∃ j : Nat, j ≤ n ∧ Hid (k = n - j) ∧ i = .int .i64 j ∧ Hid (∀ i, i < j → ∀ x y, os[i]? = some x → os'[i]? = some y → oSame x y = true) ∧ Below w.heap.size w wr)
    case atStart => exact ⟨0, Nat.zero_le _, by show _ = _; omega, rfl, fun i hi => by omega, Below.refl _ _⟩
    case round =>
      obtain ⟨j, hj, hk, rfl, hq, hb⟩ := hrel
      by_cases hlt : j < n
      · obtain ⟨b, off, ha, hL, hbU, hc⟩ := H.at_ (by omega)
        obtain ⟨b', off', ha', hL', hbU', hc'⟩ := H'.at_ (by omega)
        subst ha ha'
        obtain ⟨o, ka, kn, kc, he, hsz, hc0, hc1, hc2, hc3, hks⟩ := hc j hlt
        obtain ⟨o2, ka2, kn2, kc2, he2, hsz2, hd0, hd1, hd2, hd3, hks2⟩ := hc' j hlt
        rw [← hb.cell (by simp; omega)] at hc0 hc1 hc2 hc3 hd0 hd1 hd2 hd3
        have HE : Hid (os[j]? = some o ∧ os'[j]? = some o2) := ⟨he, he2⟩
        clear he he2 hc hc'
        have hs1 := hb.size
        have hbl : b < wr.heap.size := by omega
        have hbl' : b' < wr.heap.size := by omega
        have hB : ∀ o1 o2, Below wr.heap.size wr ((wr.alloc o1).alloc o2) := fun o1 o2 => ((Below.refl _ _).alloc (Nat.le_refl _) _).alloc (by simp) _
        have hk1 := hks.below hb hU
        have hk2 := hks2.below hb hU'
        go_wp2_with fail
        refine (objSame_any _ _ _ _ _ _ _ _ _ _ _ _ _ _ L U L' U' _ (by simp; omega) (by simp; omega) (hk1.below (hB _ _) (by omega)) (hk2.below (hB _ _) (by omega))).mono ?_
        rintro x w1 ⟨rfl, hb1⟩
        have hb2 : Below w.heap.size w w1 := (hb.trans ((hB _ _).mono hs1)).trans (hb1.mono (by simp; omega))
        cases hp : oSame o o2
        · have HP : Hid (oSame o o2 = false) := hp
          clear hp
          go_wp2_with fail
          go_ret
          exact ⟨ret_bool (listEq_no HE.out.1 HE.out.2 HP.out).symm, hb2⟩
        · have HP : Hid (oSame o o2 = true) := hp
          clear hp
          go_wp2_with fail
          go_roundg (n - (j + 1))
          case measure => have := hk.out; omega
          case rel =>
            refine ⟨j + 1, by omega, rfl, by go_num, fun i hi x y hx hy => ?_, hb2⟩
            by_cases e : i = j
            · subst e
              rw [HE.out.1] at hx
              rw [HE.out.2] at hy
              cases hx
              cases hy
              exact HP.out
            · exact hq.out i (by omega) x y hx hy
      · go_wp2_with fail
        go_ret
        exact ⟨ret_bool (listEq_yes (by rw [← H.len, ← H'.len]) (fun i x y hx hy => hq.out i (by have := (List.getElem?_eq_some_iff.1 hx).1; have := H.len; omega) x y hx hy)).symm, hb⟩
  · have hne : ((n : Int) == n') = false := by simp; omega
    go_enter Try.func54, Try.ntmps54
    go_wp2
    go_ret
    exact ⟨ret_bool (listEq_len (by rw [← H.len, ← H'.len]; exact hnn)).symm, Below.refl _ _⟩

theorem implSame (a a' : Option Addr) (n n' c c' : Nat) (os os' : List LObj) (L U L' U' : Nat) (w : World) (hU : U ≤ w.heap.size) (hU' : U' ≤ w.heap.size) (H : ObjsAt w L U a n os) (H' : ObjsAt w L' U' a' n' os') :
    Calls Try.prog 29 #[.agg #[.slice a n c], .agg #[.slice a' n' c']] w fun e w' => e = .returned (.bool (listEq oSame os os')) ∧ Below w.heap.size w w' := by
  have hB : ∀ o1 o2, Below w.heap.size w ((w.alloc o1).alloc o2) := fun o1 o2 => ((Below.refl _ _).alloc (Nat.le_refl _) _).alloc (by simp) _
  go_enter Try.func29, Try.ntmps29
  go_wp2_with fail
  refine (equalFunc_same _ _ _ _ _ _ _ _ L U L' U' _ (by simp; omega) (by simp; omega) (H.below (hB _ _) hU) (H'.below (hB _ _) hU')).mono ?_
  rintro x w1 ⟨rfl, hb⟩
  go_wp2_with fail
  go_ret
  exact ⟨rfl, (hB _ _).trans (hb.mono (by simp; omega))⟩

end Go.Proofs.Ytnfegihemhidgaa

/- The specification compares trees: contracts. -/
namespace Go.Proofs.Ytnfegihemhidgaa
open Go.RowKit

set_option maxHeartbeats 1000000 in
theorem specLike (a a' : Option Addr) (n n' c c' : Nat) (os os' : List LObj) (L U L' U' : Nat) (w : World) (hU : U ≤ w.heap.size) (hU' : U' ≤ w.heap.size) (H : ObjsAt w L U a n os) (H' : ObjsAt w L' U' a' n' os') :
    Calls Try.prog 50 #[.agg #[.slice a n c], .agg #[.slice a' n' c']] w fun e w' => e = .returned (.bool (listEq oLike os os')) ∧ Below w.heap.size w w' := by
  have hbd := H.bd
  have hbd' := H'.bd
  unfold maxLen at hbd hbd'
  have hB : ∀ o1 o2, Below w.heap.size w ((w.alloc o1).alloc o2) := fun o1 o2 => ((Below.refl _ _).alloc (Nat.le_refl _) _).alloc (by simp) _
  by_cases hnn : n = n'
  · subst hnn
    go_enter Try.func50, Try.ntmps50
    go_wp2
    go_loopg [5] n (fun k i wr => ∃ j : Nat, j ≤ n ∧ Hid (k = n - j) ∧ i = .int .i64 j ∧ Hid (∀ i, i < j → ∀ x y, os[i]? = some x → os'[i]? = some y → oLike x y = true) ∧ wr.cell? ⟨w.heap.size, 0, none⟩ = some (.slice a n c) ∧ wr.cell? ⟨w.heap.size + 1, 0, none⟩ = some (.slice a' n c') ∧ Below w.heap.size w wr)
    case atStart => exact ⟨0, Nat.zero_le _, by show _ = _; omega, rfl, fun i hi => by omega, by simp [go_sem], by simp [go_sem], hB _ _⟩
    case round =>
      obtain ⟨j, hj, hk, rfl, hq, hx1, hx2, hb⟩ := hrel
      by_cases hlt : j < n
      · obtain ⟨b, off, ha, hL, hbU, hc⟩ := H.at_ (by omega)
        obtain ⟨b', off', ha', hL', hbU', hc'⟩ := H'.at_ (by omega)
        subst ha ha'
        obtain ⟨o, ka, kn, kc, he, hsz, hc0, hc1, hc2, hc3, hks⟩ := hc j hlt
        obtain ⟨o2, ka2, kn2, kc2, he2, hsz2, hd0, hd1, hd2, hd3, hks2⟩ := hc' j hlt
        rw [← hb.cell (by simp; omega)] at hc0 hc1 hc2 hc3 hd0 hd1 hd2 hd3
        have HE : Hid (os[j]? = some o ∧ os'[j]? = some o2) := ⟨he, he2⟩
        clear he he2 hc hc'
        have hk1 := hks.below hb hU
        have hk2 := hks2.below hb hU'
        have hlt' : (j : Int) < (n : Int) := by omega
        by_cases hkd : o.kind = o2.kind
        · have t0 : (o.kind == o2.kind) = true := by simpa using hkd
          have t0' : (o.kind != o2.kind) = false := by simpa using hkd
          have HK : Hid (o.kind = o2.kind) := hkd
          clear hkd
          by_cases htx : sEq o.text o2.text = true
          · have t1 : (o.text.toList == o2.text.toList) = true := htx
            have HT : Hid (sEq o.text o2.text = true) := htx
            clear htx
            go_wp2_with fail
            go_quiet ((go_at_call 74; exact Calls.quiet_of (specKids _ _ _ _ _ _ _ _ L U L' U' _ (hk1.below (Below.drewN _ _) (by have := hb.size; omega)) (hk2.below (Below.drewN _ _) (by have := hb.size; omega)))))
            cases hp : listEq eEq o.kids o2.kids
            · have HP : Hid (listEq eEq o.kids o2.kids = false) := hp
              clear hp
              go_wp2_with fail
              go_ret
              exact ⟨ret_bool (listEq_no HE.out.1 HE.out.2 (by unfold oLike; rw [HP.out, Bool.and_false])).symm, hb.trans ((Below.drewN _ _).mono hb.size)⟩
            · have HP : Hid (listEq eEq o.kids o2.kids = true) := hp
              clear hp
              go_wp2_with fail
              go_roundg (n - (j + 1))
              case measure => have := hk.out; omega
              case rel =>
                refine ⟨j + 1, by omega, rfl, by go_num, fun i hi x y hx hy => ?_, by simpa using hx1, by simpa using hx2, hb.trans ((Below.drewN _ _).mono hb.size)⟩
                by_cases e : i = j
                · subst e
                  rw [HE.out.1] at hx
                  rw [HE.out.2] at hy
                  cases hx
                  cases hy
                  unfold oLike
                  rw [HP.out, HT.out, HK.out]
                  simp
                · exact hq.out i (by omega) x y hx hy
          · have t1 : (o.text.toList == o2.text.toList) = false := by simpa [sEq] using htx
            have HT : Hid (sEq o.text o2.text = false) := t1
            clear htx
            go_wp2_with fail
            go_quiet (fail)
            go_wp2_with fail
            go_ret
            exact ⟨ret_bool (listEq_no HE.out.1 HE.out.2 (by unfold oLike; rw [HT.out]; simp)).symm, hb.trans ((Below.drewN _ _).mono hb.size)⟩
        · have t0 : (o.kind == o2.kind) = false := by simpa using hkd
          have t0' : (o.kind != o2.kind) = true := by simpa using hkd
          have HK : Hid ((o.kind == o2.kind) = false) := t0
          clear hkd
          go_wp2_with fail
          go_quiet (fail)
          go_wp2_with fail
          go_ret
          exact ⟨ret_bool (listEq_no HE.out.1 HE.out.2 (by unfold oLike; rw [HK.out]; simp)).symm, hb.trans ((Below.drewN _ _).mono hb.size)⟩
      · go_wp2_with fail
        go_ret
        exact ⟨ret_bool (listEq_yes (by rw [← H.len, ← H'.len]) (fun i x y hx hy => hq.out i (by have := (List.getElem?_eq_some_iff.1 hx).1; have := H.len; omega) x y hx hy)).symm, hb⟩
  · have hne : ((n : Int) == n') = false := by simp; omega
    go_enter Try.func50, Try.ntmps50
    go_wp2
    go_ret
    exact ⟨ret_bool (listEq_len (by rw [← H.len, ← H'.len]; exact hnn)).symm, hB _ _⟩

def vers (a b : LObj) : Bool := a.ver == b.ver
theorem listEq_and {α : Type} (f g : α → α → Bool) : ∀ l m : List α, listEq (fun a b => f a b && g a b) l m = (listEq g l m && listEq f l m)
  | [], [] => rfl
  | [], _ :: _ => rfl
  | _ :: _, [] => rfl
  | a :: l, b :: m => by
    unfold listEq
    rw [listEq_and f g l m]
    cases f a b <;> cases g a b <;> cases listEq f l m <;> cases listEq g l m <;> rfl
theorem same_of (l m : List LObj) : listEq oSame l m = (listEq oLike l m && listEq vers l m) := listEq_and vers oLike l m

set_option maxHeartbeats 1000000 in
theorem specSame (a a' : Option Addr) (n n' c c' : Nat) (os os' : List LObj) (L U L' U' : Nat) (w : World) (hU : U ≤ w.heap.size) (hU' : U' ≤ w.heap.size) (H : ObjsAt w L U a n os) (H' : ObjsAt w L' U' a' n' os') :
    Calls Try.prog 27 #[.agg #[.slice a n c], .agg #[.slice a' n' c']] w fun e w' => e = .returned (.bool (listEq oSame os os')) ∧ Below w.heap.size w w' := by
  have hbd := H.bd
  have hbd' := H'.bd
  unfold maxLen at hbd hbd'
  have hB : ∀ o1 o2, Below w.heap.size w ((w.alloc o1).alloc o2) := fun o1 o2 => ((Below.refl _ _).alloc (Nat.le_refl _) _).alloc (by simp) _
  rw [same_of]
  go_enter Try.func27, Try.ntmps27
  go_wp2_with fail
  refine (specLike _ _ _ _ _ _ _ _ L U L' U' _ (by simp; omega) (by simp; omega) (H.below (hB _ _) hU) (H'.below (hB _ _) hU')).mono ?_
  rintro x w1 ⟨rfl, hb1⟩
  obtain ⟨hc, hf⟩ := bcell hb1
  have hx1 : w1.cell? ⟨w.heap.size, 0, none⟩ = some (.slice a n c) := by rw [hc _ _ (by simp; omega)]; simp [go_sem]
  have hx2 : w1.cell? ⟨w.heap.size + 1, 0, none⟩ = some (.slice a' n' c') := by rw [hc _ _ (by simp)]; simp [go_sem]
  have hb0 : Below w.heap.size w w1 := (hB _ _).trans (hb1.mono (by simp; omega))
  clear hc hf hb1
  cases hp : listEq oLike os os'
  · have HP : Hid (listEq oLike os os' = false) := hp
    clear hp
    go_wp2_with fail
    go_ret
    exact ⟨ret_bool (by rw [HP.out]; rfl), hb0⟩
  · have hnn : n = n' := by
      apply Classical.byContradiction
      intro h
      rw [listEq_len (by rw [← H.len, ← H'.len]; exact h)] at hp
      cases hp
    subst hnn
    have HP : Hid (listEq oLike os os' = true) := hp
    clear hp
    go_wp2_with fail
    go_loopg [5] n (fun k i wr => ∃ j : Nat, j ≤ n ∧ Hid (k = n - j) ∧ i = .int .i64 j ∧ Hid (∀ i, i < j → ∀ x y, os[i]? = some x → os'[i]? = some y → vers x y = true) ∧ wr.cell? ⟨w.heap.size, 0, none⟩ = some (.slice a n c) ∧ wr.cell? ⟨w.heap.size + 1, 0, none⟩ = some (.slice a' n c') ∧ Below w.heap.size w wr)
    case atStart => exact ⟨0, Nat.zero_le _, by show _ = _; omega, rfl, fun i hi => by omega, hx1, hx2, hb0⟩
    case round =>
      clear hx1 hx2 hb0
      obtain ⟨j, hj, hk, rfl, hq, hx1, hx2, hb⟩ := hrel
      by_cases hlt : j < n
      · obtain ⟨b, off, ha, hL, hbU, hc⟩ := H.at_ (by omega)
        obtain ⟨b', off', ha', hL', hbU', hc'⟩ := H'.at_ (by omega)
        subst ha ha'
        obtain ⟨o, ka, kn, kc, he, hsz, hc0, hc1, hc2, hc3, hks⟩ := hc j hlt
        obtain ⟨o2, ka2, kn2, kc2, he2, hsz2, hd0, hd1, hd2, hd3, hks2⟩ := hc' j hlt
        rw [← hb.cell (by simp; omega)] at hc1 hd1
        have HE : Hid (os[j]? = some o ∧ os'[j]? = some o2) := ⟨he, he2⟩
        clear he he2 hc hc' hc0 hc2 hc3 hd0 hd2 hd3 hks hks2
        have hlt' : (j : Int) < (n : Int) := by omega
        by_cases hv : o.ver = o2.ver
        · have t0 : (o.ver != o2.ver) = false := by simpa using hv
          have HV : Hid (vers o o2 = true) := by show _ = _; unfold vers; simpa using hv
          clear hv
          go_wp2_with fail
          go_quiet (fail)
          go_wp2_with fail
          go_roundg (n - (j + 1))
          case measure => have := hk.out; omega
          case rel =>
            refine ⟨j + 1, by omega, rfl, by go_num, fun i hi x y hx hy => ?_, by simpa using hx1, by simpa using hx2, hb.trans ((Below.drewN _ _).mono hb.size)⟩
            by_cases e : i = j
            · subst e
              rw [HE.out.1] at hx
              rw [HE.out.2] at hy
              cases hx
              cases hy
              exact HV.out
            · exact hq.out i (by omega) x y hx hy
        · have t0 : (o.ver != o2.ver) = true := by simpa using hv
          have HV : Hid (vers o o2 = false) := by show _ = _; unfold vers; simpa using hv
          clear hv
          go_wp2_with fail
          go_quiet (fail)
          go_wp2_with fail
          go_ret
          exact ⟨ret_bool (by rw [listEq_no HE.out.1 HE.out.2 HV.out, Bool.and_false]), hb.trans ((Below.drewN _ _).mono hb.size)⟩
      · go_wp2_with fail
        go_ret
        exact ⟨ret_bool (by rw [listEq_yes (f := vers) (by rw [← H.len, ← H'.len]) (fun i x y hx hy => hq.out i (by have := (List.getElem?_eq_some_iff.1 hx).1; have := H.len; omega) x y hx hy), HP.out]; rfl), hb⟩
end Go.Proofs.Ytnfegihemhidgaa

/- Small words for the laws' walks. -/
namespace Go.Proofs.Ytnfegihemhidgaa
open Go.RowKit

theorem totO_le {os : List LObj} {o : LObj} (h : o ∈ os) : totO o ≤ totT os := by
  induction os with
  | nil => simp at h
  | cons x l ih =>
    simp only [totT, List.map_cons, List.sum_cons]
    rcases List.mem_cons.1 h with h | h
    · subst h; omega
    · have := ih h; unfold totT at this; omega
theorem sizes_of {os : List LObj} {M : Nat} (h : totT os ≤ M) : Sizes os M := fun o ho => by
  have := totO_le ho
  unfold totO at this
  omega

theorem ObjsAt.drew {w : World} {L U : Nat} {a : Option Addr} {n : Nat} {os : List LObj} (h : ObjsAt w L U a n os) : ObjsAt w.drew L U a n os := h.below (B := U) (Below.refl _ _).drew (Nat.le_refl _)
theorem EntsAt.drew {w : World} {L U : Nat} {a : Option Addr} {n : Nat} {es : List LEnt} (h : EntsAt w L U a n es) : EntsAt w.drew L U a n es := h.below (B := U) (Below.refl _ _).drew (Nat.le_refl _)

/-- The two arguments lie boxed behind what was there. -/
structure Two (w wx : World) (v v' : Value) : Prop where
  below : Below w.heap.size w wx
  c0 : wx.cell? ⟨w.heap.size, 0, none⟩ = some v
  c1 : wx.cell? ⟨w.heap.size + 1, 0, none⟩ = some v'
  size : w.heap.size + 2 ≤ wx.heap.size
theorem Two.next {w wx wy : World} {v v' : Value} (h : Two w wx v v') (k : Below wx.heap.size wx wy) : Two w wy v v' :=
  ⟨h.below.trans (k.mono h.below.size), by rw [k.cell (by have := h.size; simp; omega)]; exact h.c0, by rw [k.cell (by have := h.size; simp; omega)]; exact h.c1, by have := k.size; have := h.size; omega⟩
theorem Two.drew {w wx : World} {v v' : Value} (h : Two w wx v v') : Two w wx.drew v v' := h.next (Below.refl _ _).drew

end Go.Proofs.Ytnfegihemhidgaa
