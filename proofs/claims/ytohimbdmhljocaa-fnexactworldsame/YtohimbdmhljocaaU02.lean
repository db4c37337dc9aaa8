/- Lemmas that the proofs of this seat share: SameAll, Kids12, Obj, OpsAll. -/
import Derived.Test.YtohimbdmhljocaaU01
import Derived.Deep.DeepCutAuto
import Derived.Deep.QuietTactic
import Derived.BigQuiet
/- The program and the specification compare names, objects and trees: contracts. -/
namespace Go.Proofs.Ytohimbdmhljocaa
open Go.RowKit

def sEq (s s' : ByteArray) : Bool := s.toList == s'.toList
theorem sEq_iff (s s' : ByteArray) : sEq s s' = true ↔ s = s' := by
  unfold sEq
  rw [beq_iff_eq, ByteArray.toList_eq, ByteArray.toList_eq]
  constructor
  · intro h
    cases s; cases s'; simp at h; simp [h]
  · intro h; rw [h]
def eEq (a b : LEnt) : Bool := sEq a.name b.name && a.id == b.id
theorem eEq_yes {a b : LEnt} (h : a.name = b.name) (k : a.id = b.id) : eEq a b = true := by
  unfold eEq; rw [(sEq_iff _ _).2 h, k]; simp
def listEq {α : Type} (f : α → α → Bool) : List α → List α → Bool
  | [], [] => true
  | a :: l, b :: m => f a b && listEq f l m
  | _, _ => false
theorem listEq_len {α : Type} {f : α → α → Bool} : ∀ {l m : List α}, l.length ≠ m.length → listEq f l m = false
  | [], [], h => absurd rfl h
  | [], _ :: _, _ => rfl
  | _ :: _, [], _ => rfl
  | a :: l, b :: m, h => by
    unfold listEq
    rw [listEq_len (l := l) (m := m) (by simpa using h), Bool.and_false]
theorem listEq_no {α : Type} {f : α → α → Bool} : ∀ {l m : List α} {j : Nat} {a b : α}, l[j]? = some a → m[j]? = some b → f a b = false → listEq f l m = false
  | [], _, j, _, _, h, _, _ => by simp at h
  | _ :: _, [], _, _, _, _, h, _ => by simp at h
  | a :: l, b :: m, 0, x, y, h, k, e => by
    simp at h k
    subst h k
    unfold listEq
    rw [e, Bool.false_and]
  | a :: l, b :: m, j + 1, x, y, h, k, e => by
    unfold listEq
    rw [listEq_no (l := l) (m := m) (j := j) (by simpa using h) (by simpa using k) e, Bool.and_false]
theorem listEq_yes {α : Type} {f : α → α → Bool} : ∀ {l m : List α}, l.length = m.length → (∀ (j : Nat) a b, l[j]? = some a → m[j]? = some b → f a b = true) → listEq f l m = true
  | [], [], _, _ => rfl
  | [], _ :: _, h, _ => by simp at h
  | _ :: _, [], h, _ => by simp at h
  | a :: l, b :: m, h, k => by
    unfold listEq
    rw [k 0 a b rfl rfl, Bool.true_and]
    exact listEq_yes (by simpa using h) (fun j x y hx hy => k (j + 1) x y (by simpa using hx) (by simpa using hy))
def oLike (a b : LObj) : Bool := a.kind == b.kind && sEq a.text b.text && listEq eEq a.kids b.kids
def oSame (a b : LObj) : Bool := a.ver == b.ver && oLike a b

set_option maxHeartbeats 800000 in
theorem specKids (a a' : Option Addr) (n n' c c' : Nat) (es es' : List LEnt) (L U L' U' : Nat) (w : World) (H : EntsAt w L U a n es) (H' : EntsAt w L' U' a' n' es') :
    Calls Try.prog 130 #[.slice a n c, .slice a' n' c'] w fun e w' => e = .returned (.bool (listEq eEq es es')) ∧ ∃ m, w' = w.drewN m := by
  have hbd := H.bd
  have hbd' := H'.bd
  unfold maxLen at hbd hbd'
  by_cases hnn : n = n'
  · subst hnn
    go_enter Try.func130, Try.ntmps130
    go_wp2
    go_loopg [5] n (fun k i wr => ∃ j : Nat, j ≤ n ∧ Hid (k = n - j) ∧ i = .int .i64 j ∧ Hid (∀ i, i < j → ∀ x y, es[i]? = some x → es'[i]? = some y → eEq x y = true) ∧ Hid (∃ m, wr = w.drewN m))
    case atStart => exact ⟨0, Nat.zero_le _, by show _ = _; omega, rfl, fun i hi => by omega, ⟨0, rfl⟩⟩
    case round =>
      obtain ⟨j, hj, hk, rfl, hq, hb⟩ := hrel
      obtain ⟨m, rfl⟩ := hb.out
      by_cases hlt : j < n
      · obtain ⟨b, off, ha, hL, hbU, hc⟩ := H.at_ (by omega)
        obtain ⟨b', off', ha', hL', hbU', hc'⟩ := H'.at_ (by omega)
        subst ha ha'
        obtain ⟨e, he, hsz, hc0, hc1⟩ := hc j hlt
        obtain ⟨e2, he2, hsz2, hd0, hd1⟩ := hc' j hlt
        have HE : Hid (es[j]? = some e ∧ es'[j]? = some e2) := ⟨he, he2⟩
        clear he he2 hc hc'
        by_cases hnm : sEq e.name e2.name = true
        · have t1 : (e.name.toList == e2.name.toList) = true := hnm
          by_cases hid : e.id = e2.id
          · have HY : Hid (eEq e e2 = true) := eEq_yes ((sEq_iff _ _).1 hnm) hid
            clear hnm
            go_wp2_with fail
            go_quiet (fail)
            go_wp2_with fail
            go_roundg (n - (j + 1))
            case measure => have := hk.out; omega
            case rel =>
              refine ⟨j + 1, by omega, rfl, by go_num, fun i hi x y hx hy => ?_, ⟨_, rfl⟩⟩
              by_cases e : i = j
              · subst e
                rw [HE.out.1] at hx
                rw [HE.out.2] at hy
                cases hx
                cases hy
                exact HY.out
              · exact hq.out i (by omega) x y hx hy
          · have t2 : (e.id == e2.id) = false := by simpa using hid
            have HN : Hid (eEq e e2 = false) := by show _ = _; unfold eEq; rw [t2, Bool.and_false]
            clear hnm
            go_wp2_with fail
            go_quiet (fail)
            go_wp2_with fail
            go_ret
            exact ⟨ret_bool (listEq_no HE.out.1 HE.out.2 HN.out).symm, m + nq, by rw [World.drewN_drewN]⟩
        · have t1 : (e.name.toList == e2.name.toList) = false := by simpa [sEq] using hnm
          have HN : Hid (eEq e e2 = false) := by show _ = _; unfold eEq sEq; rw [t1, Bool.false_and]
          clear hnm
          go_wp2_with fail
          go_quiet (fail)
          go_wp2_with fail
          go_ret
          exact ⟨ret_bool (listEq_no HE.out.1 HE.out.2 HN.out).symm, m + nq, by rw [World.drewN_drewN]⟩
      · go_wp2_with fail
        go_ret
        exact ⟨ret_bool (listEq_yes (by rw [← H.len, ← H'.len]) (fun i x y hx hy => hq.out i (by have := (List.getElem?_eq_some_iff.1 hx).1; have := H.len; omega) x y hx hy)).symm, m, rfl⟩
  · have hne : ((n : Int) == n') = false := by simp; omega
    go_enter Try.func130, Try.ntmps130
    go_wp2
    go_ret
    exact ⟨ret_bool (listEq_len (by rw [← H.len, ← H'.len]; exact hnn)).symm, 0, rfl⟩

set_option maxHeartbeats 800000 in
theorem implKids (a a' : Option Addr) (n n' c c' : Nat) (es es' : List LEnt) (L U L' U' : Nat) (w : World) (H : EntsAt w L U a n es) (H' : EntsAt w L' U' a' n' es') :
    Calls Try.prog 132 #[.slice a n c, .slice a' n' c'] w fun e w' => e = .returned (.bool (listEq eEq es es')) ∧ ∃ m, w' = w.drewN m := by
  have hbd := H.bd
  have hbd' := H'.bd
  unfold maxLen at hbd hbd'
  by_cases hnn : n = n'
  · subst hnn
    go_enter Try.func132, Try.ntmps132
    go_wp2
    go_loopg [13] n (fun k i wr => ∃ j : Nat, j ≤ n ∧ Hid (k = n - j) ∧ i = .int .i64 j ∧ Hid (∀ i, i < j → ∀ x y, es[i]? = some x → es'[i]? = some y → eEq x y = true) ∧ Hid (∃ m, wr = w.drewN m))
    case atStart => exact ⟨0, Nat.zero_le _, by show _ = _; omega, rfl, fun i hi => by omega, ⟨0, rfl⟩⟩
    case round =>
      obtain ⟨j, hj, hk, rfl, hq, hb⟩ := hrel
      obtain ⟨m, rfl⟩ := hb.out
      by_cases hlt : j < n
      · obtain ⟨b, off, ha, hL, hbU, hc⟩ := H.at_ (by omega)
        obtain ⟨b', off', ha', hL', hbU', hc'⟩ := H'.at_ (by omega)
        subst ha ha'
        obtain ⟨e, he, hsz, hc0, hc1⟩ := hc j hlt
        obtain ⟨e2, he2, hsz2, hd0, hd1⟩ := hc' j hlt
        have HE : Hid (es[j]? = some e ∧ es'[j]? = some e2) := ⟨he, he2⟩
        clear he he2 hc hc'
        by_cases hnm : sEq e.name e2.name = true
        · have t1 : (e.name.toList == e2.name.toList) = true := hnm
          by_cases hid : e.id = e2.id
          · have HY : Hid (eEq e e2 = true) := eEq_yes ((sEq_iff _ _).1 hnm) hid
            clear hnm
            go_wp2_with fail
            go_quiet (fail)
            go_wp2_with fail
            go_roundg (n - (j + 1))
            case measure => have := hk.out; omega
            case rel =>
              refine ⟨j + 1, by omega, rfl, by go_num, fun i hi x y hx hy => ?_, ⟨_, rfl⟩⟩
              by_cases e : i = j
              · subst e
                rw [HE.out.1] at hx
                rw [HE.out.2] at hy
                cases hx
                cases hy
                exact HY.out
              · exact hq.out i (by omega) x y hx hy
          · have t2 : (e.id == e2.id) = false := by simpa using hid
            have HN : Hid (eEq e e2 = false) := by show _ = _; unfold eEq; rw [t2, Bool.and_false]
            clear hnm
            go_wp2_with fail
            go_quiet (fail)
            go_wp2_with fail
            go_ret
            exact ⟨ret_bool (listEq_no HE.out.1 HE.out.2 HN.out).symm, m + nq, by rw [World.drewN_drewN]⟩
        · have t1 : (e.name.toList == e2.name.toList) = false := by simpa [sEq] using hnm
          have HN : Hid (eEq e e2 = false) := by show _ = _; unfold eEq sEq; rw [t1, Bool.false_and]
          clear hnm
          go_wp2_with fail
          go_quiet (fail)
          go_wp2_with fail
          go_ret
          exact ⟨ret_bool (listEq_no HE.out.1 HE.out.2 HN.out).symm, m + nq, by rw [World.drewN_drewN]⟩
      · go_wp2_with fail
        go_ret
        exact ⟨ret_bool (listEq_yes (by rw [← H.len, ← H'.len]) (fun i x y hx hy => hq.out i (by have := (List.getElem?_eq_some_iff.1 hx).1; have := H.len; omega) x y hx hy)).symm, m, rfl⟩
  · have hne : ((n : Int) == n') = false := by simp; omega
    go_enter Try.func132, Try.ntmps132
    go_wp2
    go_ret
    exact ⟨ret_bool (listEq_len (by rw [← H.len, ← H'.len]; exact hnn)).symm, 0, rfl⟩


theorem Below.drewN (w : World) (m : Nat) : Below w.heap.size w (w.drewN m) := by
  induction m with
  | zero => exact Below.refl _ _
  | succ m ih => exact ⟨ih.os, ih.tape, ih.output, ih.size, ih.block⟩

set_option maxHeartbeats 400000 in
theorem objLike_any (k v : Int) (s : ByteArray) (a : Option Addr) (n c : Nat) (es : List LEnt) (k' v' : Int) (s' : ByteArray) (a' : Option Addr) (n' c' : Nat) (es' : List LEnt) (L U L' U' : Nat) (w : World) (hU : U ≤ w.heap.size) (hU' : U' ≤ w.heap.size) (H : EntsAt w L U a n es) (H' : EntsAt w L' U' a' n' es') :
    Calls Try.prog 126 #[.agg #[.int .i64 k, .int .i64 v, .string s, .slice a n c], .agg #[.int .i64 k', .int .i64 v', .string s', .slice a' n' c']] w fun e w' => e = .returned (.bool (oLike ⟨k, v, s, es⟩ ⟨k', v', s', es'⟩)) ∧ Below w.heap.size w w' := by
  have hB : ∀ o1 o2, Below w.heap.size w ((w.alloc o1).alloc o2) := fun o1 o2 => ((Below.refl _ _).alloc (Nat.le_refl _) _).alloc (by simp) _
  by_cases hk : k = k'
  · have HK : Hid (k = k') := hk
    have t0 : (k == k') = true := by simpa using hk
    clear hk
    by_cases ht : sEq s s' = true
    · have t1 : (s.toList == s'.toList) = true := ht
      have HT : Hid (sEq s s' = true) := ht
      clear ht
      go_enter Try.func126, Try.ntmps126
      go_wp2_with fail
      refine (implKids _ _ _ _ _ _ _ _ L U L' U' _ (H.below (hB _ _) hU) (H'.below (hB _ _) hU')).mono ?_
      rintro x w1 ⟨rfl, m, rfl⟩
      go_wp2_with fail
      go_ret
      exact ⟨ret_bool (by unfold oLike; simp [HK.out, HT.out]), (hB _ _).trans ((Below.drewN _ _).mono (by simp; omega))⟩
    · have t1 : (s.toList == s'.toList) = false := by simpa [sEq] using ht
      go_enter Try.func126, Try.ntmps126
      go_wp2_with fail
      go_ret
      exact ⟨ret_bool (by unfold oLike sEq; simp [t1]), hB _ _⟩
  · have t0 : (k == k') = false := by simpa using hk
    go_enter Try.func126, Try.ntmps126
    go_wp2_with fail
    go_ret
    exact ⟨ret_bool (by unfold oLike; simp [t0]), hB _ _⟩

set_option maxHeartbeats 400000 in
theorem objSame_any (k v : Int) (s : ByteArray) (a : Option Addr) (n c : Nat) (es : List LEnt) (k' v' : Int) (s' : ByteArray) (a' : Option Addr) (n' c' : Nat) (es' : List LEnt) (L U L' U' : Nat) (w : World) (hU : U ≤ w.heap.size) (hU' : U' ≤ w.heap.size) (H : EntsAt w L U a n es) (H' : EntsAt w L' U' a' n' es') :
    Calls Try.prog 125 #[.agg #[.int .i64 k, .int .i64 v, .string s, .slice a n c], .agg #[.int .i64 k', .int .i64 v', .string s', .slice a' n' c']] w fun e w' => e = .returned (.bool (oSame ⟨k, v, s, es⟩ ⟨k', v', s', es'⟩)) ∧ Below w.heap.size w w' := by
  have hB : ∀ o1 o2, Below w.heap.size w ((w.alloc o1).alloc o2) := fun o1 o2 => ((Below.refl _ _).alloc (Nat.le_refl _) _).alloc (by simp) _
  by_cases hk : v = v'
  · have HK : Hid (v = v') := hk
    have t0 : (v == v') = true := by simpa using hk
    clear hk
    go_enter Try.func125, Try.ntmps125
    go_wp2_with fail
    refine (objLike_any _ _ _ _ _ _ _ _ _ _ _ _ _ _ L U L' U' _ (by simp; omega) (by simp; omega) (H.below (hB _ _) hU) (H'.below (hB _ _) hU')).mono ?_
    rintro x w1 ⟨rfl, hb⟩
    go_wp2_with fail
    go_ret
    exact ⟨ret_bool (by unfold oSame; simp [HK.out]), (hB _ _).trans (hb.mono (by simp; omega))⟩
  · have t0 : (v == v') = false := by simpa using hk
    go_enter Try.func125, Try.ntmps125
    go_wp2_with fail
    go_ret
    exact ⟨ret_bool (by unfold oSame; simp [t0]), hB _ _⟩

set_option maxHeartbeats 800000 in
theorem equalFunc_like (a a' : Option Addr) (n n' c c' : Nat) (os os' : List LObj) (L U L' U' : Nat) (w : World) (hU : U ≤ w.heap.size) (hU' : U' ≤ w.heap.size) (H : ObjsAt w L U a n os) (H' : ObjsAt w L' U' a' n' os') :
    Calls Try.prog 124 #[.slice a n c, .slice a' n' c', .func (.func 126) #[] #[]] w fun e w' => e = .returned (.bool (listEq oLike os os')) ∧ Below w.heap.size w w' := by
  have hbd := H.bd
  have hbd' := H'.bd
  unfold maxLen at hbd hbd'
  by_cases hnn : n = n'
  · subst hnn
    go_enter Try.func124, Try.ntmps124
    go_wp2
    go_loopg [17] n (fun k i wr => ∃ j : Nat, j ≤ n ∧ Hid (k = n - j) ∧ i = .int .i64 j ∧ Hid (∀ i, i < j → ∀ x y, os[i]? = some x → os'[i]? = some y → oLike x y = true) ∧ Below w.heap.size w wr)
    case atStart => exact ⟨0, Nat.zero_le _, by show _ = _; omega, rfl, fun i hi => by omega, Below.refl _ _⟩
    case round =>
      obtain ⟨j, hj, hk, rfl, hq, hb⟩ := hrel
      by_cases hlt : j < n
      · obtain ⟨b, off, ha, hL, hbU, hc⟩ := H.at_ (by omega)
        obtain ⟨b', off', ha', hL', hbU', hc'⟩ := H'.at_ (by omega)
        subst ha ha'
        obtain ⟨o, ka, kn, kc, he, hsz, hc0, hc1, hc2, hc3, hks⟩ := hc j hlt
        obtain ⟨o2, ka2, kn2, kc2, he2, hsz2, hd0, hd1, hd2, hd3, hks2⟩ := hc' j hlt
        rw [← hb.cell (by simp; omega)] at hc0 hc1 hc2 hc3 hd0 hd1 hd2 hd3
        have HE : Hid (os[j]? = some o ∧ os'[j]? = some o2) := ⟨he, he2⟩
        clear he he2 hc hc'
        have hs1 := hb.size
        have hbl : b < wr.heap.size := by omega
        have hbl' : b' < wr.heap.size := by omega
        have hB : ∀ o1 o2, Below wr.heap.size wr ((wr.alloc o1).alloc o2) := fun o1 o2 => ((Below.refl _ _).alloc (Nat.le_refl _) _).alloc (by simp) _
        have hk1 := hks.below hb hU
        have hk2 := hks2.below hb hU'
        go_wp2_with fail
        refine (objLike_any _ _ _ _ _ _ _ _ _ _ _ _ _ _ L U L' U' _ (by simp; omega) (by simp; omega) (hk1.below (hB _ _) (by omega)) (hk2.below (hB _ _) (by omega))).mono ?_
        rintro x w1 ⟨rfl, hb1⟩
        have hb2 : Below w.heap.size w w1 := (hb.trans ((hB _ _).mono hs1)).trans (hb1.mono (by simp; omega))
        cases hp : oLike o o2
        · have HP : Hid (oLike o o2 = false) := hp
          clear hp
          go_wp2_with fail
          go_ret
          exact ⟨ret_bool (listEq_no HE.out.1 HE.out.2 HP.out).symm, hb2⟩
        · have HP : Hid (oLike o o2 = true) := hp
          clear hp
          go_wp2_with fail
          go_roundg (n - (j + 1))
          case measure => have := hk.out; omega
          case rel =>
            refine ⟨j + 1, by omega, rfl, by go_num, fun i hi x y hx hy => ?_, hb2⟩
            by_cases e : i = j
            · subst e
              rw [HE.out.1] at hx
              rw [HE.out.2] at hy
              cases hx
              cases hy
              exact HP.out
            · exact hq.out i (by omega) x y hx hy
      · go_wp2_with fail
        go_ret
        exact ⟨ret_bool (listEq_yes (by rw [← H.len, ← H'.len]) (fun i x y hx hy => hq.out i (by have := (List.getElem?_eq_some_iff.1 hx).1; have := H.len; omega) x y hx hy)).symm, hb⟩
  · have hne : ((n : Int) == n') = false := by simp; omega
    go_enter Try.func124, Try.ntmps124
    go_wp2
    go_ret
    exact ⟨ret_bool (listEq_len (by rw [← H.len, ← H'.len]; exact hnn)).symm, Below.refl _ _⟩

set_option maxHeartbeats 800000 in
theorem equalFunc_same (a a' : Option Addr) (n n' c c' : Nat) (os os' : List LObj) (L U L' U' : Nat) (w : World) (hU : U ≤ w.heap.size) (hU' : U' ≤ w.heap.size) (H : ObjsAt w L U a n os) (H' : ObjsAt w L' U' a' n' os') :
    Calls Try.prog 124 #[.slice a n c, .slice a' n' c', .func (.func 125) #[] #[]] w fun e w' => e = .returned (.bool (listEq oSame os os')) ∧ Below w.heap.size w w' := by
  have hbd := H.bd
  have hbd' := H'.bd
  unfold maxLen at hbd hbd'
  by_cases hnn : n = n'
  · subst hnn
    go_enter Try.func124, Try.ntmps124
    go_wp2
    go_loopg [17] n (fun k i wr => ∃ j : Nat, j ≤ n ∧ Hid (k = n - j) ∧ i = .int .i64 j ∧ Hid (∀ i, i < j → ∀ x y, os[i]? = some x → os'[i]? = some y → oSame x y = true) ∧ Below w.heap.size w wr)
    case atStart => exact ⟨0, Nat.zero_le _, by show _ = _; omega, rfl, fun i hi => by omega, Below.refl _ _⟩
    case round =>
      obtain ⟨j, hj, hk, rfl, hq, hb⟩ := hrel
      by_cases hlt : j < n
      · obtain ⟨b, off, ha, hL, hbU, hc⟩ := H.at_ (by omega)
        obtain ⟨b', off', ha', hL', hbU', hc'⟩ := H'.at_ (by omega)
        subst ha ha'
        obtain ⟨o, ka, kn, kc, he, hsz, hc0, hc1, hc2, hc3, hks⟩ := hc j hlt
        obtain ⟨o2, ka2, kn2, kc2, he2, hsz2, hd0, hd1, hd2, hd3, hks2⟩ := hc' j hlt
        rw [← hb.cell (by simp; omega)] at hc0 hc1 hc2 hc3 hd0 hd1 hd2 hd3
        have HE : Hid (os[j]? = some o ∧ os'[j]? = some o2) := ⟨he, he2⟩
        clear he he2 hc hc'
        have hs1 := hb.size
        have hbl : b < wr.heap.size := by omega
        have hbl' : b' < wr.heap.size := by omega
        have hB : ∀ o1 o2, Below wr.heap.size wr ((wr.alloc o1).alloc o2) := fun o1 o2 => ((Below.refl _ _).alloc (Nat.le_refl _) _).alloc (by simp) _
        have hk1 := hks.below hb hU
        have hk2 := hks2.below hb hU'
        go_wp2_with fail
        refine (objSame_any _ _ _ _ _ _ _ _ _ _ _ _ _ _ L U L' U' _ (by simp; omega) (by simp; omega) (hk1.below (hB _ _) (by omega)) (hk2.below (hB _ _) (by omega))).mono ?_
        rintro x w1 ⟨rfl, hb1⟩
        have hb2 : Below w.heap.size w w1 := (hb.trans ((hB _ _).mono hs1)).trans (hb1.mono (by simp; omega))
        cases hp : oSame o o2
        · have HP : Hid (oSame o o2 = false) := hp
          clear hp
          go_wp2_with fail
          go_ret
          exact ⟨ret_bool (listEq_no HE.out.1 HE.out.2 HP.out).symm, hb2⟩
        · have HP : Hid (oSame o o2 = true) := hp
          clear hp
          go_wp2_with fail
          go_roundg (n - (j + 1))
          case measure => have := hk.out; omega
          case rel =>
            refine ⟨j + 1, by omega, rfl, by go_num, fun i hi x y hx hy => ?_, hb2⟩
            by_cases e : i = j
            · subst e
              rw [HE.out.1] at hx
              rw [HE.out.2] at hy
              cases hx
              cases hy
              exact HP.out
            · exact hq.out i (by omega) x y hx hy
      · go_wp2_with fail
        go_ret
        exact ⟨ret_bool (listEq_yes (by rw [← H.len, ← H'.len]) (fun i x y hx hy => hq.out i (by have := (List.getElem?_eq_some_iff.1 hx).1; have := H.len; omega) x y hx hy)).symm, hb⟩
  · have hne : ((n : Int) == n') = false := by simp; omega
    go_enter Try.func124, Try.ntmps124
    go_wp2
    go_ret
    exact ⟨ret_bool (listEq_len (by rw [← H.len, ← H'.len]; exact hnn)).symm, Below.refl _ _⟩

theorem implSame (a a' : Option Addr) (n n' c c' : Nat) (os os' : List LObj) (L U L' U' : Nat) (w : World) (hU : U ≤ w.heap.size) (hU' : U' ≤ w.heap.size) (H : ObjsAt w L U a n os) (H' : ObjsAt w L' U' a' n' os') :
    Calls Try.prog 101 #[.agg #[.slice a n c], .agg #[.slice a' n' c']] w fun e w' => e = .returned (.bool (listEq oSame os os')) ∧ Below w.heap.size w w' := by
  have hB : ∀ o1 o2, Below w.heap.size w ((w.alloc o1).alloc o2) := fun o1 o2 => ((Below.refl _ _).alloc (Nat.le_refl _) _).alloc (by simp) _
  go_enter Try.func101, Try.ntmps101
  go_wp2_with fail
  refine (equalFunc_same _ _ _ _ _ _ _ _ L U L' U' _ (by simp; omega) (by simp; omega) (H.below (hB _ _) hU) (H'.below (hB _ _) hU')).mono ?_
  rintro x w1 ⟨rfl, hb⟩
  go_wp2_with fail
  go_ret
  exact ⟨rfl, (hB _ _).trans (hb.mono (by simp; omega))⟩

end Go.Proofs.Ytohimbdmhljocaa

/- The specification compares trees: contracts. -/
namespace Go.Proofs.Ytohimbdmhljocaa
open Go.RowKit

set_option maxHeartbeats 1000000 in
theorem specLike (a a' : Option Addr) (n n' c c' : Nat) (os os' : List LObj) (L U L' U' : Nat) (w : World) (hU : U ≤ w.heap.size) (hU' : U' ≤ w.heap.size) (H : ObjsAt w L U a n os) (H' : ObjsAt w L' U' a' n' os') :
    Calls Try.prog 120 #[.agg #[.slice a n c], .agg #[.slice a' n' c']] w fun e w' => e = .returned (.bool (listEq oLike os os')) ∧ Below w.heap.size w w' := by
  have hbd := H.bd
  have hbd' := H'.bd
  unfold maxLen at hbd hbd'
  have hB : ∀ o1 o2, Below w.heap.size w ((w.alloc o1).alloc o2) := fun o1 o2 => ((Below.refl _ _).alloc (Nat.le_refl _) _).alloc (by simp) _
  by_cases hnn : n = n'
  · subst hnn
    go_enter Try.func120, Try.ntmps120
    go_wp2
    go_loopg [5] n (fun k i wr => ∃ j : Nat, j ≤ n ∧ Hid (k = n - j) ∧ i = .int .i64 j ∧ Hid (∀ i, i < j → ∀ x y, os[i]? = some x → os'[i]? = some y → oLike x y = true) ∧ wr.cell? ⟨w.heap.size, 0, none⟩ = some (.slice a n c) ∧ wr.cell? ⟨w.heap.size + 1, 0, none⟩ = some (.slice a' n c') ∧ Below w.heap.size w wr)
    case atStart => exact ⟨0, Nat.zero_le _, by show _ = _; omega, rfl, fun i hi => by omega, by simp [go_sem], by simp [go_sem], hB _ _⟩
    case round =>
      obtain ⟨j, hj, hk, rfl, hq, hx1, hx2, hb⟩ := hrel
      by_cases hlt : j < n
      · obtain ⟨b, off, ha, hL, hbU, hc⟩ := H.at_ (by omega)
        obtain ⟨b', off', ha', hL', hbU', hc'⟩ := H'.at_ (by omega)
        subst ha ha'
        obtain ⟨o, ka, kn, kc, he, hsz, hc0, hc1, hc2, hc3, hks⟩ := hc j hlt
        obtain ⟨o2, ka2, kn2, kc2, he2, hsz2, hd0, hd1, hd2, hd3, hks2⟩ := hc' j hlt
        rw [← hb.cell (by simp; omega)] at hc0 hc1 hc2 hc3 hd0 hd1 hd2 hd3
        have HE : Hid (os[j]? = some o ∧ os'[j]? = some o2) := ⟨he, he2⟩
        clear he he2 hc hc'
        have hk1 := hks.below hb hU
        have hk2 := hks2.below hb hU'
        have hlt' : (j : Int) < (n : Int) := by omega
        by_cases hkd : o.kind = o2.kind
        · have t0 : (o.kind == o2.kind) = true := by simpa using hkd
          have t0' : (o.kind != o2.kind) = false := by simpa using hkd
          have HK : Hid (o.kind = o2.kind) := hkd
          clear hkd
          by_cases htx : sEq o.text o2.text = true
          · have t1 : (o.text.toList == o2.text.toList) = true := htx
            have HT : Hid (sEq o.text o2.text = true) := htx
            clear htx
            go_wp2_with fail
            go_quiet ((go_at_call 130; exact Calls.quiet_of (specKids _ _ _ _ _ _ _ _ L U L' U' _ (hk1.below (Below.drewN _ _) (by have := hb.size; omega)) (hk2.below (Below.drewN _ _) (by have := hb.size; omega)))))
            cases hp : listEq eEq o.kids o2.kids
            · have HP : Hid (listEq eEq o.kids o2.kids = false) := hp
              clear hp
              go_wp2_with fail
              go_ret
              exact ⟨ret_bool (listEq_no HE.out.1 HE.out.2 (by unfold oLike; rw [HP.out, Bool.and_false])).symm, hb.trans ((Below.drewN _ _).mono hb.size)⟩
            · have HP : Hid (listEq eEq o.kids o2.kids = true) := hp
              clear hp
              go_wp2_with fail
              go_roundg (n - (j + 1))
              case measure => have := hk.out; omega
              case rel =>
                refine ⟨j + 1, by omega, rfl, by go_num, fun i hi x y hx hy => ?_, by simpa using hx1, by simpa using hx2, hb.trans ((Below.drewN _ _).mono hb.size)⟩
                by_cases e : i = j
                · subst e
                  rw [HE.out.1] at hx
                  rw [HE.out.2] at hy
                  cases hx
                  cases hy
                  unfold oLike
                  rw [HP.out, HT.out, HK.out]
                  simp
                · exact hq.out i (by omega) x y hx hy
          · have t1 : (o.text.toList == o2.text.toList) = false := by simpa [sEq] using htx
            have HT : Hid (sEq o.text o2.text = false) := t1
            clear htx
            go_wp2_with fail
            go_quiet (fail)
            go_wp2_with fail
            go_ret
            exact ⟨ret_bool (listEq_no HE.out.1 HE.out.2 (by unfold oLike; rw [HT.out]; simp)).symm, hb.trans ((Below.drewN _ _).mono hb.size)⟩
        · have t0 : (o.kind == o2.kind) = false := by simpa using hkd
          have t0' : (o.kind != o2.kind) = true := by simpa using hkd
          have HK : Hid ((o.kind == o2.kind) = false) := t0
          clear hkd
          go_wp2_with fail
          go_quiet (fail)
          go_wp2_with fail
          go_ret
          exact ⟨ret_bool (listEq_no HE.out.1 HE.out.2 (by unfold oLike; rw [HK.out]; simp)).symm, hb.trans ((Below.drewN _ _).mono hb.size)⟩
      · go_wp2_with fail
        go_ret
        exact ⟨ret_bool (listEq_yes (by rw [← H.len, ← H'.len]) (fun i x y hx hy => hq.out i (by have := (List.getElem?_eq_some_iff.1 hx).1; have := H.len; omega) x y hx hy)).symm, hb⟩
  · have hne : ((n : Int) == n') = false := by simp; omega
    go_enter Try.func120, Try.ntmps120
    go_wp2
    go_ret
    exact ⟨ret_bool (listEq_len (by rw [← H.len, ← H'.len]; exact hnn)).symm, hB _ _⟩

def vers (a b : LObj) : Bool := a.ver == b.ver
theorem listEq_and {α : Type} (f g : α → α → Bool) : ∀ l m : List α, listEq (fun a b => f a b && g a b) l m = (listEq g l m && listEq f l m)
  | [], [] => rfl
  | [], _ :: _ => rfl
  | _ :: _, [] => rfl
  | a :: l, b :: m => by
    unfold listEq
    rw [listEq_and f g l m]
    cases f a b <;> cases g a b <;> cases listEq f l m <;> cases listEq g l m <;> rfl
theorem same_of (l m : List LObj) : listEq oSame l m = (listEq oLike l m && listEq vers l m) := listEq_and vers oLike l m

set_option maxHeartbeats 1000000 in
theorem specSame (a a' : Option Addr) (n n' c c' : Nat) (os os' : List LObj) (L U L' U' : Nat) (w : World) (hU : U ≤ w.heap.size) (hU' : U' ≤ w.heap.size) (H : ObjsAt w L U a n os) (H' : ObjsAt w L' U' a' n' os') :
    Calls Try.prog 94 #[.agg #[.slice a n c], .agg #[.slice a' n' c']] w fun e w' => e = .returned (.bool (listEq oSame os os')) ∧ Below w.heap.size w w' := by
  have hbd := H.bd
  have hbd' := H'.bd
  unfold maxLen at hbd hbd'
  have hB : ∀ o1 o2, Below w.heap.size w ((w.alloc o1).alloc o2) := fun o1 o2 => ((Below.refl _ _).alloc (Nat.le_refl _) _).alloc (by simp) _
  rw [same_of]
  go_enter Try.func94, Try.ntmps94
  go_wp2_with fail
  refine (specLike _ _ _ _ _ _ _ _ L U L' U' _ (by simp; omega) (by simp; omega) (H.below (hB _ _) hU) (H'.below (hB _ _) hU')).mono ?_
  rintro x w1 ⟨rfl, hb1⟩
  obtain ⟨hc, hf⟩ := bcell hb1
  have hx1 : w1.cell? ⟨w.heap.size, 0, none⟩ = some (.slice a n c) := by rw [hc _ _ (by simp; omega)]; simp [go_sem]
  have hx2 : w1.cell? ⟨w.heap.size + 1, 0, none⟩ = some (.slice a' n' c') := by rw [hc _ _ (by simp)]; simp [go_sem]
  have hb0 : Below w.heap.size w w1 := (hB _ _).trans (hb1.mono (by simp; omega))
  clear hc hf hb1
  cases hp : listEq oLike os os'
  · have HP : Hid (listEq oLike os os' = false) := hp
    clear hp
    go_wp2_with fail
    go_ret
    exact ⟨ret_bool (by rw [HP.out]; rfl), hb0⟩
  · have hnn : n = n' := by
      apply Classical.byContradiction
      intro h
      rw [listEq_len (by rw [← H.len, ← H'.len]; exact h)] at hp
      cases hp
    subst hnn
    have HP : Hid (listEq oLike os os' = true) := hp
    clear hp
    go_wp2_with fail
    go_loopg [5] n (fun k i wr => ∃ j : Nat, j ≤ n ∧ Hid (k = n - j) ∧ i = .int .i64 j ∧ Hid (∀ i, i < j → ∀ x y, os[i]? = some x → os'[i]? = some y → vers x y = true) ∧ wr.cell? ⟨w.heap.size, 0, none⟩ = some (.slice a n c) ∧ wr.cell? ⟨w.heap.size + 1, 0, none⟩ = some (.slice a' n c') ∧ Below w.heap.size w wr)
    case atStart => exact ⟨0, Nat.zero_le _, by show _ = _; omega, rfl, fun i hi => by omega, hx1, hx2, hb0⟩
    case round =>
      clear hx1 hx2 hb0
      obtain ⟨j, hj, hk, rfl, hq, hx1, hx2, hb⟩ := hrel
      by_cases hlt : j < n
      · obtain ⟨b, off, ha, hL, hbU, hc⟩ := H.at_ (by omega)
        obtain ⟨b', off', ha', hL', hbU', hc'⟩ := H'.at_ (by omega)
        subst ha ha'
        obtain ⟨o, ka, kn, kc, he, hsz, hc0, hc1, hc2, hc3, hks⟩ := hc j hlt
        obtain ⟨o2, ka2, kn2, kc2, he2, hsz2, hd0, hd1, hd2, hd3, hks2⟩ := hc' j hlt
        rw [← hb.cell (by simp; omega)] at hc1 hd1
        have HE : Hid (os[j]? = some o ∧ os'[j]? = some o2) := ⟨he, he2⟩
        clear he he2 hc hc' hc0 hc2 hc3 hd0 hd2 hd3 hks hks2
        have hlt' : (j : Int) < (n : Int) := by omega
        by_cases hv : o.ver = o2.ver
        · have t0 : (o.ver != o2.ver) = false := by simpa using hv
          have HV : Hid (vers o o2 = true) := by show _ = _; unfold vers; simpa using hv
          clear hv
          go_wp2_with fail
          go_quiet (fail)
          go_wp2_with fail
          go_roundg (n - (j + 1))
          case measure => have := hk.out; omega
          case rel =>
            refine ⟨j + 1, by omega, rfl, by go_num, fun i hi x y hx hy => ?_, by simpa using hx1, by simpa using hx2, hb.trans ((Below.drewN _ _).mono hb.size)⟩
            by_cases e : i = j
            · subst e
              rw [HE.out.1] at hx
              rw [HE.out.2] at hy
              cases hx
              cases hy
              exact HV.out
            · exact hq.out i (by omega) x y hx hy
        · have t0 : (o.ver != o2.ver) = true := by simpa using hv
          have HV : Hid (vers o o2 = false) := by show _ = _; unfold vers; simpa using hv
          clear hv
          go_wp2_with fail
          go_quiet (fail)
          go_wp2_with fail
          go_ret
          exact ⟨ret_bool (by rw [listEq_no HE.out.1 HE.out.2 HV.out, Bool.and_false]), hb.trans ((Below.drewN _ _).mono hb.size)⟩
      · go_wp2_with fail
        go_ret
        exact ⟨ret_bool (by rw [listEq_yes (f := vers) (by rw [← H.len, ← H'.len]) (fun i x y hx hy => hq.out i (by have := (List.getElem?_eq_some_iff.1 hx).1; have := H.len; omega) x y hx hy), HP.out]; rfl), hb⟩
end Go.Proofs.Ytohimbdmhljocaa

/- Small words for the laws' walks. -/
namespace Go.Proofs.Ytohimbdmhljocaa
open Go.RowKit

theorem totO_le {os : List LObj} {o : LObj} (h : o ∈ os) : totO o ≤ totT os := by
  induction os with
  | nil => simp at h
  | cons x l ih =>
    simp only [totT, List.map_cons, List.sum_cons]
    rcases List.mem_cons.1 h with h | h
    · subst h; omega
    · have := ih h; unfold totT at this; omega
theorem ObjsAt.drew {w : World} {L U : Nat} {a : Option Addr} {n : Nat} {os : List LObj} (h : ObjsAt w L U a n os) : ObjsAt w.drew L U a n os := h.below (B := U) (Below.refl _ _).drew (Nat.le_refl _)
theorem EntsAt.drew {w : World} {L U : Nat} {a : Option Addr} {n : Nat} {es : List LEnt} (h : EntsAt w L U a n es) : EntsAt w.drew L U a n es := h.below (B := U) (Below.refl _ _).drew (Nat.le_refl _)

/-- The two arguments lie boxed behind what was there. -/
structure Two (w wx : World) (v v' : Value) : Prop where
  below : Below w.heap.size w wx
  c0 : wx.cell? ⟨w.heap.size, 0, none⟩ = some v
  c1 : wx.cell? ⟨w.heap.size + 1, 0, none⟩ = some v'
  size : w.heap.size + 2 ≤ wx.heap.size
theorem Two.next {w wx wy : World} {v v' : Value} (h : Two w wx v v') (k : Below wx.heap.size wx wy) : Two w wy v v' :=
  ⟨h.below.trans (k.mono h.below.size), by rw [k.cell (by have := h.size; simp; omega)]; exact h.c0, by rw [k.cell (by have := h.size; simp; omega)]; exact h.c1, by have := k.size; have := h.size; omega⟩
theorem Two.drew {w wx : World} {v v' : Value} (h : Two w wx v v') : Two w wx.drew v v' := h.next (Below.refl _ _).drew

end Go.Proofs.Ytohimbdmhljocaa

/- Names of a directory, and what is ok of an object: contracts of the program's functions. -/
namespace Go.Proofs.Ytohimbdmhljocaa
open Go.RowKit

end Go.Proofs.Ytohimbdmhljocaa

/- Names of a directory: contracts of the functions of the specification. -/
namespace Go.Proofs.Ytohimbdmhljocaa
open Go.RowKit

theorem EntsAt.drewN {w : World} {L U : Nat} {a : Option Addr} {n : Nat} {es : List LEnt} (h : EntsAt w L U a n es) (m : Nat) : EntsAt (w.drewN m) L U a n es := h.below (B := U) ⟨rfl, rfl, rfl, Nat.le_refl _, fun _ _ => rfl⟩ (Nat.le_refl _)
theorem ObjsAt.drewN {w : World} {L U : Nat} {a : Option Addr} {n : Nat} {os : List LObj} (h : ObjsAt w L U a n os) (m : Nat) : ObjsAt (w.drewN m) L U a n os := h.below (B := U) ⟨rfl, rfl, rfl, Nat.le_refl _, fun _ _ => rfl⟩ (Nat.le_refl _)
end Go.Proofs.Ytohimbdmhljocaa

/- What is ok of one object: contracts of the program and of the specification. -/
namespace Go.Proofs.Ytohimbdmhljocaa
open Go.RowKit

def nil? (n : Nat) : Bool := decide (n = 0)
end Go.Proofs.Ytohimbdmhljocaa

/- What is done: whether it can be done at all. -/
namespace Go.Proofs.Ytohimbdmhljocaa
open Go.RowKit

structure LOp where
  kind : Int
  dir : Int
  name : ByteArray
  dir2 : Int
  name2 : ByteArray
  id : Int
  text : ByteArray
def LOp.val (o : LOp) : Array Value := #[.int .i64 o.kind, .int .i64 o.dir, .string o.name, .int .i64 o.dir2, .string o.name2, .int .i64 o.id, .string o.text]
end Go.Proofs.Ytohimbdmhljocaa

/- What is done, as an argument: read as data, its size, its copy. -/
namespace Go.Proofs.Ytohimbdmhljocaa
open Go.RowKit Go.ChangeShapes Go.WideShapes

structure OpSz (o : LOp) : Prop where
  name : o.name.size ≤ maxLen
  name2 : o.name2.size ≤ maxLen
  text : o.text.size ≤ maxLen
section
variable {H : Type} {enc : TypeId × Value → H} {w : World} {spare : Nat → Bool} {held : Bool}
theorem trod_struct7 {P : Program} {base : Nat} {t : TypeId} {f0 f1 f2 f3 f4 f5 f6 : Field} {fuel : Nat} {cs : List Value} {x : DataW H × List MemPlace} (ht : P.underlying t = some (.struct #[f0, f1, f2, f3, f4, f5, f6])) (h : DataW.trod enc P w base spare held fuel t cs = some x) :
    ∃ y0 y1 y2 y3 y4 y5 y6 n, DataW.trod enc P w base spare held n f0.type ((cs.drop f0.offset).take (P.cellsOf f0.type)) = some y0 ∧ DataW.trod enc P w base spare held n f1.type ((cs.drop f1.offset).take (P.cellsOf f1.type)) = some y1 ∧
      DataW.trod enc P w base spare held n f2.type ((cs.drop f2.offset).take (P.cellsOf f2.type)) = some y2 ∧ DataW.trod enc P w base spare held n f3.type ((cs.drop f3.offset).take (P.cellsOf f3.type)) = some y3 ∧
      DataW.trod enc P w base spare held n f4.type ((cs.drop f4.offset).take (P.cellsOf f4.type)) = some y4 ∧ DataW.trod enc P w base spare held n f5.type ((cs.drop f5.offset).take (P.cellsOf f5.type)) = some y5 ∧
      DataW.trod enc P w base spare held n f6.type ((cs.drop f6.offset).take (P.cellsOf f6.type)) = some y6 := by
  obtain ⟨xs, n, _, rfl, hl, hlen, hf⟩ := DataW.trod_struct ht h
  match xs, hlen with
  | [y0, y1, y2, y3, y4, y5, y6], _ => exact ⟨y0, y1, y2, y3, y4, y5, y6, n, by simpa using hf 0 f0 rfl, by simpa using hf 1 f1 rfl, by simpa using hf 2 f2 rfl, by simpa using hf 3 f3 rfl, by simpa using hf 4 f4 rfl, by simpa using hf 5 f5 rfl, by simpa using hf 6 f6 rfl⟩

theorem open_op_cells {fuel : Nat} {v0 v1 v2 v3 v4 v5 v6 : Value} {x : DataW H × List MemPlace} (h : DataW.trod enc Try.prog w 0 spare held fuel 148 [v0, v1, v2, v3, v4, v5, v6] = some x) :
    ∃ o : LOp, [v0, v1, v2, v3, v4, v5, v6] = o.val.toList ∧ OpSz o := by
  have c3 : Try.prog.cellsOf 3 = 1 := by kernel_rfl
  have c9 : Try.prog.cellsOf 9 = 1 := by kernel_rfl
  obtain ⟨y0, y1, y2, y3, y4, y5, y6, n, t0, t1, t2, t3, t4, t5, t6⟩ := trod_struct7 Try.underlying148 h
  simp [c3, c9] at t0 t1 t2 t3 t4 t5 t6
  obtain ⟨k0, e0, _, _⟩ := DataW.trod_int Try.underlying3 t0
  obtain ⟨k1, e1, _, _⟩ := DataW.trod_int Try.underlying3 t1
  obtain ⟨k2, e2, _, h2⟩ := DataW.trod_string Try.underlying9 t2
  obtain ⟨k3, e3, _, _⟩ := DataW.trod_int Try.underlying3 t3
  obtain ⟨k4, e4, _, h4⟩ := DataW.trod_string Try.underlying9 t4
  obtain ⟨k5, e5, _, _⟩ := DataW.trod_int Try.underlying3 t5
  obtain ⟨k6, e6, _, h6⟩ := DataW.trod_string Try.underlying9 t6
  simp at e0 e1 e2 e3 e4 e5 e6
  exact ⟨⟨k0, k1, k2, k3, k4, k5, k6⟩, by simp [LOp.val, e0, e1, e2, e3, e4, e5, e6], h2, h4, h6⟩
end

theorem szOp_any (o : LOp) (left : Int) (w : World) (h0 : 0 ≤ left) (h1 : left ≤ 1048576) (hs : OpSz o) :
    Calls Try.prog 107 #[.agg o.val, .int .i64 left] w fun e w' => (∃ r : Int, e = .returned (.int .i64 r) ∧ (r = -1 ∨ 0 ≤ r ∧ r = left - o.name.size - o.name2.size - o.text.size)) ∧ Below w.heap.size w w' := by
  obtain ⟨hn, hn2, ht⟩ := hs
  unfold maxLen at hn hn2 ht
  simp only [LOp.val]
  by_cases c1 : left - o.name.size < 0
  · go_enter Try.func107, Try.ntmps107
    go_wp2
    go_ret
    exact ⟨⟨-1, rfl, .inl rfl⟩, (Below.refl _ _).alloc (Nat.le_refl _) _⟩
  by_cases c2 : left - o.name.size - o.name2.size < 0
  · go_enter Try.func107, Try.ntmps107
    go_wp2
    go_ret
    exact ⟨⟨-1, rfl, .inl rfl⟩, (Below.refl _ _).alloc (Nat.le_refl _) _⟩
  by_cases c3 : left - o.name.size - o.name2.size - o.text.size < 0
  · go_enter Try.func107, Try.ntmps107
    go_wp2
    go_ret
    exact ⟨⟨-1, rfl, .inl rfl⟩, (Below.refl _ _).alloc (Nat.le_refl _) _⟩
  · go_enter Try.func107, Try.ntmps107
    go_wp2
    go_ret
    exact ⟨⟨_, rfl, .inr ⟨by omega, rfl⟩⟩, (Below.refl _ _).alloc (Nat.le_refl _) _⟩

theorem toOp_any (o : LOp) (w : World) :
    Calls Try.prog 109 #[.agg o.val] w fun e w' => e = .returned (.agg o.val) ∧ Below w.heap.size w w' := by
  simp only [LOp.val]
  go_enter Try.func109, Try.ntmps109
  go_wp2
  exact bodyPost_ret (v := .agg o.val) (by simp [results, Try.results109, go_sem, LOp.val]) rfl ⟨rfl, (((Below.refl _ _).alloc (Nat.le_refl _) _).alloc (by simp) _).alloc (by simp; omega) _⟩
end Go.Proofs.Ytohimbdmhljocaa

/- What is done: the program's OpOk. -/
namespace Go.Proofs.Ytohimbdmhljocaa
open Go.RowKit

end Go.Proofs.Ytohimbdmhljocaa

/- Lists of what is done: in memory, their sizes, their copies, compared. -/
namespace Go.Proofs.Ytohimbdmhljocaa
open Go.RowKit Go.ChangeShapes Go.WideShapes

structure OpAt (w : World) (b k : Nat) (o : LOp) : Prop where
  c0 : w.cell? ⟨b, k, none⟩ = some (.int .i64 o.kind)
  c1 : w.cell? ⟨b, k + 1, none⟩ = some (.int .i64 o.dir)
  c2 : w.cell? ⟨b, k + 2, none⟩ = some (.string o.name)
  c3 : w.cell? ⟨b, k + 3, none⟩ = some (.int .i64 o.dir2)
  c4 : w.cell? ⟨b, k + 4, none⟩ = some (.string o.name2)
  c5 : w.cell? ⟨b, k + 5, none⟩ = some (.int .i64 o.id)
  c6 : w.cell? ⟨b, k + 6, none⟩ = some (.string o.text)
theorem OpAt.of_block {w w' : World} {b k : Nat} {o : LOp} (h : OpAt w b k o) (e : w'.heap[b]? = w.heap[b]?) : OpAt w' b k o := by
  have hc : ∀ j, w'.cell? ⟨b, j, none⟩ = w.cell? ⟨b, j, none⟩ := fun j => World.cell?_of_block (w := w) e
  exact ⟨by rw [hc]; exact h.c0, by rw [hc]; exact h.c1, by rw [hc]; exact h.c2, by rw [hc]; exact h.c3, by rw [hc]; exact h.c4, by rw [hc]; exact h.c5, by rw [hc]; exact h.c6⟩
structure OpsAt (w : World) (L U : Nat) (a : Option Addr) (n : Nat) (ops : List LOp) : Prop where
  len : n = ops.length
  bd : n ≤ maxLen
  at_ : n ≠ 0 → ∃ b off, a = some ⟨b, off, none⟩ ∧ L ≤ b ∧ b < U ∧ ∀ i, i < n → ∃ o, ops[i]? = some o ∧ OpSz o ∧ OpAt w b (off + i * 7) o
theorem OpsAt.below {w w' : World} {L U B : Nat} {a : Option Addr} {n : Nat} {ops : List LOp} (h : OpsAt w L U a n ops) (hb : Below B w w') (hU : U ≤ B) : OpsAt w' L U a n ops :=
  ⟨h.len, h.bd, fun hn => by
    obtain ⟨b, off, ha, hL, hbU, hc⟩ := h.at_ hn
    refine ⟨b, off, ha, hL, hbU, fun i hi => ?_⟩
    obtain ⟨o, ho, hs, h0⟩ := hc i hi
    exact ⟨o, ho, hs, h0.of_block (hb.block b (by omega))⟩⟩
theorem OpsAt.wide {w : World} {L U L' U' : Nat} {a : Option Addr} {n : Nat} {ops : List LOp} (h : OpsAt w L U a n ops) (hL' : L' ≤ L) (hU : U ≤ U') : OpsAt w L' U' a n ops :=
  ⟨h.len, h.bd, fun hn => by
    obtain ⟨b, off, ha, hL, hbU, hc⟩ := h.at_ hn
    exact ⟨b, off, ha, by omega, by omega, hc⟩⟩

/-! Read as data. -/
section
variable {H : Type} {enc : TypeId × Value → H} {w : World} {spare : Nat → Bool} {held : Bool}
theorem list7 {α : Type} {l : List α} (h : l.length = 7) : ∃ a b c d e f g, l = [a, b, c, d, e, f, g] := by
  match l, h with
  | [a, b, c, d, e, f, g], _ => exact ⟨a, b, c, d, e, f, g, rfl⟩
theorem open_ops_at {fuel : Nat} {v : Value} {x : DataW H × List MemPlace} (h : DataW.trod enc Try.prog w 0 spare held fuel 60 [v] = some x) :
    ∃ a n c ops, v = .slice a n c ∧ OpsAt w 0 w.heap.size a n ops := by
  have ce : Try.prog.cellsOf 148 = 7 := by kernel_rfl
  rcases Go.Deep.open_slice Try.underlying60 h with ⟨hcs, _⟩ | ⟨a, len, cap, m, n, D, Pl, hcs, _, hl, hm, hmm, _, hx⟩
  · simp at hcs
    exact ⟨none, 0, 0, [], hcs, rfl, by simp, fun h => absurd rfl h⟩
  · simp at hcs
    have hlm : len ≤ m := by rw [hmm]; split <;> omega
    obtain ⟨ops, hos, hp⟩ := list_of (n := len) (p := fun i (o : LOp) => OpSz o ∧ w.cell? (a.add (i * 7)) = some (.int .i64 o.kind) ∧ w.cell? (a.add (i * 7 + 1)) = some (.int .i64 o.dir) ∧ w.cell? (a.add (i * 7 + 2)) = some (.string o.name) ∧ w.cell? (a.add (i * 7 + 3)) = some (.int .i64 o.dir2) ∧ w.cell? (a.add (i * 7 + 4)) = some (.string o.name2) ∧ w.cell? (a.add (i * 7 + 5)) = some (.int .i64 o.id) ∧ w.cell? (a.add (i * 7 + 6)) = some (.string o.text)) (fun i hi => by
      obtain ⟨cs', h1, h2⟩ := hx i (by omega)
      rw [ce] at h1
      obtain ⟨_, hlen, hcell⟩ := World.cells?_some h1
      obtain ⟨v0, v1, v2, v3, v4, v5, v6, rfl⟩ := list7 hlen
      obtain ⟨o, ho, hs⟩ := open_op_cells h2
      simp [LOp.val] at ho
      obtain ⟨rfl, rfl, rfl, rfl, rfl, rfl, rfl⟩ := ho
      have g0 := hcell 0 (by omega)
      have g1 := hcell 1 (by omega)
      have g2 := hcell 2 (by omega)
      have g3 := hcell 3 (by omega)
      have g4 := hcell 4 (by omega)
      have g5 := hcell 5 (by omega)
      have g6 := hcell 6 (by omega)
      rw [Go.Deep.add_add] at g0 g1 g2 g3 g4 g5 g6
      exact ⟨o, hs, by simpa using g0, by simpa using g1, by simpa using g2, by simpa using g3, by simpa using g4, by simpa using g5, by simpa using g6⟩)
    refine ⟨some a, len, cap, ops, hcs, hos.symm, by omega, fun hn => ?_⟩
    obtain ⟨b, off, spot⟩ := a
    obtain ⟨_, _, _, c0, _⟩ := hp 0 (by omega)
    have hspot : spot = none := by simpa [Addr.add] using World.cell?_spot c0
    subst hspot
    refine ⟨b, off, rfl, Nat.zero_le _, by have := cell_lt c0; simpa [Addr.add] using this, fun i hi => ?_⟩
    obtain ⟨o, ho, hs, q0, q1, q2, q3, q4, q5, q6⟩ := hp i hi
    exact ⟨o, ho, hs, by rw [← addr_add]; exact q0, by rw [Nat.add_assoc, ← addr_add]; exact q1, by rw [Nat.add_assoc, ← addr_add]; exact q2, by rw [Nat.add_assoc, ← addr_add]; exact q3, by rw [Nat.add_assoc, ← addr_add]; exact q4, by rw [Nat.add_assoc, ← addr_add]; exact q5, by rw [Nat.add_assoc, ← addr_add]; exact q6⟩
end

/-! Sizes. -/
def totOp (o : LOp) : Nat := o.name.size + o.name2.size + o.text.size
def totOps (ops : List LOp) : Nat := (ops.map totOp).sum
theorem totOps_take {ops : List LOp} {j : Nat} {o : LOp} (h : ops[j]? = some o) : totOps (ops.take (j + 1)) = totOps (ops.take j) + totOp o := by
  have hj : j < ops.length := (List.getElem?_eq_some_iff.1 h).1
  rw [List.take_succ_eq_append_getElem hj]
  have : ops[j] = o := (List.getElem?_eq_some_iff.1 h).2
  simp [totOps, this]

set_option maxHeartbeats 400000 in
theorem szOpS_any (a : Option Addr) (n c : Nat) (ops : List LOp) (L U : Nat) (left : Int) (w : World) (h0 : 0 ≤ left) (h1 : left ≤ 1048576) (hU : U ≤ w.heap.size) (H : OpsAt w L U a n ops) :
    Calls Try.prog 64 #[.slice a n c, .int .i64 left] w fun e w' => (∃ r : Int, e = .returned (.int .i64 r) ∧ (r = -1 ∨ (0 ≤ r ∧ r = left - n - totOps ops))) ∧ Below w.heap.size w w' := by
  have hbd := H.bd
  unfold maxLen at hbd
  by_cases h : left - n < 0
  · go_enter Try.func64, Try.ntmps64
    go_wp2
    go_ret
    exact ⟨⟨-1, rfl, .inl rfl⟩, Below.refl _ _⟩
  · go_enter Try.func64, Try.ntmps64
    go_wp2
    go_loopg [1, 5] n (fun k l i wr => ∃ j : Nat, j ≤ n ∧ Hid (k = n - j) ∧ i = .int .i64 j ∧ (∃ r : Int, l = .int .i64 r ∧ 0 ≤ r ∧ r ≤ 1048576 ∧ Hid (r = left - n - totOps (ops.take j))) ∧ Below w.heap.size w wr)
    case atStart => exact ⟨0, Nat.zero_le _, by show _ = _; omega, rfl, ⟨_, rfl, by omega, by omega, by show _ = _; simp [totOps]⟩, Below.refl _ _⟩
    case round =>
      obtain ⟨j, hj, hk, rfl, ⟨r, rfl, hr0, hr1, hr⟩, hb⟩ := hrel
      by_cases hlt : j < n
      · obtain ⟨b, off, ha, hL, hbU, hc⟩ := H.at_ (by omega)
        subst ha
        obtain ⟨o, he, hsz, hat⟩ := hc j hlt
        obtain ⟨d0, d1, d2, d3, d4, d5, d6⟩ := hat.of_block (hb.block b (by omega))
        have HE : Hid (ops[j]? = some o) := he
        have HSZ := fun l w h0 h1 => szOp_any o l w h0 h1 hsz
        simp only [LOp.val] at HSZ
        have hlt' : (j : Int) < (n : Int) := by omega
        clear he hc hat
        go_wp2_with fail
        refine (HSZ _ _ hr0 hr1).mono ?_
        rintro x w1 ⟨⟨r1, rfl, hr1'⟩, hb1⟩
        have HR : Hid (r1 = -1 ∨ 0 ≤ r1 ∧ r1 = r - o.name.size - o.name2.size - o.text.size) := hr1'
        clear hr1' HSZ
        by_cases hneg : r1 < 0
        · go_wp2_with fail
          go_ret
          exact ⟨⟨-1, rfl, .inl rfl⟩, hb.trans (hb1.mono hb.size)⟩
        · go_wp2_with fail
          go_roundg (n - (j + 1))
          case measure => have := hk.out; omega
          case rel =>
            have := HR.out
            have h3 := totOps_take HE.out
            have h4 := hr.out
            unfold totOp at h3
            exact ⟨j + 1, by omega, rfl, by go_num, ⟨r1, rfl, by omega, by omega, by show _ = _; omega⟩, hb.trans (hb1.mono hb.size)⟩
      · go_wp2_with fail
        go_ret
        have h4 := hr.out
        rw [List.take_of_length_le (by have := H.len; omega)] at h4
        exact ⟨⟨r, rfl, .inr ⟨hr0, h4⟩⟩, hb⟩

/-! Copies. -/
theorem info65 : (Try.prog.info? 151).map (fun i => (i.zero.map (·.cells), i.size, i.bytes)) = some (some #[.int .i64 0, .int .i64 0, .string ByteArray.empty, .int .i64 0, .string ByteArray.empty, .int .i64 0, .string ByteArray.empty], 7, 80) := by kernel_rfl
def opF (f : Nat → Value) (i : Nat) (o : LOp) : Prop := f (i * 7) = .int .i64 o.kind ∧ f (i * 7 + 1) = .int .i64 o.dir ∧ f (i * 7 + 2) = .string o.name ∧ f (i * 7 + 3) = .int .i64 o.dir2 ∧ f (i * 7 + 4) = .string o.name2 ∧ f (i * 7 + 5) = .int .i64 o.id ∧ f (i * 7 + 6) = .string o.text

set_option maxHeartbeats 1000000 in
theorem toOpS_any (a : Option Addr) (n c : Nat) (ops : List LOp) (L U : Nat) (w : World) (hn : n ≤ 1048576) (hU : U ≤ w.heap.size) (H : OpsAt w L U a n ops) :
    Calls Try.prog 66 #[.slice a n c] w fun e w' => (∃ b, e = .returned (.slice (some ⟨b, 0, none⟩) n n) ∧ OpsAt w' w.heap.size w'.heap.size (some ⟨b, 0, none⟩) n ops) ∧ Below w.heap.size w w' := by
  have hmk := run_make_many 64 151 _ 7 80 Try.underlying64 info65 n (by omega) (by omega)
  obtain ⟨f0, hf0⟩ := rowIs_many w #[.int .i64 0, .int .i64 0, .string ByteArray.empty, .int .i64 0, .string ByteArray.empty, .int .i64 0, .string ByteArray.empty] (n * 7) 151
  have HF0 : Hid ((w.alloc (.cells (madeCells #[.int .i64 0, .int .i64 0, .string ByteArray.empty, .int .i64 0, .string ByteArray.empty, .int .i64 0, .string ByteArray.empty] (n * 7)) 151)).rowIs w.heap.size 151 (n * 7) f0) := hf0
  clear hf0
  go_enter Try.func66, Try.ntmps66
  go_wp2
  go_loopg [4] n (fun k i wr => ∃ j : Nat, j ≤ n ∧ Hid (k = n - j) ∧ i = .int .i64 j ∧ (∃ f, Hid (wr.rowIs w.heap.size 151 (n * 7) f ∧ ∀ i, i < j → ∃ o, ops[i]? = some o ∧ opF f i o)) ∧ Below w.heap.size w wr)
  case atStart => exact ⟨0, Nat.zero_le _, by show _ = _; omega, rfl, ⟨f0, HF0.out, fun i hi => by omega⟩, (Below.refl _ _).alloc (Nat.le_refl _) _⟩
  case round =>
    obtain ⟨j, hj, hk, rfl, ⟨f, hf⟩, hb⟩ := hrel
    by_cases hlt : j < n
    · obtain ⟨b, off, ha, hL, hbU, hc⟩ := H.at_ (by omega)
      subst ha
      obtain ⟨o, he, hsz, hat⟩ := hc j hlt
      obtain ⟨d0, d1, d2, d3, d4, d5, d6⟩ := hat.of_block (hb.block b (by omega))
      have HE : Hid (ops[j]? = some o) := he
      have HTO := toOp_any o
      simp only [LOp.val] at HTO
      have hlt' : (j : Int) < (n : Int) := by omega
      have hrl := hf.out.1.lt
      clear he hc hat
      go_wp2_with fail
      refine (HTO _).mono ?_
      rintro x w1 ⟨rfl, hb1⟩
      have hrow := hf.out.1.of_block (hb1.block w.heap.size hf.out.1.lt)
      have g0 := hrow.cell (i := j * 7) (by omega)
      have g1 := hrow.cell (i := j * 7 + 1) (by omega)
      have g2 := hrow.cell (i := j * 7 + 2) (by omega)
      have g3 := hrow.cell (i := j * 7 + 3) (by omega)
      have g4 := hrow.cell (i := j * 7 + 4) (by omega)
      have g5 := hrow.cell (i := j * 7 + 5) (by omega)
      have g6 := hrow.cell (i := j * 7 + 6) (by omega)
      have z0 := hrow.frozen (j * 7)
      have z1 := hrow.frozen (j * 7 + 1)
      have z2 := hrow.frozen (j * 7 + 2)
      have z3 := hrow.frozen (j * 7 + 3)
      have z4 := hrow.frozen (j * 7 + 4)
      have z5 := hrow.frozen (j * 7 + 5)
      have z6 := hrow.frozen (j * 7 + 6)
      have HR : Hid (w1.rowIs w.heap.size 151 (n * 7) f) := hrow
      clear hrow HTO d0 d1 d2 d3 d4 d5 d6
      go_wp2_with fail
      go_roundg (n - (j + 1))
      case measure => have := hk.out; omega
      case rel =>
        have hbs := hb1.size
        refine ⟨j + 1, by omega, rfl, by go_num, ⟨_, (((((((HR.out.set (j * 7) (.int .i64 o.kind)).set (j * 7 + 1) (.int .i64 o.dir)).set (j * 7 + 2) (.string o.name)).set (j * 7 + 3) (.int .i64 o.dir2)).set (j * 7 + 4) (.string o.name2)).set (j * 7 + 5) (.int .i64 o.id)).set (j * 7 + 6) (.string o.text)), fun i hi => ?_⟩, ((((((((hb.trans (hb1.mono hb.size)).setCell (by simp) _).setCell (by simp) _).setCell (by simp) _).setCell (by simp) _).setCell (by simp) _).setCell (by simp) _).setCell (by simp) _)⟩
        by_cases hij : i = j
        · subst hij
          exact ⟨o, HE.out, by simp, by simp, by simp, by simp, by simp, by simp, by simp⟩
        · obtain ⟨o', he', q0, q1, q2, q3, q4, q5, q6⟩ := hf.out.2 i (by omega)
          refine ⟨o', he', ?_, ?_, ?_, ?_, ?_, ?_, ?_⟩ <;> dsimp only <;> rw [if_neg (by omega), if_neg (by omega), if_neg (by omega), if_neg (by omega), if_neg (by omega), if_neg (by omega), if_neg (by omega)] <;> assumption
    · go_wp2_with fail
      go_ret
      refine ⟨⟨w.heap.size, rfl, H.len, H.bd, fun hn0 => ⟨w.heap.size, 0, rfl, Nat.le_refl _, hf.out.1.lt, fun i hi => ?_⟩⟩, hb⟩
      obtain ⟨o', he', q0, q1, q2, q3, q4, q5, q6⟩ := hf.out.2 i (by omega)
      obtain ⟨b, off, ha, hL, hbU, hc⟩ := H.at_ hn0
      obtain ⟨o2, he2, hsz, _⟩ := hc i hi
      rw [he'] at he2
      cases he2
      refine ⟨o', he', hsz, by rw [← q0, Nat.zero_add]; exact hf.out.1.cell (by omega), by rw [← q1, Nat.zero_add]; exact hf.out.1.cell (by omega), by rw [← q2, Nat.zero_add]; exact hf.out.1.cell (by omega), by rw [← q3, Nat.zero_add]; exact hf.out.1.cell (by omega), by rw [← q4, Nat.zero_add]; exact hf.out.1.cell (by omega), by rw [← q5, Nat.zero_add]; exact hf.out.1.cell (by omega), by rw [← q6, Nat.zero_add]; exact hf.out.1.cell (by omega)⟩

end Go.Proofs.Ytohimbdmhljocaa
