/- Lemmas that the proofs of this seat share: ShopD, WldF, WldG. -/
import Derived.Test.YtohimbdmhljocaaU05
import Derived.Test.YtohimbdmhljocaaU09
import Derived.Test.YtohimbdmhljocaaU10
import Derived.Test.YtohimbdmhljocaaU04
/- Servers: two that are compared, by the program and by the specification. -/
namespace Go.Proofs.Ytohimbdmhljocaa
open Go.RowKit

def doneEq (x y : LDone) : Bool := (x.who == y.who) && (x.seq == y.seq) && (x.code == y.code)
theorem doneParts (x y : LDone) : ((x.who == y.who) = true ∧ (x.seq == y.seq) = true ∧ (x.code == y.code) = true) ∨ ((x.who == y.who) = false) ∨ ((x.who == y.who) = true ∧ (x.seq == y.seq) = false) ∨ ((x.who == y.who) = true ∧ (x.seq == y.seq) = true ∧ (x.code == y.code) = false) := by
  cases h0 : (x.who == y.who) <;> cases h1 : (x.seq == y.seq) <;> cases h2 : (x.code == y.code) <;> simp
def shopEq (os os' : List LObj) (ds ds' : List LDone) : Bool := listEq oSame os os' && listEq doneEq ds ds'

set_option maxHeartbeats 2000000 in
theorem equalDones (a a' : Option Addr) (n n' c c' : Nat) (ops ops' : List LDone) (L U L' U' : Nat) (w : World) (H : DonesAt w L U a n ops) (H' : DonesAt w L' U' a' n' ops') :
    Calls Try.prog 102 #[.slice a n c, .slice a' n' c'] w fun e w' => e = .returned (.bool (listEq doneEq ops ops')) ∧ ∃ m, w' = w.drewN m := by
  have hbd := H.bd
  have hbd' := H'.bd
  unfold maxLen at hbd hbd'
  by_cases hnn : n = n'
  · subst hnn
    go_enter Try.func102, Try.ntmps102
    go_wp2
    go_loopg [13] n (fun k i wr => ∃ j : Nat, j ≤ n ∧ Hid (k = n - j) ∧ i = .int .i64 j ∧ Hid (∀ i, i < j → ∀ x y, ops[i]? = some x → ops'[i]? = some y → doneEq x y = true) ∧ Hid (∃ m, wr = w.drewN m))
    case atStart => exact ⟨0, Nat.zero_le _, by show _ = _; omega, rfl, fun i hi => by omega, ⟨0, rfl⟩⟩
    case round =>
      obtain ⟨j, hj, hk, rfl, hq, hb⟩ := hrel
      obtain ⟨m, rfl⟩ := hb.out
      by_cases hlt : j < n
      · obtain ⟨b, off, ha, hL, hbU, hc⟩ := H.at_ (by omega)
        obtain ⟨b', off', ha', hL', hbU', hc'⟩ := H'.at_ (by omega)
        subst ha ha'
        obtain ⟨x, he, c0, c1, c2⟩ := hc j hlt
        obtain ⟨y, he2, d0, d1, d2⟩ := hc' j hlt
        have HE : Hid (ops[j]? = some x ∧ ops'[j]? = some y) := ⟨he, he2⟩
        have hlt' : (j : Int) < (n : Int) := by omega
        clear he he2 hc hc'
        rcases doneParts x y with ⟨t0, t1, t2⟩ | t0 | ⟨t0, t1⟩ | ⟨t0, t1, t2⟩
        · have HY : Hid (doneEq x y = true) := by show _ = _; simp only [doneEq, t0, t1, t2, Bool.and_true]
          go_wp2_with fail
          go_quiet (fail)
          go_wp2_with fail
          go_roundg (n - (j + 1))
          case measure => have := hk.out; omega
          case rel =>
            refine ⟨j + 1, by omega, rfl, by go_num, fun i hi x' y' hx hy => ?_, ⟨_, rfl⟩⟩
            by_cases e : i = j
            · subst e
              rw [HE.out.1] at hx
              rw [HE.out.2] at hy
              cases hx
              cases hy
              exact HY.out
            · exact hq.out i (by omega) x' y' hx hy
        all_goals
          have HN : Hid (doneEq x y = false) := by show _ = _; simp only [doneEq, *, Bool.and_false, Bool.false_and]
          go_wp2_with fail
          go_quiet (fail)
          go_wp2_with fail
          go_ret
          exact ⟨ret_bool (listEq_no HE.out.1 HE.out.2 HN.out).symm, m + nq, by rw [World.drewN_drewN]⟩
      · go_wp2_with fail
        go_ret
        exact ⟨ret_bool (listEq_yes (by rw [← H.len, ← H'.len]) (fun i x y hx hy => hq.out i (by have := (List.getElem?_eq_some_iff.1 hx).1; have := H.len; omega) x y hx hy)).symm, m, rfl⟩
  · have hne : ((n : Int) == n') = false := by simp; omega
    go_enter Try.func102, Try.ntmps102
    go_wp2
    go_ret
    exact ⟨ret_bool (listEq_len (by rw [← H.len, ← H'.len]; exact hnn)).symm, 0, rfl⟩

set_option maxHeartbeats 2000000 in
theorem implShopSame (a : Option Addr) (n c : Nat) (d : Option Addr) (k e : Nat) (a' : Option Addr) (n' c' : Nat) (d' : Option Addr) (k' e' : Nat) (os os' : List LObj) (ds ds' : List LDone) (L U L' U' : Nat) (w : World) (hU : U ≤ w.heap.size) (hU' : U' ≤ w.heap.size) (HO : ObjsAt w L U a n os) (HD : DonesAt w L U d k ds) (HO' : ObjsAt w L' U' a' n' os') (HD' : DonesAt w L' U' d' k' ds') :
    Calls Try.prog 55 #[.agg #[.slice a n c, .slice d k e], .agg #[.slice a' n' c', .slice d' k' e']] w fun e w' => e = .returned (.bool (shopEq os os' ds ds')) ∧ Below w.heap.size w w' := by
  have hA : ∀ o1 o2 : Obj, Below w.heap.size w ((w.alloc o1).alloc o2) := fun o1 o2 => ((Below.refl _ _).alloc (Nat.le_refl _) _).alloc (by simp) _
  go_enter Try.func55, Try.ntmps55
  go_wp2_with fail
  refine (implSame _ _ _ _ _ _ _ _ L U L' U' _ (by simp <;> omega) (by simp <;> omega) (HO.below (hA _ _) hU) (HO'.below (hA _ _) hU')).mono ?_
  rintro x w1 ⟨rfl, hb1⟩
  have hb2 : Below w.heap.size w w1 := (hA _ _).trans (hb1.mono (by simp <;> omega))
  have p3 : w1.cell? ⟨w.heap.size, 1, none⟩ = some (.slice d k e) := by rw [hb1.cell (by simp <;> omega)]; simp [go_sem]
  have p4 : w1.cell? ⟨w.heap.size + 1, 1, none⟩ = some (.slice d' k' e') := by rw [hb1.cell (by simp)]; simp [go_sem]
  clear hb1
  rcases t1 : listEq oSame os os' with _ | _
  · go_wp2_with fail
    go_ret
    exact ⟨ret_bool (by simp [shopEq, t1]), hb2⟩
  · go_wp2_with fail
    refine (equalDones _ _ _ _ _ _ _ _ L U L' U' _ (HD.below hb2 hU) (HD'.below hb2 hU')).mono ?_
    rintro x w2 ⟨rfl, m, rfl⟩
    go_wp2_with fail
    go_ret
    exact ⟨ret_bool (by simp [shopEq, t1]), hb2.trans ((Below.drewN _ _).mono hb2.size)⟩

set_option maxHeartbeats 4000000 in
set_option maxRecDepth 20000 in
theorem specShopSame (a : Option Addr) (n c : Nat) (d : Option Addr) (k e : Nat) (a' : Option Addr) (n' c' : Nat) (d' : Option Addr) (k' e' : Nat) (os os' : List LObj) (ds ds' : List LDone) (L U L' U' : Nat) (w : World) (hU : U ≤ w.heap.size) (hU' : U' ≤ w.heap.size) (HO : ObjsAt w L U a n os) (HD : DonesAt w L U d k ds) (HO' : ObjsAt w L' U' a' n' os') (HD' : DonesAt w L' U' d' k' ds') :
    Calls Try.prog 47 #[.agg #[.slice a n c, .slice d k e], .agg #[.slice a' n' c', .slice d' k' e']] w fun e w' => e = .returned (.bool (shopEq os os' ds ds')) ∧ Below w.heap.size w w' := by
  have hA : ∀ o1 o2 : Obj, Below w.heap.size w ((w.alloc o1).alloc o2) := fun o1 o2 => ((Below.refl _ _).alloc (Nat.le_refl _) _).alloc (by simp) _
  have hbd := HD.bd
  have hbd' := HD'.bd
  unfold maxLen at hbd hbd'
  go_enter Try.func47, Try.ntmps47
  go_wp2_with fail
  refine (specSame _ _ _ _ _ _ _ _ L U L' U' _ (by simp <;> omega) (by simp <;> omega) (HO.below (hA _ _) hU) (HO'.below (hA _ _) hU')).mono ?_
  rintro x w2 ⟨rfl, hb1⟩
  have hb2 : Below w.heap.size w w2 := (hA _ _).trans (hb1.mono (by simp <;> omega))
  have p3 : w2.cell? ⟨w.heap.size, 1, none⟩ = some (.slice d k e) := by rw [hb1.cell (by simp <;> omega)]; simp [go_sem]
  have p4 : w2.cell? ⟨w.heap.size + 1, 1, none⟩ = some (.slice d' k' e') := by rw [hb1.cell (by simp)]; simp [go_sem]
  clear hb1
  rcases t1 : listEq oSame os os' with _ | _
  · go_wp2_with fail
    go_ret
    exact ⟨ret_bool (by simp [shopEq, t1]), hb2⟩
  by_cases hnn : k = k'
  case neg =>
    have hne : ((k : Int) != k') = true := by simp; omega
    have HN : Hid (listEq doneEq ds ds' = false) := listEq_len (by rw [← HD.len, ← HD'.len]; exact hnn)
    go_wp2_with fail
    go_ret
    exact ⟨ret_bool (by simp [shopEq, HN.out]), hb2⟩
  subst hnn
  have HV : Hid (shopEq os os' ds ds' = listEq doneEq ds ds') := by show _ = _; simp [shopEq, t1]
  go_wp2_with fail
  go_loopg [5] k (fun g i wr => ∃ j : Nat, j ≤ k ∧ Hid (g = k - j) ∧ i = .int .i64 j ∧ Hid (∀ i, i < j → ∀ x y, ds[i]? = some x → ds'[i]? = some y → doneEq x y = true) ∧ ∃ q, wr = w2.drewN q)
  case atStart => exact ⟨0, Nat.zero_le _, by show _ = _; omega, rfl, fun i hi => by omega, 0, rfl⟩
  case round =>
    obtain ⟨j, hj, hk, rfl, hq, qq, rfl⟩ := hrel
    by_cases hlt : j < k
    · obtain ⟨b, off, ha, hL, hbU, hc⟩ := HD.at_ (by omega)
      obtain ⟨b', off', ha', hL', hbU', hc'⟩ := HD'.at_ (by omega)
      subst ha ha'
      obtain ⟨x, he, c0, c1, c2⟩ := hc j hlt
      obtain ⟨y, he2, d0, d1, d2⟩ := hc' j hlt
      rw [← hb2.cell (by simp; omega)] at c0 c1 c2 d0 d1 d2
      have HE : Hid (ds[j]? = some x ∧ ds'[j]? = some y) := ⟨he, he2⟩
      have hlt' : (j : Int) < (k : Int) := by omega
      clear he he2 hc hc'
      rcases doneParts x y with ⟨t0, t1, t2⟩ | t0 | ⟨t0, t1⟩ | ⟨t0, t1, t2⟩
      · have HY : Hid (doneEq x y = true) := by show _ = _; simp only [doneEq, t0, t1, t2, Bool.and_true]
        go_wp2_with fail
        go_quiet (fail)
        go_wp2_with fail
        go_roundg (k - (j + 1))
        case measure => have := hk.out; omega
        case rel =>
          refine ⟨j + 1, by omega, rfl, by go_num, fun i hi x' y' hx hy => ?_, _, rfl⟩
          by_cases e : i = j
          · subst e
            rw [HE.out.1] at hx
            rw [HE.out.2] at hy
            cases hx
            cases hy
            exact HY.out
          · exact hq.out i (by omega) x' y' hx hy
      all_goals
        have HN : Hid (listEq doneEq ds ds' = false) := listEq_no HE.out.1 HE.out.2 (by simp only [doneEq, *, Bool.and_false, Bool.false_and])
        go_wp2_with fail
        go_quiet (fail)
        go_wp2_with fail
        go_ret
        exact ⟨ret_bool (by rw [HV.out, HN.out]), by rw [World.drewN_drewN]; exact hb2.trans ((Below.drewN _ _).mono hb2.size)⟩
    · have HN : Hid (listEq doneEq ds ds' = true) := listEq_yes (by rw [← HD.len, ← HD'.len]) (fun i x y hx hy => hq.out i (by have := (List.getElem?_eq_some_iff.1 hx).1; have := HD.len; omega) x y hx hy)
      go_wp2_with fail
      go_ret
      exact ⟨ret_bool (by rw [HV.out, HN.out]), hb2.trans ((Below.drewN _ _).mono hb2.size)⟩
end Go.Proofs.Ytohimbdmhljocaa

/- WorldSame of both sides. -/
namespace Go.Proofs.Ytohimbdmhljocaa
open Go.RowKit Go.ChangeShapes Go.WideShapes

def keepEq (x y : LKeep) : Bool := (x.who == y.who) && (x.seq == y.seq) && listEq oSame x.base y.base && (x.waits == y.waits) && listEq opEq x.sent y.sent && listEq opEq x.list y.list && listEq (listEq opEq) x.shelf y.shelf
def msgEqM (x y : LMsg) : Bool := msgEq x.kind x.who x.seq x.code x.log x.tree y.kind y.who y.seq y.code y.log y.tree
def toldEq (x y : LTold) : Bool := (x.who == y.who) && (x.seq == y.seq) && (x.code == y.code)
theorem toldParts (x y : LTold) : ((x.who == y.who) = true ∧ (x.seq == y.seq) = true ∧ (x.code == y.code) = true) ∨ ((x.who == y.who) = false) ∨ ((x.who == y.who) = true ∧ (x.seq == y.seq) = false) ∨ ((x.who == y.who) = true ∧ (x.seq == y.seq) = true ∧ (x.code == y.code) = false) := by
  cases x.who == y.who <;> cases x.seq == y.seq <;> cases x.code == y.code <;> simp
def worldEq (x y : LWorld) : Bool := shopEq x.tree y.tree x.dones y.dones && listEq keepEq x.keeps y.keeps && listEq msgEqM x.net y.net && listEq logEq x.past y.past && listEq toldEq x.told y.told

theorem implOpSameB (a a' : Option Addr) (n n' c c' : Nat) (ops ops' : List LOp) (L U L' U' : Nat) (w : World) (H : OpsAt w L U a n ops) (H' : OpsAt w L' U' a' n' ops') :
    Calls Try.prog 103 #[.slice a n c, .slice a' n' c'] w fun e w' => e = .returned (.bool (listEq opEq ops ops')) ∧ Below w.heap.size w w' :=
  (implOpSame a a' n n' c c' ops ops' L U L' U' w H H').mono fun e w' ⟨h, m, h2⟩ => ⟨h, by rw [h2]; exact Below.drewN _ _⟩
theorem specOpSameB (a a' : Option Addr) (n n' c c' : Nat) (ops ops' : List LOp) (L U L' U' : Nat) (w : World) (H : OpsAt w L U a n ops) (H' : OpsAt w L' U' a' n' ops') :
    Calls Try.prog 95 #[.slice a n c, .slice a' n' c'] w fun e w' => e = .returned (.bool (listEq opEq ops ops')) ∧ Below w.heap.size w w' :=
  (specOpSame a a' n n' c c' ops ops' L U L' U' w H H').mono fun e w' ⟨h, m, h2⟩ => ⟨h, by rw [h2]; exact Below.drewN _ _⟩
set_option maxHeartbeats 4000000 in
theorem equalFuncOpS (a a' : Option Addr) (n n' c c' : Nat) (xs xs' : List (List LOp)) (L U L' U' : Nat) (w : World) (hU : U ≤ w.heap.size) (hU' : U' ≤ w.heap.size) (H : RowsAt 1 OpsE w L U a n xs) (H' : RowsAt 1 OpsE w L' U' a' n' xs') :
    Calls Try.prog 104 #[.slice a n c, .slice a' n' c', .func (.func 103) #[] #[]] w fun e w' => e = .returned (.bool (listEq (listEq opEq) xs xs')) ∧ Below w.heap.size w w' := by
  have hbd := H.bd
  have hbd' := H'.bd
  unfold maxLen at hbd hbd'
  by_cases hnn : n = n'
  · subst hnn
    go_enter Try.func104, Try.ntmps104
    go_wp2
    go_loopg [17] n (fun k i wr => ∃ j : Nat, j ≤ n ∧ Hid (k = n - j) ∧ i = .int .i64 j ∧ Hid (∀ i, i < j → ∀ x y, xs[i]? = some x → xs'[i]? = some y → (listEq opEq) x y = true) ∧ Below w.heap.size w wr)
    case atStart => exact ⟨0, Nat.zero_le _, by show _ = _; omega, rfl, fun i hi => by omega, Below.refl _ _⟩
    case round =>
      obtain ⟨j, hj, hk, rfl, hq, hb⟩ := hrel
      by_cases hlt : j < n
      · obtain ⟨b, off, ha, hL, hbU, hc⟩ := H.at_ (by omega)
        obtain ⟨b', off', ha', hL', hbU', hc'⟩ := H'.at_ (by omega)
        subst ha ha'
        obtain ⟨x, vs, he, hc, hE⟩ := hc j hlt
        obtain ⟨x', vs', he2, hc', hE'⟩ := hc' j hlt
        obtain ⟨oa, on, oc, rfl, hK⟩ := hE
        obtain ⟨oa', on', oc', rfl, hM⟩ := hE'
        have c0 := hc 0 _ rfl
        simp only [Nat.add_zero, Nat.mul_one] at c0
        rw [← hb.cell (by simp; omega)] at c0
        have d0 := hc' 0 _ rfl
        simp only [Nat.add_zero, Nat.mul_one] at d0
        rw [← hb.cell (by simp; omega)] at d0
        have HE : Hid (xs[j]? = some x ∧ xs'[j]? = some x') := ⟨he, he2⟩
        clear he he2 hc hc'
        have hs1 := hb.size
        have hbl : b < wr.heap.size := by omega
        have hbl' : b' < wr.heap.size := by omega
        have HK := hidMk (hK.below hb hU)
        have HM := hidMk (hM.below hb hU')
        clear hK hM
        go_wp2_with fail
        refine (implOpSameB _ _ _ _ _ _ _ _ L U L' U' _ HK.out HM.out).mono ?_
        rintro e w1 ⟨rfl, hb1⟩
        have hb2 : Below w.heap.size w w1 := hb.trans (hb1.mono hs1)
        cases hp : (listEq opEq) x x'
        · have HP : Hid ((listEq opEq) x x' = false) := hp
          clear hp
          go_wp2_with fail
          go_ret
          exact ⟨ret_bool (listEq_no HE.out.1 HE.out.2 HP.out).symm, hb2⟩
        · have HP : Hid ((listEq opEq) x x' = true) := hp
          clear hp
          go_wp2_with fail
          go_roundg (n - (j + 1))
          case measure => have := hk.out; omega
          case rel =>
            refine ⟨j + 1, by omega, rfl, by go_num, fun i hi x y hx hy => ?_, hb2⟩
            by_cases e : i = j
            · subst e
              rw [HE.out.1] at hx
              rw [HE.out.2] at hy
              cases hx
              cases hy
              exact HP.out
            · exact hq.out i (by omega) x y hx hy
      · go_wp2_with fail
        go_ret
        exact ⟨ret_bool (listEq_yes (by rw [← H.len, ← H'.len]) (fun i x y hx hy => hq.out i (by have := (List.getElem?_eq_some_iff.1 hx).1; have := H.len; omega) x y hx hy)).symm, hb⟩
  · have hne : ((n : Int) == n') = false := by simp; omega
    go_enter Try.func104, Try.ntmps104
    go_wp2
    go_ret
    exact ⟨ret_bool (listEq_len (by rw [← H.len, ← H'.len]; exact hnn)).symm, Below.refl _ _⟩

set_option maxHeartbeats 8000000 in
theorem implKeepSame (q s : Int) (a : Option Addr) (na c : Nat) (b : Bool) (a1 : Option Addr) (na1 c1 : Nat) (a2 : Option Addr) (na2 c2 : Nat) (a3 : Option Addr) (na3 c3 : Nat) (p r : Int) (x : Option Addr) (nx y : Nat) (d : Bool) (x1 : Option Addr) (nx1 y1 : Nat) (x2 : Option Addr) (nx2 y2 : Nat) (x3 : Option Addr) (nx3 y3 : Nat) (k l : LKeep) (L U L' U' : Nat) (w : World) (hU : U ≤ w.heap.size) (hU' : U' ≤ w.heap.size) (H : KeepAt w L U q s a na b a1 na1 a2 na2 a3 na3 k) (H' : KeepAt w L' U' p r x nx d x1 nx1 x2 nx2 x3 nx3 l) :
    Calls Try.prog 57 #[.agg #[.int .i64 q, .int .i64 s, .slice a na c, .bool b, .slice a1 na1 c1, .slice a2 na2 c2, .slice a3 na3 c3], .agg #[.int .i64 p, .int .i64 r, .slice x nx y, .bool d, .slice x1 nx1 y1, .slice x2 nx2 y2, .slice x3 nx3 y3]] w fun e w' => e = .returned (.bool (keepEq k l)) ∧ Below w.heap.size w w' := by
  have HV : Hid (keepEq k l = ((q == p) && (s == r) && listEq oSame k.base l.base && (b == d) && listEq opEq k.sent l.sent && listEq opEq k.list l.list && listEq (listEq opEq) k.shelf l.shelf)) := by show _ = _; unfold keepEq; rw [H.q, H.s, H.b, H'.q, H'.s, H'.b]
  have A0 : BoxI ((w.alloc (.cells #[.int .i64 q, .int .i64 s, .slice a na c, .bool b, .slice a1 na1 c1, .slice a2 na2 c2, .slice a3 na3 c3] 76)).alloc (.cells #[.int .i64 p, .int .i64 r, .slice x nx y, .bool d, .slice x1 nx1 y1, .slice x2 nx2 y2, .slice x3 nx3 y3] 76)) w.heap.size 76 [.int .i64 q, .int .i64 s, .slice a na c, .bool b, .slice a1 na1 c1, .slice a2 na2 c2, .slice a3 na3 c3] := (BoxI.new rfl).alloc _
  have A1 : BoxI ((w.alloc (.cells #[.int .i64 q, .int .i64 s, .slice a na c, .bool b, .slice a1 na1 c1, .slice a2 na2 c2, .slice a3 na3 c3] 76)).alloc (.cells #[.int .i64 p, .int .i64 r, .slice x nx y, .bool d, .slice x1 nx1 y1, .slice x2 nx2 y2, .slice x3 nx3 y3] 76)) (w.heap.size + 1) 76 [.int .i64 p, .int .i64 r, .slice x nx y, .bool d, .slice x1 nx1 y1, .slice x2 nx2 y2, .slice x3 nx3 y3] := BoxI.new (by simp)
  have hB0 : Below w.heap.size w ((w.alloc (.cells #[.int .i64 q, .int .i64 s, .slice a na c, .bool b, .slice a1 na1 c1, .slice a2 na2 c2, .slice a3 na3 c3] 76)).alloc (.cells #[.int .i64 p, .int .i64 r, .slice x nx y, .bool d, .slice x1 nx1 y1, .slice x2 nx2 y2, .slice x3 nx3 y3] 76)) := ((Below.refl _ _).alloc (Nat.le_refl _) _).alloc (by simp) _
  have HB0 := hidMk A0
  have HB1 := hidMk A1
  have HH := hidMk H
  have HH' := hidMk H'
  clear A0 A1 H H'
  rcases t1 : (q == p) with _ | _
  · have HX := hidMk t1
    go_enter Try.func57, Try.ntmps57
    go_wp2_with fail
    go_ret
    exact ⟨ret_bool (by rw [HV.out, HX.out]; simp), hB0⟩
  rcases t2 : (s == r) with _ | _
  · have HX := hidMk t2
    go_enter Try.func57, Try.ntmps57
    go_wp2_with fail
    go_ret
    exact ⟨ret_bool (by rw [HV.out, HX.out]; simp), hB0⟩
  have HX1 := hidMk t1
  have HX2 := hidMk t2
  go_enter Try.func57, Try.ntmps57
  go_wp2_with fail
  refine (implSame _ _ _ _ _ _ _ _ L U L' U' _ (by have := hB0.size; omega) (by have := hB0.size; omega) (HH.out.base.below hB0 hU) (HH'.out.base.below hB0 hU')).mono ?_
  rintro e w1 ⟨rfl, hb1⟩
  have hB1 : Below w.heap.size w w1 := hB0.trans (hb1.mono hB0.size)
  have B0 := HB0.out.next hb1 HB0.out.lt
  have B1 := HB1.out.next hb1 HB1.out.lt
  clear HB0 HB1 hb1
  have HB0 := hidMk B0
  have HB1 := hidMk B1
  clear t1 t2
  obtain ⟨_, _, _, f3, f4, _, f6⟩ := B0.c7
  obtain ⟨_, _, _, g3, g4, _, g6⟩ := B1.c7
  clear B0 B1
  rcases t3 : listEq oSame k.base l.base with _ | _
  · have HX := hidMk t3
    go_wp2_with fail
    go_ret
    exact ⟨ret_bool (by rw [HV.out, HX.out]; simp), hB1⟩
  have HX3 := hidMk t3
  clear t3
  rcases t4 : (b == d) with _ | _
  · have HX := hidMk t4
    go_wp2_with fail
    go_ret
    exact ⟨ret_bool (by rw [HV.out, HX.out]; simp), hB1⟩
  have HX4 := hidMk t4
  go_wp2_with fail
  refine (implOpSameB _ _ _ _ _ _ _ _ L U L' U' _ (HH.out.sent.below hB1 hU) (HH'.out.sent.below hB1 hU')).mono ?_
  rintro e w2 ⟨rfl, hb2⟩
  clear f3 f4 f6 g3 g4 g6 t4
  have hB2 : Below w.heap.size w w2 := hB1.trans (hb2.mono hB1.size)
  have B0 := HB0.out.next hb2 HB0.out.lt
  have B1 := HB1.out.next hb2 HB1.out.lt
  clear HB0 HB1 hb2
  have HB0 := hidMk B0
  have HB1 := hidMk B1
  obtain ⟨_, _, _, _, _, f5, f6⟩ := B0.c7
  obtain ⟨_, _, _, _, _, g5, g6⟩ := B1.c7
  clear B0 B1
  rcases t5 : listEq opEq k.sent l.sent with _ | _
  · have HX := hidMk t5
    go_wp2_with fail
    go_ret
    exact ⟨ret_bool (by rw [HV.out, HX.out]; simp), hB2⟩
  have HX5 := hidMk t5
  clear t5
  go_wp2_with fail
  refine (implOpSameB _ _ _ _ _ _ _ _ L U L' U' _ (HH.out.list.below hB2 hU) (HH'.out.list.below hB2 hU')).mono ?_
  rintro e w3 ⟨rfl, hb3⟩
  clear f5 f6 g5 g6
  have hB3 : Below w.heap.size w w3 := hB2.trans (hb3.mono hB2.size)
  have B0 := HB0.out.next hb3 HB0.out.lt
  have B1 := HB1.out.next hb3 HB1.out.lt
  clear HB0 HB1 hb3
  have HB0 := hidMk B0
  have HB1 := hidMk B1
  obtain ⟨_, _, _, _, _, _, f6⟩ := B0.c7
  obtain ⟨_, _, _, _, _, _, g6⟩ := B1.c7
  clear B0 B1
  rcases t6 : listEq opEq k.list l.list with _ | _
  · have HX := hidMk t6
    go_wp2_with fail
    go_ret
    exact ⟨ret_bool (by rw [HV.out, HX.out]; simp), hB3⟩
  have HX6 := hidMk t6
  clear t6
  have HV7 : Hid (keepEq k l = listEq (listEq opEq) k.shelf l.shelf) := by show _ = _; rw [HV.out, HX1.out, HX2.out, HX3.out, HX4.out, HX5.out, HX6.out]; simp
  clear HV HX1 HX2 HX3 HX4 HX5 HX6
  go_wp2_with fail
  refine (equalFuncOpS _ _ _ _ _ _ _ _ L U L' U' _ (by have := hB3.size; omega) (by have := hB3.size; omega) (HH.out.shelf.below eltOps hB3 hU) (HH'.out.shelf.below eltOps hB3 hU')).mono ?_
  rintro e w4 ⟨rfl, hb4⟩
  clear f6 g6 HB0 HB1
  go_wp2_with fail
  go_ret
  exact ⟨ret_bool HV7.out.symm, hB3.trans (hb4.mono hB3.size)⟩

set_option maxHeartbeats 8000000 in
theorem specKeepSame (q s : Int) (a : Option Addr) (na c : Nat) (b : Bool) (a1 : Option Addr) (na1 c1 : Nat) (a2 : Option Addr) (na2 c2 : Nat) (a3 : Option Addr) (na3 c3 : Nat) (p r : Int) (x : Option Addr) (nx y : Nat) (d : Bool) (x1 : Option Addr) (nx1 y1 : Nat) (x2 : Option Addr) (nx2 y2 : Nat) (x3 : Option Addr) (nx3 y3 : Nat) (k l : LKeep) (L U L' U' : Nat) (w : World) (hU : U ≤ w.heap.size) (hU' : U' ≤ w.heap.size) (H : KeepAt w L U q s a na b a1 na1 a2 na2 a3 na3 k) (H' : KeepAt w L' U' p r x nx d x1 nx1 x2 nx2 x3 nx3 l) :
    Calls Try.prog 48 #[.agg #[.int .i64 q, .int .i64 s, .slice a na c, .bool b, .slice a1 na1 c1, .slice a2 na2 c2, .slice a3 na3 c3], .agg #[.int .i64 p, .int .i64 r, .slice x nx y, .bool d, .slice x1 nx1 y1, .slice x2 nx2 y2, .slice x3 nx3 y3]] w fun e w' => e = .returned (.bool (keepEq k l)) ∧ Below w.heap.size w w' := by
  have HV : Hid (keepEq k l = ((q == p) && (s == r) && listEq oSame k.base l.base && (b == d) && listEq opEq k.sent l.sent && listEq opEq k.list l.list && listEq (listEq opEq) k.shelf l.shelf)) := by show _ = _; unfold keepEq; rw [H.q, H.s, H.b, H'.q, H'.s, H'.b]
  have A0 : BoxI ((w.alloc (.cells #[.int .i64 q, .int .i64 s, .slice a na c, .bool b, .slice a1 na1 c1, .slice a2 na2 c2, .slice a3 na3 c3] 76)).alloc (.cells #[.int .i64 p, .int .i64 r, .slice x nx y, .bool d, .slice x1 nx1 y1, .slice x2 nx2 y2, .slice x3 nx3 y3] 76)) w.heap.size 76 [.int .i64 q, .int .i64 s, .slice a na c, .bool b, .slice a1 na1 c1, .slice a2 na2 c2, .slice a3 na3 c3] := (BoxI.new rfl).alloc _
  have A1 : BoxI ((w.alloc (.cells #[.int .i64 q, .int .i64 s, .slice a na c, .bool b, .slice a1 na1 c1, .slice a2 na2 c2, .slice a3 na3 c3] 76)).alloc (.cells #[.int .i64 p, .int .i64 r, .slice x nx y, .bool d, .slice x1 nx1 y1, .slice x2 nx2 y2, .slice x3 nx3 y3] 76)) (w.heap.size + 1) 76 [.int .i64 p, .int .i64 r, .slice x nx y, .bool d, .slice x1 nx1 y1, .slice x2 nx2 y2, .slice x3 nx3 y3] := BoxI.new (by simp)
  have hB0 : Below w.heap.size w ((w.alloc (.cells #[.int .i64 q, .int .i64 s, .slice a na c, .bool b, .slice a1 na1 c1, .slice a2 na2 c2, .slice a3 na3 c3] 76)).alloc (.cells #[.int .i64 p, .int .i64 r, .slice x nx y, .bool d, .slice x1 nx1 y1, .slice x2 nx2 y2, .slice x3 nx3 y3] 76)) := ((Below.refl _ _).alloc (Nat.le_refl _) _).alloc (by simp) _
  have HB0 := hidMk A0
  have HB1 := hidMk A1
  have HH := hidMk H
  have HH' := hidMk H'
  clear A0 A1 H H'
  rcases t1 : (q == p) with _ | _
  · have HX := hidMk t1
    have ut1 : (q != p) = true := by simp [bne, t1]
    go_enter Try.func48, Try.ntmps48
    go_wp2_with fail
    go_ret
    exact ⟨ret_bool (by rw [HV.out, HX.out]; simp), hB0⟩
  have ut1 : (q != p) = false := by simp [bne, t1]
  rcases t2 : (s == r) with _ | _
  · have HX := hidMk t2
    have ut2 : (s != r) = true := by simp [bne, t2]
    go_enter Try.func48, Try.ntmps48
    go_wp2_with fail
    go_ret
    exact ⟨ret_bool (by rw [HV.out, HX.out]; simp), hB0⟩
  have ut2 : (s != r) = false := by simp [bne, t2]
  have HX1 := hidMk t1
  have HX2 := hidMk t2
  go_enter Try.func48, Try.ntmps48
  go_wp2_with fail
  refine (specSame _ _ _ _ _ _ _ _ L U L' U' _ (by have := hB0.size; omega) (by have := hB0.size; omega) (HH.out.base.below hB0 hU) (HH'.out.base.below hB0 hU')).mono ?_
  rintro e w1 ⟨rfl, hb1⟩
  have hB1 : Below w.heap.size w w1 := hB0.trans (hb1.mono hB0.size)
  have B0 := HB0.out.next hb1 HB0.out.lt
  have B1 := HB1.out.next hb1 HB1.out.lt
  clear HB0 HB1 hb1
  have HB0 := hidMk B0
  have HB1 := hidMk B1
  clear t1 t2
  obtain ⟨_, _, _, f3, f4, _, f6⟩ := B0.c7
  obtain ⟨_, _, _, g3, g4, _, g6⟩ := B1.c7
  clear B0 B1
  rcases t3 : listEq oSame k.base l.base with _ | _
  · have HX := hidMk t3
    go_wp2_with fail
    go_ret
    exact ⟨ret_bool (by rw [HV.out, HX.out]; simp), hB1⟩
  have HX3 := hidMk t3
  clear t3
  rcases t4 : (b == d) with _ | _
  · have HX := hidMk t4
    have u4 : (b != d) = true := by simp [bne, t4]
    go_wp2_with fail
    go_ret
    exact ⟨ret_bool (by rw [HV.out, HX.out]; simp), hB1⟩
  have u4 : (b != d) = false := by simp [bne, t4]
  have HX4 := hidMk t4
  go_wp2_with fail
  refine (specOpSameB _ _ _ _ _ _ _ _ L U L' U' _ (HH.out.sent.below hB1 hU) (HH'.out.sent.below hB1 hU')).mono ?_
  rintro e w2 ⟨rfl, hb2⟩
  clear f3 f4 f6 g3 g4 g6 t4 u4 ut1 ut2
  have hB2 : Below w.heap.size w w2 := hB1.trans (hb2.mono hB1.size)
  have B0 := HB0.out.next hb2 HB0.out.lt
  have B1 := HB1.out.next hb2 HB1.out.lt
  clear HB0 HB1 hb2
  have HB0 := hidMk B0
  have HB1 := hidMk B1
  obtain ⟨_, _, _, _, _, f5, f6⟩ := B0.c7
  obtain ⟨_, _, _, _, _, g5, g6⟩ := B1.c7
  clear B0 B1
  rcases t5 : listEq opEq k.sent l.sent with _ | _
  · have HX := hidMk t5
    go_wp2_with fail
    go_ret
    exact ⟨ret_bool (by rw [HV.out, HX.out]; simp), hB2⟩
  have HX5 := hidMk t5
  clear t5
  go_wp2_with fail
  refine (specOpSameB _ _ _ _ _ _ _ _ L U L' U' _ (HH.out.list.below hB2 hU) (HH'.out.list.below hB2 hU')).mono ?_
  rintro e w3 ⟨rfl, hb3⟩
  clear f5 f6 g5 g6
  have hB3 : Below w.heap.size w w3 := hB2.trans (hb3.mono hB2.size)
  have B0 := HB0.out.next hb3 HB0.out.lt
  have B1 := HB1.out.next hb3 HB1.out.lt
  clear HB0 HB1 hb3
  have HB0 := hidMk B0
  have HB1 := hidMk B1
  obtain ⟨_, _, _, _, _, _, f6⟩ := B0.c7
  obtain ⟨_, _, _, _, _, _, g6⟩ := B1.c7
  clear B0 B1
  rcases t6 : listEq opEq k.list l.list with _ | _
  · have HX := hidMk t6
    go_wp2_with fail
    go_ret
    exact ⟨ret_bool (by rw [HV.out, HX.out]; simp), hB3⟩
  have HX6 := hidMk t6
  clear t6
  have HV7 : Hid (keepEq k l = listEq (listEq opEq) k.shelf l.shelf) := by show _ = _; rw [HV.out, HX1.out, HX2.out, HX3.out, HX4.out, HX5.out, HX6.out]; simp
  clear HV HX1 HX2 HX3 HX4 HX5 HX6
  by_cases hnn : na3 = nx3
  case neg =>
    have hne : ((na3 : Int) != nx3) = true := by simp; omega
    have HN : Hid (listEq (listEq opEq) k.shelf l.shelf = false) := listEq_len (by rw [← HH.out.shelf.len, ← HH'.out.shelf.len]; exact hnn)
    go_wp2_with fail
    go_ret
    exact ⟨ret_bool (by rw [HV7.out, HN.out]), hB3⟩
  subst hnn
  have HS := HH.out.shelf.below eltOps hB3 hU
  have HS' := HH'.out.shelf.below eltOps hB3 hU'
  have hbd := HS.bd
  unfold maxLen at hbd
  have hU3 : U ≤ w3.heap.size := by have := hB3.size; omega
  have hU3' : U' ≤ w3.heap.size := by have := hB3.size; omega
  have hBW := hB3
  clear HH HH'
  go_wp2_with fail
  go_loopg [5] na3 (fun g i wr => ∃ j : Nat, j ≤ na3 ∧ Hid (g = na3 - j) ∧ i = .int .i64 j ∧ Hid (∀ i, i < j → ∀ x y, k.shelf[i]? = some x → l.shelf[i]? = some y → (listEq opEq) x y = true) ∧ Below w3.heap.size w3 wr)
  case atStart => exact ⟨0, Nat.zero_le _, by show _ = _; omega, rfl, fun i hi => by omega, Below.refl _ _⟩
  case round =>
    obtain ⟨j, hj, hk, rfl, hq, hb⟩ := hrel
    have hs1 := hb.size
    have BX0 := HB0.out.next hb HB0.out.lt
    have BX1 := HB1.out.next hb HB1.out.lt
    obtain ⟨_, _, _, _, _, _, f6⟩ := BX0.c7
    obtain ⟨_, _, _, _, _, _, g6⟩ := BX1.c7
    have hw0 := BX0.lt
    have hw1 := BX1.lt
    clear BX0 BX1
    by_cases hlt : j < na3
    · obtain ⟨b9, off, ha, hL, hbU, hc⟩ := HS.at_ (by omega)
      obtain ⟨b9', off', ha', hL', hbU', hc'⟩ := HS'.at_ (by omega)
      subst ha ha'
      obtain ⟨x, vs, he, hc, hE⟩ := hc j hlt
      obtain ⟨x', vs', he2, hc', hE'⟩ := hc' j hlt
      obtain ⟨oa, on, oc, rfl, hK⟩ := hE
      obtain ⟨oa', on', oc', rfl, hM⟩ := hE'
      have c0 := hc 0 _ rfl
      simp only [Nat.add_zero, Nat.mul_one] at c0
      rw [← hb.cell (by simp; omega)] at c0
      have d0 := hc' 0 _ rfl
      simp only [Nat.add_zero, Nat.mul_one] at d0
      rw [← hb.cell (by simp; omega)] at d0
      have HE : Hid (k.shelf[j]? = some x ∧ l.shelf[j]? = some x') := ⟨he, he2⟩
      have hbl : b9 < wr.heap.size := by omega
      have hbl' : b9' < wr.heap.size := by omega
      clear he he2 hc hc'
      have hlt' : (j : Int) < (na3 : Int) := by omega
      have HK := hidMk (hK.below hb (by omega))
      have HM := hidMk (hM.below hb (by omega))
      clear hK hM
      go_upto_region 6 with fail
      refine wp_region_held_drew (S := (fun W => Below wr.heap.size wr W)) (by kernel_rfl) ?_ (fun hHeld => ?_)
      · exact (Below.refl _ _).drew
      refine listH (l2 := #[false, false, false, false, false, false, false, false, false, false, false, false]) (by kernel_rfl) ?_
      refine takeH (i := 0) (oi := _) (v := ?vs1x0) 65 #[true, false, false, false, false, false, false, false, false, false, false, false] rfl (by kernel_rfl) (by kernel_rfl) (by kernel_rfl) rfl (by kernel_rfl) (fun _ _ _ h => h) (Or.inl ⟨by rfl, ?ys1x0⟩) (by assumption) ?rs1x0
      case ys1x0 => (intro w' hSw; (try dsimp only at hSw); have x0 := (hSw.cell (by show b9 < wr.heap.size; exact hbl)).trans c0; have y0 := (hSw.cell (by show b9' < wr.heap.size; exact hbl')).trans d0; have xf := (hSw.cell (by show w.heap.size < wr.heap.size; exact hw0)).trans f6; have xg := (hSw.cell (by show w.heap.size + 1 < wr.heap.size; exact hw1)).trans g6; go_simp; try with_reducible rfl)
      simp only [Act.put, List.setIfInBounds_toArray, List.set_cons_succ, List.set_cons_zero]
      refine takeH (i := 1) (oi := _) (v := ?vs1x1) 66 #[true, true, false, false, false, false, false, false, false, false, false, false] rfl (by kernel_rfl) (by kernel_rfl) (by kernel_rfl) rfl (by kernel_rfl) (fun _ _ _ h => h) (Or.inl ⟨by rfl, ?ys1x1⟩) (by assumption) ?rs1x1
      case ys1x1 => (intro w' hSw; (try dsimp only at hSw); have x0 := (hSw.cell (by show b9 < wr.heap.size; exact hbl)).trans c0; have y0 := (hSw.cell (by show b9' < wr.heap.size; exact hbl')).trans d0; have xf := (hSw.cell (by show w.heap.size < wr.heap.size; exact hw0)).trans f6; have xg := (hSw.cell (by show w.heap.size + 1 < wr.heap.size; exact hw1)).trans g6; go_simp; try with_reducible rfl)
      simp only [Act.put, List.setIfInBounds_toArray, List.set_cons_succ, List.set_cons_zero]
      refine takeH (i := 2) (oi := _) (v := ?vs1x2) 67 #[true, true, true, false, false, false, false, false, false, false, false, false] rfl (by kernel_rfl) (by kernel_rfl) (by kernel_rfl) rfl (by kernel_rfl) (fun _ _ _ h => h) (Or.inl ⟨by rfl, ?ys1x2⟩) (by assumption) ?rs1x2
      case ys1x2 => (intro w' hSw; (try dsimp only at hSw); have x0 := (hSw.cell (by show b9 < wr.heap.size; exact hbl)).trans c0; have y0 := (hSw.cell (by show b9' < wr.heap.size; exact hbl')).trans d0; have xf := (hSw.cell (by show w.heap.size < wr.heap.size; exact hw0)).trans f6; have xg := (hSw.cell (by show w.heap.size + 1 < wr.heap.size; exact hw1)).trans g6; go_simp; try with_reducible rfl)
      simp only [Act.put, List.setIfInBounds_toArray, List.set_cons_succ, List.set_cons_zero]
      refine takeH (i := 3) (oi := _) (v := ?vs1x3) 68 #[true, true, true, true, false, false, false, false, false, false, false, false] rfl (by kernel_rfl) (by kernel_rfl) (by kernel_rfl) rfl (by kernel_rfl) (fun _ _ _ h => h) (Or.inl ⟨by rfl, ?ys1x3⟩) (by assumption) ?rs1x3
      case ys1x3 => (intro w' hSw; (try dsimp only at hSw); have x0 := (hSw.cell (by show b9 < wr.heap.size; exact hbl)).trans c0; have y0 := (hSw.cell (by show b9' < wr.heap.size; exact hbl')).trans d0; have xf := (hSw.cell (by show w.heap.size < wr.heap.size; exact hw0)).trans f6; have xg := (hSw.cell (by show w.heap.size + 1 < wr.heap.size; exact hw1)).trans g6; go_simp; try with_reducible rfl)
      simp only [Act.put, List.setIfInBounds_toArray, List.set_cons_succ, List.set_cons_zero]
      refine takeH (i := 4) (oi := _) (v := ?vs1x4) 69 #[true, true, true, true, true, false, false, false, false, false, false, false] rfl (by kernel_rfl) (by kernel_rfl) (by kernel_rfl) rfl (by kernel_rfl) (fun _ _ _ h => h) (Or.inl ⟨by rfl, ?ys1x4⟩) (by assumption) ?rs1x4
      case ys1x4 => (intro w' hSw; (try dsimp only at hSw); have x0 := (hSw.cell (by show b9 < wr.heap.size; exact hbl)).trans c0; have y0 := (hSw.cell (by show b9' < wr.heap.size; exact hbl')).trans d0; have xf := (hSw.cell (by show w.heap.size < wr.heap.size; exact hw0)).trans f6; have xg := (hSw.cell (by show w.heap.size + 1 < wr.heap.size; exact hw1)).trans g6; go_simp; try with_reducible rfl)
      simp only [Act.put, List.setIfInBounds_toArray, List.set_cons_succ, List.set_cons_zero]
      refine takeH (i := 5) (oi := _) (v := ?vs1x5) 70 #[true, true, true, true, true, true, false, false, false, false, false, false] rfl (by kernel_rfl) (by kernel_rfl) (by kernel_rfl) rfl (by kernel_rfl) (fun _ _ _ h => h) (Or.inl ⟨by rfl, ?ys1x5⟩) (by assumption) ?rs1x5
      case ys1x5 => (intro w' hSw; (try dsimp only at hSw); have x0 := (hSw.cell (by show b9 < wr.heap.size; exact hbl)).trans c0; have y0 := (hSw.cell (by show b9' < wr.heap.size; exact hbl')).trans d0; have xf := (hSw.cell (by show w.heap.size < wr.heap.size; exact hw0)).trans f6; have xg := (hSw.cell (by show w.heap.size + 1 < wr.heap.size; exact hw1)).trans g6; go_simp; try with_reducible rfl)
      simp only [Act.put, List.setIfInBounds_toArray, List.set_cons_succ, List.set_cons_zero]
      refine takeH (i := 6) (oi := _) (v := ?vs1x6) 71 #[true, true, true, true, true, true, true, false, false, false, false, false] rfl (by kernel_rfl) (by kernel_rfl) (by kernel_rfl) rfl (by kernel_rfl) (fun _ _ _ h => h) (Or.inl ⟨by rfl, ?ys1x6⟩) (by assumption) ?rs1x6
      case ys1x6 => (intro w' hSw; (try dsimp only at hSw); have x0 := (hSw.cell (by show b9 < wr.heap.size; exact hbl)).trans c0; have y0 := (hSw.cell (by show b9' < wr.heap.size; exact hbl')).trans d0; have xf := (hSw.cell (by show w.heap.size < wr.heap.size; exact hw0)).trans f6; have xg := (hSw.cell (by show w.heap.size + 1 < wr.heap.size; exact hw1)).trans g6; go_simp; try with_reducible rfl)
      simp only [Act.put, List.setIfInBounds_toArray, List.set_cons_succ, List.set_cons_zero]
      refine takeH (i := 7) (oi := _) (v := ?vs1x7) 72 #[true, true, true, true, true, true, true, true, false, false, false, false] rfl (by kernel_rfl) (by kernel_rfl) (by kernel_rfl) rfl (by kernel_rfl) (fun _ _ _ h => h) (Or.inl ⟨by rfl, ?ys1x7⟩) (by assumption) ?rs1x7
      case ys1x7 => (intro w' hSw; (try dsimp only at hSw); have x0 := (hSw.cell (by show b9 < wr.heap.size; exact hbl)).trans c0; have y0 := (hSw.cell (by show b9' < wr.heap.size; exact hbl')).trans d0; have xf := (hSw.cell (by show w.heap.size < wr.heap.size; exact hw0)).trans f6; have xg := (hSw.cell (by show w.heap.size + 1 < wr.heap.size; exact hw1)).trans g6; go_simp; try with_reducible rfl)
      simp only [Act.put, List.setIfInBounds_toArray, List.set_cons_succ, List.set_cons_zero]
      refine takeH (i := 8) (oi := _) (v := ?vs1x8) 73 #[true, true, true, true, true, true, true, true, true, false, false, false] rfl (by kernel_rfl) (by kernel_rfl) (by kernel_rfl) rfl (by kernel_rfl) (fun _ _ _ h => h) (Or.inl ⟨by rfl, ?ys1x8⟩) (by assumption) ?rs1x8
      case ys1x8 => (intro w' hSw; (try dsimp only at hSw); have x0 := (hSw.cell (by show b9 < wr.heap.size; exact hbl)).trans c0; have y0 := (hSw.cell (by show b9' < wr.heap.size; exact hbl')).trans d0; have xf := (hSw.cell (by show w.heap.size < wr.heap.size; exact hw0)).trans f6; have xg := (hSw.cell (by show w.heap.size + 1 < wr.heap.size; exact hw1)).trans g6; go_simp; try with_reducible rfl)
      simp only [Act.put, List.setIfInBounds_toArray, List.set_cons_succ, List.set_cons_zero]
      refine takeH (i := 9) (oi := _) (v := ?vs1x9) 74 #[true, true, true, true, true, true, true, true, true, true, false, false] rfl (by kernel_rfl) (by kernel_rfl) (by kernel_rfl) rfl (by kernel_rfl) (fun _ _ _ h => h) (Or.inl ⟨by rfl, ?ys1x9⟩) (by assumption) ?rs1x9
      case ys1x9 => (intro w' hSw; (try dsimp only at hSw); have x0 := (hSw.cell (by show b9 < wr.heap.size; exact hbl)).trans c0; have y0 := (hSw.cell (by show b9' < wr.heap.size; exact hbl')).trans d0; have xf := (hSw.cell (by show w.heap.size < wr.heap.size; exact hw0)).trans f6; have xg := (hSw.cell (by show w.heap.size + 1 < wr.heap.size; exact hw1)).trans g6; go_simp; try with_reducible rfl)
      simp only [Act.put, List.setIfInBounds_toArray, List.set_cons_succ, List.set_cons_zero]
      refine wpAnyH_ready (rs := [10]) (by kernel_rfl) (by simp) ?_
      refine AllReadyH.cons (o := _) rfl (fun K hK => ?_) AllReadyH.nil
      go_simp
      refine (specOpSameB _ _ _ _ _ _ _ _ L U L' U' _ (HK.out.below (Below.refl _ _).drew (by omega)) (HM.out.below (Below.refl _ _).drew (by omega))).mono ?_
      rintro e w9 ⟨rfl, hb9⟩
      have hb1 : Below wr.heap.size wr w9 := (Below.refl _ _).drew.trans (hb9.mono (Nat.le_refl _))
      go_wp2_with fail
      refine hK.out _ _ ?_ (fun hHeld => ?_)
      · exact hb1
      clear hK K
      try simp only [Act.put]
      refine listH (l2 := #[true, true, true, true, true, true, true, true, true, true, true, false]) (by kernel_rfl) ?_
      refine takeH (i := 11) (oi := _) (v := ?vs1x11) 76 #[true, true, true, true, true, true, true, true, true, true, true, true] rfl (by kernel_rfl) (by kernel_rfl) (by kernel_rfl) rfl (by kernel_rfl) (fun _ _ _ h => h) (Or.inl ⟨by rfl, ?ys1x11⟩) (by assumption) ?rs1x11
      case ys1x11 => (intro w' hSw; (try dsimp only at hSw); have x0 := (hSw.cell (by show b9 < wr.heap.size; exact hbl)).trans c0; have y0 := (hSw.cell (by show b9' < wr.heap.size; exact hbl')).trans d0; have xf := (hSw.cell (by show w.heap.size < wr.heap.size; exact hw0)).trans f6; have xg := (hSw.cell (by show w.heap.size + 1 < wr.heap.size; exact hw1)).trans g6; go_simp; try with_reducible rfl)
      simp only [Act.put, List.setIfInBounds_toArray, List.set_cons_succ, List.set_cons_zero]
      refine wpAnyH_done (by kernel_rfl) ?_ _

      have hb2 : Below w3.heap.size w3 w9 := hb.trans (hb1.mono hb.size)
      cases hp : (listEq opEq) x x'
      · have HP := hidMk hp
        clear hp
        go_wp2_with fail
        go_ret
        exact ⟨ret_bool (by first | (rw [HV7.out, listEq_no HE.out.1 HE.out.2 HP.out]; done) | (rw [HV7.out, listEq_no HE.out.1 HE.out.2 HP.out]; simp)), hBW.trans (hb2.mono hBW.size)⟩
      · have HP := hidMk hp
        clear hp
        go_wp2_with fail
        go_roundg (na3 - (j + 1))
        case measure => have := hk.out; omega
        case rel =>
          refine ⟨j + 1, by omega, rfl, by go_num, fun i hi x y hx hy => ?_, hb2⟩
          by_cases e : i = j
          · subst e
            rw [HE.out.1] at hx
            rw [HE.out.2] at hy
            cases hx
            cases hy
            exact HP.out
          · exact hq.out i (by omega) x y hx hy
    · obtain rfl : j = na3 := by omega
      go_wp2_with fail
      go_ret
      exact ⟨ret_bool (by rw [HV7.out]; exact (listEq_yes (by rw [← HS.len, ← HS'.len]) (fun i x y hx hy => hq.out i (by have := (List.getElem?_eq_some_iff.1 hx).1; have := HS.len; omega) x y hx hy)).symm), hBW.trans (hb.mono hBW.size)⟩

theorem implMsgSameE (q s : Int) (ba : Option Addr) (bn bc : Nat) (oa : Option Addr) (on oc : Nat) (ta : Option Addr) (tn tc : Nat) (q' s' : Int) (ba' : Option Addr) (bn' bc' : Nat) (oa' : Option Addr) (on' oc' : Nat) (ta' : Option Addr) (tn' tc' : Nat) (x x' : LMsg) (L U L' U' : Nat) (w : World) (hU : U ≤ w.heap.size) (hU' : U' ≤ w.heap.size) (H : MsgAt w L U q s ba bn oa on ta tn x.log x.tree) (H' : MsgAt w L' U' q' s' ba' bn' oa' on' ta' tn' x'.log x'.tree) :
    Calls Try.prog 59 #[.agg #[.int .i64 x.kind, .int .i64 x.who, .int .i64 x.seq, .int .i64 q, .int .i64 s, .slice ba bn bc, .slice oa on oc, .int .i64 x.code, .slice ta tn tc], .agg #[.int .i64 x'.kind, .int .i64 x'.who, .int .i64 x'.seq, .int .i64 q', .int .i64 s', .slice ba' bn' bc', .slice oa' on' oc', .int .i64 x'.code, .slice ta' tn' tc']] w fun e w' => e = .returned (.bool (msgEqM x x')) ∧ Below w.heap.size w w' :=
  implMsgSame _ _ _ _ _ _ _ _ _ _ _ _ _ _ _ _ _ _ _ _ _ _ _ _ _ _ _ _ _ _ x.log x'.log x.tree x'.tree L U L' U' w hU hU' H H'
theorem specMsgSameE (q s : Int) (ba : Option Addr) (bn bc : Nat) (oa : Option Addr) (on oc : Nat) (ta : Option Addr) (tn tc : Nat) (q' s' : Int) (ba' : Option Addr) (bn' bc' : Nat) (oa' : Option Addr) (on' oc' : Nat) (ta' : Option Addr) (tn' tc' : Nat) (x x' : LMsg) (L U L' U' : Nat) (w : World) (hU : U ≤ w.heap.size) (hU' : U' ≤ w.heap.size) (H : MsgAt w L U q s ba bn oa on ta tn x.log x.tree) (H' : MsgAt w L' U' q' s' ba' bn' oa' on' ta' tn' x'.log x'.tree) :
    Calls Try.prog 49 #[.agg #[.int .i64 x.kind, .int .i64 x.who, .int .i64 x.seq, .int .i64 q, .int .i64 s, .slice ba bn bc, .slice oa on oc, .int .i64 x.code, .slice ta tn tc], .agg #[.int .i64 x'.kind, .int .i64 x'.who, .int .i64 x'.seq, .int .i64 q', .int .i64 s', .slice ba' bn' bc', .slice oa' on' oc', .int .i64 x'.code, .slice ta' tn' tc']] w fun e w' => e = .returned (.bool (msgEqM x x')) ∧ Below w.heap.size w w' :=
  specMsgSame _ _ _ _ _ _ _ _ _ _ _ _ _ _ _ _ _ _ _ _ _ _ _ _ _ _ _ _ _ _ x.log x'.log x.tree x'.tree L U L' U' w hU hU' H H'

end Go.Proofs.Ytohimbdmhljocaa

/- Lists of clients, messages, logs, what was told: told as one by the program. -/
namespace Go.Proofs.Ytohimbdmhljocaa
open Go.RowKit Go.ChangeShapes Go.WideShapes
set_option maxHeartbeats 4000000 in
theorem equalFuncKeep (a a' : Option Addr) (n n' c c' : Nat) (xs xs' : List LKeep) (L U L' U' : Nat) (w : World) (hU : U ≤ w.heap.size) (hU' : U' ≤ w.heap.size) (H : RowsAt 7 KeepE w L U a n xs) (H' : RowsAt 7 KeepE w L' U' a' n' xs') :
    Calls Try.prog 56 #[.slice a n c, .slice a' n' c', .func (.func 57) #[] #[]] w fun e w' => e = .returned (.bool (listEq keepEq xs xs')) ∧ Below w.heap.size w w' := by
  have hbd := H.bd
  have hbd' := H'.bd
  unfold maxLen at hbd hbd'
  by_cases hnn : n = n'
  · subst hnn
    go_enter Try.func56, Try.ntmps56
    go_wp2
    go_loopg [17] n (fun k i wr => ∃ j : Nat, j ≤ n ∧ Hid (k = n - j) ∧ i = .int .i64 j ∧ Hid (∀ i, i < j → ∀ x y, xs[i]? = some x → xs'[i]? = some y → keepEq x y = true) ∧ Below w.heap.size w wr)
    case atStart => exact ⟨0, Nat.zero_le _, by show _ = _; omega, rfl, fun i hi => by omega, Below.refl _ _⟩
    case round =>
      obtain ⟨j, hj, hk, rfl, hq, hb⟩ := hrel
      by_cases hlt : j < n
      · obtain ⟨b, off, ha, hL, hbU, hc⟩ := H.at_ (by omega)
        obtain ⟨b', off', ha', hL', hbU', hc'⟩ := H'.at_ (by omega)
        subst ha ha'
        obtain ⟨x, vs, he, hc, hE⟩ := hc j hlt
        obtain ⟨x', vs', he2, hc', hE'⟩ := hc' j hlt
        obtain ⟨q, s, ea1, en1, ec1', b1, ea2, en2, ec2', ea3, en3, ec3', ea4, en4, ec4', rfl, hK⟩ := hE
        obtain ⟨q', s', ea1', en1', ec1'', b1', ea2', en2', ec2'', ea3', en3', ec3'', ea4', en4', ec4'', rfl, hM⟩ := hE'
        have c0 := hc 0 _ rfl
        have c1 := hc 1 _ rfl
        have c2 := hc 2 _ rfl
        have c3 := hc 3 _ rfl
        have c4 := hc 4 _ rfl
        have c5 := hc 5 _ rfl
        have c6 := hc 6 _ rfl
        simp only [Nat.add_zero] at c0
        rw [← hb.cell (by simp; omega)] at c0 c1 c2 c3 c4 c5 c6
        have d0 := hc' 0 _ rfl
        have d1 := hc' 1 _ rfl
        have d2 := hc' 2 _ rfl
        have d3 := hc' 3 _ rfl
        have d4 := hc' 4 _ rfl
        have d5 := hc' 5 _ rfl
        have d6 := hc' 6 _ rfl
        simp only [Nat.add_zero] at d0
        rw [← hb.cell (by simp; omega)] at d0 d1 d2 d3 d4 d5 d6
        have HE : Hid (xs[j]? = some x ∧ xs'[j]? = some x') := ⟨he, he2⟩
        clear he he2 hc hc'
        have hs1 := hb.size
        have hbl : b < wr.heap.size := by omega
        have hbl' : b' < wr.heap.size := by omega
        have hB : ∀ o1 o2, Below wr.heap.size wr ((wr.alloc o1).alloc o2) := fun o1 o2 => ((Below.refl _ _).alloc (Nat.le_refl _) _).alloc (by simp) _
        have HK := hidMk (hK.below hb hU)
        have HM := hidMk (hM.below hb hU')
        clear hK hM
        go_wp2_with fail
        refine (implKeepSame _ _ _ _ _ _ _ _ _ _ _ _ _ _ _ _ _ _ _ _ _ _ _ _ _ _ _ _ _ _ x x' L U L' U' _ (by simp; omega) (by simp; omega) (HK.out.below (hB _ _) (by omega)) (HM.out.below (hB _ _) (by omega))).mono ?_
        rintro e w1 ⟨rfl, hb1⟩
        have hb2 : Below w.heap.size w w1 := (hb.trans ((hB _ _).mono hs1)).trans (hb1.mono (by simp; omega))
        cases hp : keepEq x x'
        · have HP : Hid (keepEq x x' = false) := hp
          clear hp
          go_wp2_with fail
          go_ret
          exact ⟨ret_bool (listEq_no HE.out.1 HE.out.2 HP.out).symm, hb2⟩
        · have HP : Hid (keepEq x x' = true) := hp
          clear hp
          go_wp2_with fail
          go_roundg (n - (j + 1))
          case measure => have := hk.out; omega
          case rel =>
            refine ⟨j + 1, by omega, rfl, by go_num, fun i hi x y hx hy => ?_, hb2⟩
            by_cases e : i = j
            · subst e
              rw [HE.out.1] at hx
              rw [HE.out.2] at hy
              cases hx
              cases hy
              exact HP.out
            · exact hq.out i (by omega) x y hx hy
      · go_wp2_with fail
        go_ret
        exact ⟨ret_bool (listEq_yes (by rw [← H.len, ← H'.len]) (fun i x y hx hy => hq.out i (by have := (List.getElem?_eq_some_iff.1 hx).1; have := H.len; omega) x y hx hy)).symm, hb⟩
  · have hne : ((n : Int) == n') = false := by simp; omega
    go_enter Try.func56, Try.ntmps56
    go_wp2
    go_ret
    exact ⟨ret_bool (listEq_len (by rw [← H.len, ← H'.len]; exact hnn)).symm, Below.refl _ _⟩

set_option maxHeartbeats 4000000 in
theorem equalFuncMsg (a a' : Option Addr) (n n' c c' : Nat) (xs xs' : List LMsg) (L U L' U' : Nat) (w : World) (hU : U ≤ w.heap.size) (hU' : U' ≤ w.heap.size) (H : RowsAt 9 MsgE w L U a n xs) (H' : RowsAt 9 MsgE w L' U' a' n' xs') :
    Calls Try.prog 58 #[.slice a n c, .slice a' n' c', .func (.func 59) #[] #[]] w fun e w' => e = .returned (.bool (listEq msgEqM xs xs')) ∧ Below w.heap.size w w' := by
  have hbd := H.bd
  have hbd' := H'.bd
  unfold maxLen at hbd hbd'
  by_cases hnn : n = n'
  · subst hnn
    go_enter Try.func58, Try.ntmps58
    go_wp2
    go_loopg [17] n (fun k i wr => ∃ j : Nat, j ≤ n ∧ Hid (k = n - j) ∧ i = .int .i64 j ∧ Hid (∀ i, i < j → ∀ x y, xs[i]? = some x → xs'[i]? = some y → msgEqM x y = true) ∧ Below w.heap.size w wr)
    case atStart => exact ⟨0, Nat.zero_le _, by show _ = _; omega, rfl, fun i hi => by omega, Below.refl _ _⟩
    case round =>
      obtain ⟨j, hj, hk, rfl, hq, hb⟩ := hrel
      by_cases hlt : j < n
      · obtain ⟨b, off, ha, hL, hbU, hc⟩ := H.at_ (by omega)
        obtain ⟨b', off', ha', hL', hbU', hc'⟩ := H'.at_ (by omega)
        subst ha ha'
        obtain ⟨x, vs, he, hc, hE⟩ := hc j hlt
        obtain ⟨x', vs', he2, hc', hE'⟩ := hc' j hlt
        obtain ⟨q, s, ba, bn, bc, oa, on, oc, ta, tn, tc, rfl, hK⟩ := hE
        obtain ⟨q', s', ba', bn', bc', oa', on', oc', ta', tn', tc', rfl, hM⟩ := hE'
        have c0 := hc 0 _ rfl
        have c1 := hc 1 _ rfl
        have c2 := hc 2 _ rfl
        have c3 := hc 3 _ rfl
        have c4 := hc 4 _ rfl
        have c5 := hc 5 _ rfl
        have c6 := hc 6 _ rfl
        have c7 := hc 7 _ rfl
        have c8 := hc 8 _ rfl
        simp only [Nat.add_zero] at c0
        rw [← hb.cell (by simp; omega)] at c0 c1 c2 c3 c4 c5 c6 c7 c8
        have d0 := hc' 0 _ rfl
        have d1 := hc' 1 _ rfl
        have d2 := hc' 2 _ rfl
        have d3 := hc' 3 _ rfl
        have d4 := hc' 4 _ rfl
        have d5 := hc' 5 _ rfl
        have d6 := hc' 6 _ rfl
        have d7 := hc' 7 _ rfl
        have d8 := hc' 8 _ rfl
        simp only [Nat.add_zero] at d0
        rw [← hb.cell (by simp; omega)] at d0 d1 d2 d3 d4 d5 d6 d7 d8
        have HE : Hid (xs[j]? = some x ∧ xs'[j]? = some x') := ⟨he, he2⟩
        clear he he2 hc hc'
        have hs1 := hb.size
        have hbl : b < wr.heap.size := by omega
        have hbl' : b' < wr.heap.size := by omega
        have hB : ∀ o1 o2, Below wr.heap.size wr ((wr.alloc o1).alloc o2) := fun o1 o2 => ((Below.refl _ _).alloc (Nat.le_refl _) _).alloc (by simp) _
        have HK := hidMk (hK.below hb hU)
        have HM := hidMk (hM.below hb hU')
        clear hK hM
        go_wp2_with fail
        refine (implMsgSameE _ _ _ _ _ _ _ _ _ _ _ _ _ _ _ _ _ _ _ _ _ _ x x' L U L' U' _ (by simp; omega) (by simp; omega) (HK.out.below (hB _ _) (by omega)) (HM.out.below (hB _ _) (by omega))).mono ?_
        rintro e w1 ⟨rfl, hb1⟩
        have hb2 : Below w.heap.size w w1 := (hb.trans ((hB _ _).mono hs1)).trans (hb1.mono (by simp; omega))
        cases hp : msgEqM x x'
        · have HP : Hid (msgEqM x x' = false) := hp
          clear hp
          go_wp2_with fail
          go_ret
          exact ⟨ret_bool (listEq_no HE.out.1 HE.out.2 HP.out).symm, hb2⟩
        · have HP : Hid (msgEqM x x' = true) := hp
          clear hp
          go_wp2_with fail
          go_roundg (n - (j + 1))
          case measure => have := hk.out; omega
          case rel =>
            refine ⟨j + 1, by omega, rfl, by go_num, fun i hi x y hx hy => ?_, hb2⟩
            by_cases e : i = j
            · subst e
              rw [HE.out.1] at hx
              rw [HE.out.2] at hy
              cases hx
              cases hy
              exact HP.out
            · exact hq.out i (by omega) x y hx hy
      · go_wp2_with fail
        go_ret
        exact ⟨ret_bool (listEq_yes (by rw [← H.len, ← H'.len]) (fun i x y hx hy => hq.out i (by have := (List.getElem?_eq_some_iff.1 hx).1; have := H.len; omega) x y hx hy)).symm, hb⟩
  · have hne : ((n : Int) == n') = false := by simp; omega
    go_enter Try.func58, Try.ntmps58
    go_wp2
    go_ret
    exact ⟨ret_bool (listEq_len (by rw [← H.len, ← H'.len]; exact hnn)).symm, Below.refl _ _⟩

set_option maxHeartbeats 4000000 in
theorem equalFuncLog (a a' : Option Addr) (n n' c c' : Nat) (xs xs' : List LLog) (L U L' U' : Nat) (w : World) (hU : U ≤ w.heap.size) (hU' : U' ≤ w.heap.size) (H : RowsAt 4 LogE w L U a n xs) (H' : RowsAt 4 LogE w L' U' a' n' xs') :
    Calls Try.prog 60 #[.slice a n c, .slice a' n' c', .func (.func 61) #[] #[]] w fun e w' => e = .returned (.bool (listEq logEq xs xs')) ∧ Below w.heap.size w w' := by
  have hbd := H.bd
  have hbd' := H'.bd
  unfold maxLen at hbd hbd'
  by_cases hnn : n = n'
  · subst hnn
    go_enter Try.func60, Try.ntmps60
    go_wp2
    go_loopg [17] n (fun k i wr => ∃ j : Nat, j ≤ n ∧ Hid (k = n - j) ∧ i = .int .i64 j ∧ Hid (∀ i, i < j → ∀ x y, xs[i]? = some x → xs'[i]? = some y → logEq x y = true) ∧ Below w.heap.size w wr)
    case atStart => exact ⟨0, Nat.zero_le _, by show _ = _; omega, rfl, fun i hi => by omega, Below.refl _ _⟩
    case round =>
      obtain ⟨j, hj, hk, rfl, hq, hb⟩ := hrel
      by_cases hlt : j < n
      · obtain ⟨b, off, ha, hL, hbU, hc⟩ := H.at_ (by omega)
        obtain ⟨b', off', ha', hL', hbU', hc'⟩ := H'.at_ (by omega)
        subst ha ha'
        obtain ⟨x, vs, he, hc, hE⟩ := hc j hlt
        obtain ⟨x', vs', he2, hc', hE'⟩ := hc' j hlt
        obtain ⟨q, s, ea1, en1, ec1', ea2, en2, ec2', rfl, hK⟩ := hE
        obtain ⟨q', s', ea1', en1', ec1'', ea2', en2', ec2'', rfl, hM⟩ := hE'
        have c0 := hc 0 _ rfl
        have c1 := hc 1 _ rfl
        have c2 := hc 2 _ rfl
        have c3 := hc 3 _ rfl
        simp only [Nat.add_zero] at c0
        rw [← hb.cell (by simp; omega)] at c0 c1 c2 c3
        have d0 := hc' 0 _ rfl
        have d1 := hc' 1 _ rfl
        have d2 := hc' 2 _ rfl
        have d3 := hc' 3 _ rfl
        simp only [Nat.add_zero] at d0
        rw [← hb.cell (by simp; omega)] at d0 d1 d2 d3
        have HE : Hid (xs[j]? = some x ∧ xs'[j]? = some x') := ⟨he, he2⟩
        clear he he2 hc hc'
        have hs1 := hb.size
        have hbl : b < wr.heap.size := by omega
        have hbl' : b' < wr.heap.size := by omega
        have hB : ∀ o1 o2, Below wr.heap.size wr ((wr.alloc o1).alloc o2) := fun o1 o2 => ((Below.refl _ _).alloc (Nat.le_refl _) _).alloc (by simp) _
        have HK := hidMk (hK.below hb hU)
        have HM := hidMk (hM.below hb hU')
        clear hK hM
        go_wp2_with fail
        refine (implLogSame _ _ _ _ _ _ _ _ _ _ _ _ _ _ _ _ x x' L U L' U' _ (by simp; omega) (by simp; omega) (HK.out.below (hB _ _) (by omega)) (HM.out.below (hB _ _) (by omega))).mono ?_
        rintro e w1 ⟨rfl, hb1⟩
        have hb2 : Below w.heap.size w w1 := (hb.trans ((hB _ _).mono hs1)).trans (hb1.mono (by simp; omega))
        cases hp : logEq x x'
        · have HP : Hid (logEq x x' = false) := hp
          clear hp
          go_wp2_with fail
          go_ret
          exact ⟨ret_bool (listEq_no HE.out.1 HE.out.2 HP.out).symm, hb2⟩
        · have HP : Hid (logEq x x' = true) := hp
          clear hp
          go_wp2_with fail
          go_roundg (n - (j + 1))
          case measure => have := hk.out; omega
          case rel =>
            refine ⟨j + 1, by omega, rfl, by go_num, fun i hi x y hx hy => ?_, hb2⟩
            by_cases e : i = j
            · subst e
              rw [HE.out.1] at hx
              rw [HE.out.2] at hy
              cases hx
              cases hy
              exact HP.out
            · exact hq.out i (by omega) x y hx hy
      · go_wp2_with fail
        go_ret
        exact ⟨ret_bool (listEq_yes (by rw [← H.len, ← H'.len]) (fun i x y hx hy => hq.out i (by have := (List.getElem?_eq_some_iff.1 hx).1; have := H.len; omega) x y hx hy)).symm, hb⟩
  · have hne : ((n : Int) == n') = false := by simp; omega
    go_enter Try.func60, Try.ntmps60
    go_wp2
    go_ret
    exact ⟨ret_bool (listEq_len (by rw [← H.len, ← H'.len]; exact hnn)).symm, Below.refl _ _⟩

set_option maxHeartbeats 2000000 in
theorem equalTolds (a a' : Option Addr) (n n' c c' : Nat) (ops ops' : List LTold) (L U L' U' : Nat) (w : World) (H : RowsAt 3 ToldE w L U a n ops) (H' : RowsAt 3 ToldE w L' U' a' n' ops') :
    Calls Try.prog 62 #[.slice a n c, .slice a' n' c'] w fun e w' => e = .returned (.bool (listEq toldEq ops ops')) ∧ Below w.heap.size w w' := by
  refine Calls.mono (R := fun e w' => e = .returned (.bool (listEq toldEq ops ops')) ∧ ∃ m, w' = w.drewN m) ?_ (fun e w' ⟨h, m, h2⟩ => ⟨h, by rw [h2]; exact Below.drewN _ _⟩)
  have hbd := H.bd
  have hbd' := H'.bd
  unfold maxLen at hbd hbd'
  by_cases hnn : n = n'
  · subst hnn
    go_enter Try.func62, Try.ntmps62
    go_wp2
    go_loopg [13] n (fun k i wr => ∃ j : Nat, j ≤ n ∧ Hid (k = n - j) ∧ i = .int .i64 j ∧ Hid (∀ i, i < j → ∀ x y, ops[i]? = some x → ops'[i]? = some y → toldEq x y = true) ∧ Hid (∃ m, wr = w.drewN m))
    case atStart => exact ⟨0, Nat.zero_le _, by show _ = _; omega, rfl, fun i hi => by omega, ⟨0, rfl⟩⟩
    case round =>
      obtain ⟨j, hj, hk, rfl, hq, hb⟩ := hrel
      obtain ⟨m, rfl⟩ := hb.out
      by_cases hlt : j < n
      · obtain ⟨b, off, ha, hL, hbU, hc⟩ := H.at_ (by omega)
        obtain ⟨b', off', ha', hL', hbU', hc'⟩ := H'.at_ (by omega)
        subst ha ha'
        obtain ⟨x, vs, he, hc, rfl⟩ := hc j hlt
        obtain ⟨y, vs', he2, hc', rfl⟩ := hc' j hlt
        have c0 := hc 0 _ rfl
        have c1 := hc 1 _ rfl
        have c2 := hc 2 _ rfl
        have d0 := hc' 0 _ rfl
        have d1 := hc' 1 _ rfl
        have d2 := hc' 2 _ rfl
        simp only [Nat.add_zero] at c0 d0
        have HE : Hid (ops[j]? = some x ∧ ops'[j]? = some y) := ⟨he, he2⟩
        have hlt' : (j : Int) < (n : Int) := by omega
        clear he he2 hc hc'
        rcases toldParts x y with ⟨t0, t1, t2⟩ | t0 | ⟨t0, t1⟩ | ⟨t0, t1, t2⟩
        · have HY : Hid (toldEq x y = true) := by show _ = _; simp only [toldEq, t0, t1, t2, Bool.and_true]
          go_wp2_with fail
          go_quiet (fail)
          go_wp2_with fail
          go_roundg (n - (j + 1))
          case measure => have := hk.out; omega
          case rel =>
            refine ⟨j + 1, by omega, rfl, by go_num, fun i hi x' y' hx hy => ?_, ⟨_, rfl⟩⟩
            by_cases e : i = j
            · subst e
              rw [HE.out.1] at hx
              rw [HE.out.2] at hy
              cases hx
              cases hy
              exact HY.out
            · exact hq.out i (by omega) x' y' hx hy
        all_goals
          have HN : Hid (toldEq x y = false) := by show _ = _; simp only [toldEq, *, Bool.and_false, Bool.false_and]
          go_wp2_with fail
          go_quiet (fail)
          go_wp2_with fail
          go_ret
          exact ⟨ret_bool (listEq_no HE.out.1 HE.out.2 HN.out).symm, m + nq, by rw [World.drewN_drewN]⟩
      · go_wp2_with fail
        go_ret
        exact ⟨ret_bool (listEq_yes (by rw [← H.len, ← H'.len]) (fun i x y hx hy => hq.out i (by have := (List.getElem?_eq_some_iff.1 hx).1; have := H.len; omega) x y hx hy)).symm, m, rfl⟩
  · have hne : ((n : Int) == n') = false := by simp; omega
    go_enter Try.func62, Try.ntmps62
    go_wp2
    go_ret
    exact ⟨ret_bool (listEq_len (by rw [← H.len, ← H'.len]; exact hnn)).symm, 0, rfl⟩

end Go.Proofs.Ytohimbdmhljocaa
