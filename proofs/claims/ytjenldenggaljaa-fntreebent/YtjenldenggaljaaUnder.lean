/- Home and under: contracts of the program and of the specification. -/
import Derived.Test.YtjenldenggaljaaLayAll
namespace Go.Proofs.Ytjenldenggaljaa
open Go.RowKit

/-- The one tree lies boxed behind what was there. -/
structure One (w wx : World) (v : Value) : Prop where
  below : Below w.heap.size w wx
  c0 : wx.cell? ⟨w.heap.size, 0, none⟩ = some v
  size : w.heap.size < wx.heap.size
theorem One.next {w wx wy : World} {v : Value} (h : One w wx v) (k : Below wx.heap.size wx wy) : One w wy v :=
  ⟨h.below.trans (k.mono h.below.size), by rw [k.cell (by have := h.size; simp; omega)]; exact h.c0, by have := k.size; have := h.size; omega⟩
theorem One.drew {w wx : World} {v : Value} (h : One w wx v) : One w wx.drew v := h.next (Below.refl _ _).drew
theorem One.start {w w1 : World} {v : Value} {t : TypeId} (h : Below (w.alloc (.cells #[v] t)).heap.size (w.alloc (.cells #[v] t)) w1) : One w w1 v :=
  One.next ⟨(Below.refl _ _).alloc (Nat.le_refl _) _, by simp [go_sem], by simp⟩ h

theorem implTreeOk (a : Option Addr) (n c : Nat) (os : List LObj) (L U : Nat) (w : World) (hU : U ≤ w.heap.size) (H : ObjsAt w L U a n os) :
    Calls Try.prog 26 #[.agg #[.slice a n c]] w fun e w' => e = .returned (.bool (specOk os)) ∧ Below w.heap.size w w' := by
  have hB : ∀ o1, Below w.heap.size w (w.alloc o1) := fun o1 => (Below.refl _ _).alloc (Nat.le_refl _) _
  go_enter Try.func26, Try.ntmps26
  go_wp2_with fail
  refine (layOut_any _ _ _ _ L U _ (by simp; omega) (H.below (hB _) hU)).mono ?_
  rintro x w1 ⟨hl, hb⟩
  have hb1 : Below w.heap.size w w1 := (hB _).trans (hb.mono (by simp))
  rcases hl with ⟨rfl, hs⟩ | ⟨lb, f, rfl, hs, _⟩
  · have HS : Hid (specOk os = false) := hs
    clear hs
    go_wp2_with fail
    go_ret
    exact ⟨ret_bool HS.out.symm, hb1⟩
  · have HS : Hid (specOk os = true) := hs
    clear hs
    go_wp2_with fail
    go_ret
    exact ⟨ret_bool HS.out.symm, hb1⟩

def hasB (os : List LObj) (id : Int) : Bool := decide (0 ≤ id) && decide (id < 32) && (kindOf os id.toNat != 0)
set_option maxHeartbeats 400000 in
theorem has_any (lb : Nat) (os : List LObj) (L U : Nat) (f : Nat → Value) (id : Int) (w w0 : World) (h : Nat → Int) (nm : Nat → ByteArray) (hrow : w.rowIs lb 120 192 f) (hlay : LayF w0 L U os f 32 h nm) :
    Calls Try.prog 76 #[.pointer (some ⟨lb, 0, none⟩), .int .i64 id] w fun e w' => e = .returned (.bool (hasB os id)) ∧ Below w.heap.size w w' := by
  by_cases h0 : 0 ≤ id
  · by_cases h1 : id < 32
    · obtain ⟨k, rfl⟩ := Int.eq_ofNat_of_zero_le h0
      have hk : k < 32 := by omega
      obtain ⟨o, ka, kn, kc, ho, p0, p1, p2, p3, p4, p5, hks⟩ := hlay k hk
      have g0 := hrow.cell (i := k * 6) (by omega)
      have g1 := hrow.cell (i := k * 6 + 1) (by omega)
      have g2 := hrow.cell (i := k * 6 + 2) (by omega)
      have g3 := hrow.cell (i := k * 6 + 3) (by omega)
      rw [p0] at g0
      rw [p1] at g1
      rw [p2] at g2
      rw [p3] at g3
      have HO : Hid (kindOf os k = o.kind) := kindOf_at ho
      clear ho p0 p1 p2 p3 p4 p5 hks hrow hlay
      go_enter Try.func76, Try.ntmps76
      go_wp2_with (first | (go_at_call 118; refine (there_any _ _ _ _ _).mono ?_; rintro x w1 ⟨rfl, rfl⟩) | (go_at_call 101; refine (isObject_yes (by omega) (by omega) _).mono ?_; rintro x w1 ⟨rfl, rfl⟩))
      go_ret
      exact ⟨ret_bool (by simp [hasB, HO.out]; omega), (Below.refl _ _).alloc (Nat.le_refl _) _⟩
    · clear hrow hlay
      go_enter Try.func76, Try.ntmps76
      go_wp2_with (go_at_call 101; refine (isObject_no (by omega) _).mono ?_; rintro x w1 ⟨rfl, rfl⟩)
      go_ret
      exact ⟨ret_bool (by simp [hasB]; omega), Below.refl _ _⟩
  · clear hrow hlay
    go_enter Try.func76, Try.ntmps76
    go_wp2_with (go_at_call 101; refine (isObject_no (by omega) _).mono ?_; rintro x w1 ⟨rfl, rfl⟩)
    go_ret
    exact ⟨ret_bool (by simp [hasB]; omega), Below.refl _ _⟩

theorem has_not {os : List LObj} (hs : specOk os = true) {id : Int} (h : hasB os id = false) : Off (flat os) id := by
  have hi := (specOk_iff os).1 hs
  intro x hx e
  obtain ⟨k, e1, k1, k2⟩ := flat_ids (ids_of_ok hi.2.1) hx
  have h1 := hi.2.2.2.1.1 x hx
  rw [e1, Int.toNat_natCast] at h1
  rw [← e, e1] at h
  simp [hasB, h1] at h
  omega

def homeV (os : List LObj) (id : Int) : Int := if specOk os = true then homeIn (flat os) id else -1
theorem homeV_no {os : List LObj} (h : specOk os = false) (id : Int) : homeV os id = -1 := by simp [homeV, h]
theorem homeV_yes {os : List LObj} (h : specOk os = true) (id : Int) : homeV os id = homeIn (flat os) id := by simp [homeV, h]

set_option maxHeartbeats 400000 in
theorem specHome (a : Option Addr) (n c : Nat) (os : List LObj) (L U : Nat) (id : Int) (w : World) (hS : Sizes os 1048576) (hU : U ≤ w.heap.size) (H : ObjsAt w L U a n os) :
    Calls Try.prog 46 #[.agg #[.slice a n c], .int .i64 id] w fun e w' => e = .returned (.int .i64 (homeV os id)) ∧ Below w.heap.size w w' := by
  have hB : ∀ o1, Below w.heap.size w (w.alloc o1) := fun o1 => (Below.refl _ _).alloc (Nat.le_refl _) _
  go_enter Try.func46, Try.ntmps46
  go_wp2_with fail
  refine (specTreeOk _ _ _ _ L U _ hS (by simp; omega) (H.below (hB _) hU)).mono ?_
  rintro x w1 ⟨rfl, hb⟩
  have hx1 : w1.cell? ⟨w.heap.size, 0, none⟩ = some (.slice a n c) := by rw [hb.cell (by simp)]; simp [go_sem]
  have hb1 : Below w.heap.size w w1 := (hB _).trans (hb.mono (by simp))
  clear hb
  cases hs : specOk os
  · have HS : Hid (specOk os = false) := hs
    clear hs
    go_wp2_with fail
    go_ret
    exact ⟨ret_int (homeV_no HS.out id).symm, hb1⟩
  · have HS : Hid (specOk os = true) := hs
    clear hs
    go_wp2_with fail
    refine (l1Home_any _ _ _ _ L U _ _ (by have := hb1.size; omega) (H.below hb1 hU)).mono ?_
    rintro x w2 ⟨rfl, rfl⟩
    go_wp2_with fail
    go_ret
    exact ⟨ret_int (homeV_yes HS.out id).symm, hb1.alloc hb1.size _⟩

set_option maxHeartbeats 400000 in
theorem implHome (a : Option Addr) (n c : Nat) (os : List LObj) (L U : Nat) (id : Int) (w : World) (hU : U ≤ w.heap.size) (H : ObjsAt w L U a n os) :
    Calls Try.prog 28 #[.agg #[.slice a n c], .int .i64 id] w fun e w' => e = .returned (.int .i64 (homeV os id)) ∧ Below w.heap.size w w' := by
  have hB : ∀ o1, Below w.heap.size w (w.alloc o1) := fun o1 => (Below.refl _ _).alloc (Nat.le_refl _) _
  go_enter Try.func28, Try.ntmps28
  go_wp2_with fail
  refine (layOut_any _ _ _ _ L U _ (by simp; omega) (H.below (hB _) hU)).mono ?_
  rintro x w1 ⟨hl, hb⟩
  have hb1 : Below w.heap.size w w1 := (hB _).trans (hb.mono (by simp))
  clear hb
  rcases hl with ⟨rfl, hs⟩ | ⟨lb, f, rfl, hs, _, hrow, hlay⟩
  · have HS : Hid (specOk os = false) := hs
    clear hs
    go_wp2_with fail
    go_ret
    exact ⟨ret_int (homeV_no HS.out id).symm, hb1⟩
  · have HS : Hid (specOk os = true) := hs
    have HR : Hid (w1.rowIs lb 120 192 f) := hrow
    clear hs hrow
    go_wp2_with fail
    refine (has_any lb os L U f id _ _ _ _ HR.out hlay).mono ?_
    rintro x w2 ⟨rfl, hb2⟩
    have hb3 : Below w.heap.size w w2 := hb1.trans (hb2.mono hb1.size)
    cases hh : hasB os id
    · have HH : Hid (hasB os id = false) := hh
      clear hh
      go_wp2_with fail
      go_ret
      exact ⟨ret_int (by rw [homeV_yes HS.out, homeIn_off (has_not HS.out HH.out)]), hb3⟩
    · obtain ⟨k, rfl, hk⟩ : ∃ k : Nat, id = k ∧ k < 32 := by
        simp [hasB] at hh
        exact ⟨id.toNat, by omega, by omega⟩
      have hr2 := HR.out.of_block (hb2.block _ HR.out.lt)
      obtain ⟨o, ka, kn, kc, ho, p0, p1, p2, p3, p4, p5, hks⟩ := hlay k hk
      have g2 := hr2.cell (i := k * 6 + 2) (by omega)
      rw [p2] at g2
      clear hr2 ho p0 p1 p2 p3 p4 p5 hks hlay hh
      have hk0 : (0 : Int) ≤ (k : Int) := by omega
      have hk1 : (k : Int) < 32 := by omega
      go_wp2_with fail
      go_ret
      exact ⟨ret_int (homeV_yes HS.out k).symm, hb3⟩

/-- One comes to dir from it within so many objects. -/
def under (os : List LObj) (dir : Int) : Nat → Int → Bool
  | 0, _ => false
  | k + 1, id => if 0 ≤ id then (if id = dir then true else under os dir k (homeIn (flat os) id)) else false
theorem under_neg (os : List LObj) (dir : Int) (k : Nat) {id : Int} (h : ¬ 0 ≤ id) : under os dir k id = false := by
  cases k with
  | zero => rfl
  | succ k => unfold under; rw [if_neg h]
theorem under_same (os : List LObj) (dir : Int) (k : Nat) {id : Int} (h : 0 ≤ id) (e : id = dir) : under os dir (k + 1) id = true := by
  unfold under; rw [if_pos h, if_pos e]
theorem under_step (os : List LObj) (dir : Int) (k : Nat) {id : Int} (h : 0 ≤ id) (e : id ≠ dir) : under os dir (k + 1) id = under os dir k (homeIn (flat os) id) := by
  rw [under, if_pos h, if_neg e]
def underV (os : List LObj) (id dir : Int) : Bool := specOk os && hasB os id && under os dir 33 id
theorem underV_no {os : List LObj} (h : specOk os = false) (id dir : Int) : underV os id dir = false := by simp [underV, h]
theorem underV_has {os : List LObj} {id : Int} (h : hasB os id = false) (dir : Int) : underV os id dir = false := by simp [underV, h]
theorem underV_yes {os : List LObj} {id : Int} (hs : specOk os = true) (h : hasB os id = true) (dir : Int) : underV os id dir = under os dir 33 id := by simp [underV, h, hs]
theorem homeIn_top {os : List LObj} (hs : specOk os = true) : homeIn (flat os) 0 = -1 := by
  have hi := (specOk_iff os).1 hs
  refine homeIn_off fun x hx e => ?_
  obtain ⟨k, e1, k1, k2⟩ := flat_ids (ids_of_ok hi.2.1) hx
  omega

set_option maxHeartbeats 1000000 in
theorem implUnder (a : Option Addr) (n c : Nat) (os : List LObj) (L U : Nat) (id dir : Int) (w : World) (hU : U ≤ w.heap.size) (H : ObjsAt w L U a n os) :
    Calls Try.prog 29 #[.agg #[.slice a n c], .int .i64 id, .int .i64 dir] w fun e w' => e = .returned (.bool (underV os id dir)) ∧ Below w.heap.size w w' := by
  have hB : ∀ o1, Below w.heap.size w (w.alloc o1) := fun o1 => (Below.refl _ _).alloc (Nat.le_refl _) _
  go_enter Try.func29, Try.ntmps29
  go_wp2_with fail
  refine (layOut_any _ _ _ _ L U _ (by simp; omega) (H.below (hB _) hU)).mono ?_
  rintro x w1 ⟨hl, hb⟩
  have hb1 : Below w.heap.size w w1 := (hB _).trans (hb.mono (by simp))
  clear hb
  rcases hl with ⟨rfl, hs⟩ | ⟨lb, f, rfl, hs, _, hrow, hlay⟩
  · have HS : Hid (specOk os = false) := hs
    clear hs
    go_wp2_with fail
    go_ret
    exact ⟨ret_bool (underV_no HS.out id dir).symm, hb1⟩
  · have HS : Hid (specOk os = true) := hs
    have HR : Hid (w1.rowIs lb 120 192 f) := hrow
    clear hs hrow
    go_wp2_with fail
    refine (has_any lb os L U f id _ _ _ _ HR.out hlay).mono ?_
    rintro x w2 ⟨rfl, hb2⟩
    have hb3 : Below w.heap.size w w2 := hb1.trans (hb2.mono hb1.size)
    cases hh : hasB os id
    · have HH : Hid (hasB os id = false) := hh
      clear hh
      go_wp2_with fail
      go_ret
      exact ⟨ret_bool (underV_has HH.out dir).symm, hb3⟩
    · have HH : Hid (hasB os id = true) := hh
      obtain ⟨k, rfl, hk⟩ : ∃ k : Nat, id = k ∧ k < 32 := by
        simp [hasB] at hh
        exact ⟨id.toNat, by omega, by omega⟩
      have HK : Hid (kindOf os k ≠ 0) := by
        show _ ≠ _
        simp [hasB] at hh
        exact hh.2
      clear hh
      have HR2 : Hid (w2.rowIs lb 120 192 f) := HR.out.of_block (hb2.block _ HR.out.lt)
      have HOK : Hid (ImplOk os) := (specOk_iff os).1 HS.out
      clear hb2 hb1
      go_wp2_with fail
      go_loopg [9] 33 (fun g cur wr => ((∃ m d : Nat, m ≤ 31 ∧ Hid (g = 33 - m) ∧ cur = .int .i64 d ∧ d < 32 ∧ Hid (climb os m k = d ∧ under os dir 33 k = under os dir (33 - m) d)) ∨ (g = 0 ∧ cur = .int .i64 (-1) ∧ Hid (under os dir 33 k = false))) ∧ wr = w2)
      case atStart => exact ⟨.inl ⟨0, k, by omega, by show _ = _; omega, rfl, hk, rfl, rfl⟩, rfl⟩
      case round =>
        obtain ⟨hrel, rfl⟩ := hrel
        rcases hrel with ⟨m, d, hm, hg, rfl, hd, hq⟩ | ⟨rfl, rfl, hq⟩
        · have t0 : ((d : Int) != -1) = true := by simp
          by_cases hdd : (d : Int) = dir
          · have t1 : ((d : Int) == dir) = true := by simpa using hdd
            have HD : Hid ((d : Int) = dir) := hdd
            clear hdd
            go_wp2_with fail
            go_ret
            exact ⟨ret_bool (by rw [underV_yes HS.out HH.out, hq.out.2, show 33 - m = (32 - m) + 1 by omega, under_same os dir (32 - m) (by omega) HD.out]), hb3⟩
          · have t1 : ((d : Int) == dir) = false := by simpa using hdd
            have HD : Hid ((d : Int) ≠ dir) := hdd
            clear hdd
            obtain ⟨o, ka, kn, kc, ho, p0, p1, p2, p3, p4, p5, hks⟩ := hlay d hd
            have g2 := HR2.out.cell (i := d * 6 + 2) (by omega)
            rw [p2] at g2
            dsimp only at g2
            clear ho p0 p1 p2 p3 p4 p5 hks
            have hd0 : (0 : Int) ≤ (d : Int) := by omega
            have hd1 : (d : Int) < 32 := by omega
            have hst : under os dir 33 k = under os dir (32 - m) (homeIn (flat os) d) := by
              rw [hq.out.2, show 33 - m = (32 - m) + 1 by omega, under_step os dir (32 - m) hd0 HD.out]
            by_cases hz : d = 0
            · have HZ : Hid (under os dir 33 k = false) := by
                show _ = _
                rw [hst, hz]
                show under os dir (32 - m) (homeIn (flat os) 0) = false
                rw [homeIn_top HS.out]
                exact under_neg os dir _ (by omega)
              have e0 : homeIn (flat os) (d : Int) = -1 := by rw [hz]; exact homeIn_top HS.out
              rw [e0] at g2
              clear e0 hst hz
              go_wp2_with fail
              go_roundg 0
              case measure => have := hg.out; omega
              case rel => exact ⟨.inr ⟨rfl, rfl, HZ.out⟩, rfl⟩
            · have hm30 : m + 1 ≤ 31 := by
                apply Classical.byContradiction
                intro hn
                have : m = 31 := by omega
                subst this
                have h1 := HOK.out.2.2.2.2 k hk HK.out
                rw [hq.out.1] at h1
                omega
              obtain ⟨d', q1, q2, q3⟩ := climb_in HOK.out.1 HOK.out.2.1 HOK.out.2.2.2.1 hk HK.out (m + 1)
              have hh : homeIn (flat os) d = d' := by
                have h1 := climb_snoc os m k
                rw [hq.out.1, if_pos (by omega), q1] at h1
                exact h1.symm
              rw [hh] at g2 hst
              have Q : Hid (climb os (m + 1) k = d' ∧ under os dir 33 k = under os dir (33 - (m + 1)) d') := ⟨q1, by rw [hst, show 33 - (m + 1) = 32 - m by omega]⟩
              clear hh q1 hst hz
              go_wp2_with fail
              go_roundg (33 - (m + 1))
              case measure => have := hg.out; omega
              case rel => exact ⟨.inl ⟨m + 1, d', by omega, rfl, rfl, q2, Q.out⟩, rfl⟩
        · go_wp2_with fail
          go_ret
          exact ⟨ret_bool (by rw [underV_yes HS.out HH.out, hq.out]), hb3⟩

set_option maxHeartbeats 1000000 in
theorem l1Under_any (a : Option Addr) (n c : Nat) (os : List LObj) (L U : Nat) (id dir : Int) (w : World) (hU : U ≤ w.heap.size) (H : ObjsAt w L U a n os) :
    Calls Try.prog 91 #[.agg #[.slice a n c], .int .i64 id, .int .i64 dir] w fun e w' => e = .returned (.bool (under os dir 33 id)) ∧ Below w.heap.size w w' := by
  have hB : ∀ o1, Below w.heap.size w (w.alloc o1) := fun o1 => (Below.refl _ _).alloc (Nat.le_refl _) _
  go_enter Try.func91, Try.ntmps91
  go_wp2_with fail
  go_loopg [1, 7] 33 (fun g d i wr => ∃ j : Nat, j ≤ 33 ∧ Hid (g = 33 - j) ∧ i = .int .i64 j ∧ (∃ x : Int, d = .int .i64 x ∧ Hid (under os dir 33 id = under os dir (33 - j) x)) ∧ One w wr (.slice a n c))
  case atStart => exact ⟨0, Nat.zero_le _, by show _ = _; omega, rfl, ⟨id, rfl, rfl⟩, hB _, by simp [go_sem], by simp⟩
  case round =>
    obtain ⟨j, hj, hk, rfl, ⟨x, rfl, hq⟩, hO⟩ := hrel
    have hx := hO.c0
    by_cases hlt : j ≤ 32
    · have hlt' : (j : Int) ≤ 32 := by omega
      by_cases hx0 : 0 ≤ x
      · by_cases hxd : x = dir
        · have t1 : (x == dir) = true := by simpa using hxd
          have HD : Hid (x = dir) := hxd
          clear hxd
          go_wp2_with fail
          go_ret
          exact ⟨ret_bool (by rw [hq.out, show 33 - j = (32 - j) + 1 by omega, under_same os dir (32 - j) hx0 HD.out]), hO.below⟩
        · have t1 : (x == dir) = false := by simpa using hxd
          have HD : Hid (x ≠ dir) := hxd
          clear hxd
          go_wp2_with fail
          refine (l1Home_any _ _ _ _ L U _ _ (by have := hO.below.size; omega) (H.below hO.below hU)).mono ?_
          rintro y w1 ⟨rfl, rfl⟩
          go_wp2_with fail
          go_roundg (33 - (j + 1))
          case measure => have := hk.out; omega
          case rel =>
            exact ⟨j + 1, by omega, rfl, by go_num, ⟨_, rfl, by show _ = _; rw [hq.out, show 33 - j = (33 - (j + 1)) + 1 by omega, under_step os dir (33 - (j + 1)) hx0 HD.out]⟩, hO.next ((Below.refl _ _).alloc (Nat.le_refl _) _)⟩
      · go_wp2_with fail
        go_ret
        exact ⟨ret_bool (by rw [hq.out, under_neg os dir (33 - j) (by omega)]), hO.below⟩
    · have hlt' : ¬ (j : Int) ≤ 32 := by omega
      go_wp2_with fail
      go_ret
      have : 33 - j = 0 := by omega
      exact ⟨ret_bool (by rw [hq.out, this]; rfl), hO.below⟩

set_option maxHeartbeats 1000000 in
theorem specUnder (a : Option Addr) (n c : Nat) (os : List LObj) (L U : Nat) (id dir : Int) (w : World) (hS : Sizes os 1048576) (hU : U ≤ w.heap.size) (H : ObjsAt w L U a n os) :
    Calls Try.prog 38 #[.agg #[.slice a n c], .int .i64 id, .int .i64 dir] w fun e w' => e = .returned (.bool (underV os id dir)) ∧ Below w.heap.size w w' := by
  go_enter Try.func38, Try.ntmps38
  go_wp2_with fail
  refine (specTreeOk _ _ _ _ L U _ hS (by simp; omega) (H.below ((Below.refl _ _).alloc (Nat.le_refl _) _) hU)).mono ?_
  rintro x w1 ⟨rfl, hb⟩
  have hO := One.start hb
  have hx1 := hO.c0
  clear hb
  cases hs : specOk os
  · have HS : Hid (specOk os = false) := hs
    clear hs
    go_wp2_with fail
    go_ret
    exact ⟨ret_bool (underV_no HS.out id dir).symm, hO.below⟩
  · have HS : Hid (specOk os = true) := hs
    have HOK : Hid (ImplOk os) := (specOk_iff os).1 hs
    clear hs
    by_cases hr : 0 ≤ id ∧ id < 32
    · obtain ⟨k, rfl⟩ := Int.eq_ofNat_of_zero_le hr.1
      have hk : k < 32 := by omega
      have hn : n = 32 := by rw [H.len]; exact HOK.out.1
      subst hn
      obtain ⟨b, off, ha, hL, hbU, hc⟩ := H.at_ (by omega)
      subst ha
      obtain ⟨o, ka, kn, kc, ho, hsz, hd0, _⟩ := hc k hk
      rw [← hO.below.cell (by simp; omega)] at hd0
      have HO : Hid (kindOf os k = o.kind) := kindOf_at ho
      clear ho hc
      have hk0 : (0 : Int) ≤ (k : Int) := hr.1
      have hk1 : (k : Int) < 32 := hr.2
      clear hr
      by_cases hlive : o.kind = 0
      · have t1 : (o.kind == 0) = true := by simpa using hlive
        have HV : Hid (hasB os k = false) := by show _ = _; simp [hasB, HO.out, hlive]
        clear hlive
        go_wp2_with (go_at_call 78; refine (l1Id_yes _ hk0 hk1 _).mono ?_; rintro x w2 ⟨rfl, rfl⟩)
        go_ret
        exact ⟨ret_bool (underV_has HV.out dir).symm, hO.below⟩
      · have t1 : (o.kind == 0) = false := by simpa using hlive
        have HV : Hid (hasB os k = true) := by show _ = _; simp [hasB, HO.out, hlive]; omega
        clear hlive
        go_wp2_with (go_at_call 78; refine (l1Id_yes _ hk0 hk1 _).mono ?_; rintro x w2 ⟨rfl, rfl⟩)
        refine (l1Under_any _ _ _ _ L U _ _ _ (by have := hO.below.size; omega) (H.below hO.below hU)).mono ?_
        rintro x w2 ⟨rfl, hb2⟩
        go_wp2_with fail
        go_ret
        exact ⟨ret_bool (underV_yes HS.out HV.out dir).symm, (hO.next hb2).below⟩
    · have HV : Hid (hasB os id = false) := by show _ = _; simp [hasB]; omega
      go_wp2_with (go_at_call 78; refine (l1Id_no _ (by omega) _).mono ?_; rintro x w2 ⟨rfl, rfl⟩)
      go_ret
      exact ⟨ret_bool (underV_has HV.out dir).symm, hO.below⟩
end Go.Proofs.Ytjenldenggaljaa
