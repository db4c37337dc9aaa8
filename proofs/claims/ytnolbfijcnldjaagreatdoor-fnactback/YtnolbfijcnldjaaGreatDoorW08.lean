/- Lemmas that the proofs of this seat share: Under, Find. -/
import Derived.Test.YtnolbfijcnldjaaGreatDoorW07
import Derived.Lib.Bytealg
import Derived.Lib.Walk
/- Home and under: contracts of the program and of the specification. -/
namespace Go.Proofs.YtnolbfijcnldjaaGreatDoor
open Go.RowKit

/-- The one tree lies boxed behind what was there. -/
structure One (w wx : World) (v : Value) : Prop where
  below : Below w.heap.size w wx
  c0 : wx.cell? ⟨w.heap.size, 0, none⟩ = some v
  size : w.heap.size < wx.heap.size
theorem One.next {w wx wy : World} {v : Value} (h : One w wx v) (k : Below wx.heap.size wx wy) : One w wy v :=
  ⟨h.below.trans (k.mono h.below.size), by rw [k.cell (by have := h.size; simp; omega)]; exact h.c0, by have := k.size; have := h.size; omega⟩
theorem One.drew {w wx : World} {v : Value} (h : One w wx v) : One w wx.drew v := h.next (Below.refl _ _).drew
theorem One.start {w w1 : World} {v : Value} {t : TypeId} (h : Below (w.alloc (.cells #[v] t)).heap.size (w.alloc (.cells #[v] t)) w1) : One w w1 v :=
  One.next ⟨(Below.refl _ _).alloc (Nat.le_refl _) _, by simp [go_sem], by simp⟩ h

theorem implTreeOk (a : Option Addr) (n c : Nat) (os : List LObj) (L U : Nat) (w : World) (hU : U ≤ w.heap.size) (H : ObjsAt w L U a n os) :
    Calls Tryz.prog 22 #[.agg #[.slice a n c]] w fun e w' => e = .returned (.bool (specOk os)) ∧ Below w.heap.size w w' := by
  have hB : ∀ o1, Below w.heap.size w (w.alloc o1) := fun o1 => (Below.refl _ _).alloc (Nat.le_refl _) _
  go_enter Tryz.func22, Tryz.ntmps22
  go_wp2_with fail
  refine (layOut_any _ _ _ _ L U _ (by simp; omega) (H.below (hB _) hU)).mono ?_
  rintro x w1 ⟨hl, hb⟩
  have hb1 : Below w.heap.size w w1 := (hB _).trans (hb.mono (by simp))
  rcases hl with ⟨rfl, hs⟩ | ⟨lb, f, rfl, hs, _⟩
  · have HS : Hid (specOk os = false) := hs
    clear hs
    go_wp2_with fail
    go_ret
    exact ⟨ret_bool HS.out.symm, hb1⟩
  · have HS : Hid (specOk os = true) := hs
    clear hs
    go_wp2_with fail
    go_ret
    exact ⟨ret_bool HS.out.symm, hb1⟩

def hasB (os : List LObj) (id : Int) : Bool := decide (0 ≤ id) && decide (id < 32) && (kindOf os id.toNat != 0)
set_option maxHeartbeats 400000 in
theorem has_any (lb : Nat) (os : List LObj) (L U : Nat) (f : Nat → Value) (id : Int) (w w0 : World) (h : Nat → Int) (nm : Nat → ByteArray) (hrow : w.rowIs lb 150 192 f) (hlay : LayF w0 L U os f 32 h nm) :
    Calls Tryz.prog 80 #[.pointer (some ⟨lb, 0, none⟩), .int .i64 id] w fun e w' => e = .returned (.bool (hasB os id)) ∧ Below w.heap.size w w' := by
  by_cases h0 : 0 ≤ id
  · by_cases h1 : id < 32
    · obtain ⟨k, rfl⟩ := Int.eq_ofNat_of_zero_le h0
      have hk : k < 32 := by omega
      obtain ⟨o, ka, kn, kc, ho, p0, p1, p2, p3, p4, p5, hks⟩ := hlay k hk
      have g0 := hrow.cell (i := k * 6) (by omega)
      have g1 := hrow.cell (i := k * 6 + 1) (by omega)
      have g2 := hrow.cell (i := k * 6 + 2) (by omega)
      have g3 := hrow.cell (i := k * 6 + 3) (by omega)
      rw [p0] at g0
      rw [p1] at g1
      rw [p2] at g2
      rw [p3] at g3
      have HO : Hid (kindOf os k = o.kind) := kindOf_at ho
      clear ho p0 p1 p2 p3 p4 p5 hks hrow hlay
      go_enter Tryz.func80, Tryz.ntmps80
      go_wp2_with (first | (go_at_call 136; refine (there_any _ _ _ _ _).mono ?_; rintro x w1 ⟨rfl, rfl⟩) | (go_at_call 78; refine (isObject_yes (by omega) (by omega) _).mono ?_; rintro x w1 ⟨rfl, rfl⟩))
      go_ret
      exact ⟨ret_bool (by simp [hasB, HO.out]; omega), (Below.refl _ _).alloc (Nat.le_refl _) _⟩
    · clear hrow hlay
      go_enter Tryz.func80, Tryz.ntmps80
      go_wp2_with (go_at_call 78; refine (isObject_no (by omega) _).mono ?_; rintro x w1 ⟨rfl, rfl⟩)
      go_ret
      exact ⟨ret_bool (by simp [hasB]; omega), Below.refl _ _⟩
  · clear hrow hlay
    go_enter Tryz.func80, Tryz.ntmps80
    go_wp2_with (go_at_call 78; refine (isObject_no (by omega) _).mono ?_; rintro x w1 ⟨rfl, rfl⟩)
    go_ret
    exact ⟨ret_bool (by simp [hasB]; omega), Below.refl _ _⟩

theorem has_not {os : List LObj} (hs : specOk os = true) {id : Int} (h : hasB os id = false) : Off (flat os) id := by
  have hi := (specOk_iff os).1 hs
  intro x hx e
  obtain ⟨k, e1, k1, k2⟩ := flat_ids (ids_of_ok hi.2.1) hx
  have h1 := hi.2.2.2.1.1 x hx
  rw [e1, Int.toNat_natCast] at h1
  rw [← e, e1] at h
  simp [hasB, h1] at h
  omega

def homeV (os : List LObj) (id : Int) : Int := if specOk os = true then homeIn (flat os) id else -1
theorem homeV_no {os : List LObj} (h : specOk os = false) (id : Int) : homeV os id = -1 := by simp [homeV, h]
theorem homeV_yes {os : List LObj} (h : specOk os = true) (id : Int) : homeV os id = homeIn (flat os) id := by simp [homeV, h]

set_option maxHeartbeats 400000 in
theorem implHome (a : Option Addr) (n c : Nat) (os : List LObj) (L U : Nat) (id : Int) (w : World) (hU : U ≤ w.heap.size) (H : ObjsAt w L U a n os) :
    Calls Tryz.prog 27 #[.agg #[.slice a n c], .int .i64 id] w fun e w' => e = .returned (.int .i64 (homeV os id)) ∧ Below w.heap.size w w' := by
  have hB : ∀ o1, Below w.heap.size w (w.alloc o1) := fun o1 => (Below.refl _ _).alloc (Nat.le_refl _) _
  go_enter Tryz.func27, Tryz.ntmps27
  go_wp2_with fail
  refine (layOut_any _ _ _ _ L U _ (by simp; omega) (H.below (hB _) hU)).mono ?_
  rintro x w1 ⟨hl, hb⟩
  have hb1 : Below w.heap.size w w1 := (hB _).trans (hb.mono (by simp))
  clear hb
  rcases hl with ⟨rfl, hs⟩ | ⟨lb, f, rfl, hs, _, hrow, hlay⟩
  · have HS : Hid (specOk os = false) := hs
    clear hs
    go_wp2_with fail
    go_ret
    exact ⟨ret_int (homeV_no HS.out id).symm, hb1⟩
  · have HS : Hid (specOk os = true) := hs
    have HR : Hid (w1.rowIs lb 150 192 f) := hrow
    clear hs hrow
    go_wp2_with fail
    refine (has_any lb os L U f id _ _ _ _ HR.out hlay).mono ?_
    rintro x w2 ⟨rfl, hb2⟩
    have hb3 : Below w.heap.size w w2 := hb1.trans (hb2.mono hb1.size)
    cases hh : hasB os id
    · have HH : Hid (hasB os id = false) := hh
      clear hh
      go_wp2_with fail
      go_ret
      exact ⟨ret_int (by rw [homeV_yes HS.out, homeIn_off (has_not HS.out HH.out)]), hb3⟩
    · obtain ⟨k, rfl, hk⟩ : ∃ k : Nat, id = k ∧ k < 32 := by
        simp [hasB] at hh
        exact ⟨id.toNat, by omega, by omega⟩
      have hr2 := HR.out.of_block (hb2.block _ HR.out.lt)
      obtain ⟨o, ka, kn, kc, ho, p0, p1, p2, p3, p4, p5, hks⟩ := hlay k hk
      have g2 := hr2.cell (i := k * 6 + 2) (by omega)
      rw [p2] at g2
      clear hr2 ho p0 p1 p2 p3 p4 p5 hks hlay hh
      have hk0 : (0 : Int) ≤ (k : Int) := by omega
      have hk1 : (k : Int) < 32 := by omega
      go_wp2_with fail
      go_ret
      exact ⟨ret_int (homeV_yes HS.out k).symm, hb3⟩

/-- One comes to dir from it within so many objects. -/
def under (os : List LObj) (dir : Int) : Nat → Int → Bool
  | 0, _ => false
  | k + 1, id => if 0 ≤ id then (if id = dir then true else under os dir k (homeIn (flat os) id)) else false
theorem under_neg (os : List LObj) (dir : Int) (k : Nat) {id : Int} (h : ¬ 0 ≤ id) : under os dir k id = false := by
  cases k with
  | zero => rfl
  | succ k => unfold under; rw [if_neg h]
theorem under_same (os : List LObj) (dir : Int) (k : Nat) {id : Int} (h : 0 ≤ id) (e : id = dir) : under os dir (k + 1) id = true := by
  unfold under; rw [if_pos h, if_pos e]
theorem under_step (os : List LObj) (dir : Int) (k : Nat) {id : Int} (h : 0 ≤ id) (e : id ≠ dir) : under os dir (k + 1) id = under os dir k (homeIn (flat os) id) := by
  rw [under, if_pos h, if_neg e]
def underV (os : List LObj) (id dir : Int) : Bool := specOk os && hasB os id && under os dir 33 id
theorem underV_no {os : List LObj} (h : specOk os = false) (id dir : Int) : underV os id dir = false := by simp [underV, h]
theorem underV_has {os : List LObj} {id : Int} (h : hasB os id = false) (dir : Int) : underV os id dir = false := by simp [underV, h]
theorem underV_yes {os : List LObj} {id : Int} (hs : specOk os = true) (h : hasB os id = true) (dir : Int) : underV os id dir = under os dir 33 id := by simp [underV, h, hs]
theorem homeIn_top {os : List LObj} (hs : specOk os = true) : homeIn (flat os) 0 = -1 := by
  have hi := (specOk_iff os).1 hs
  refine homeIn_off fun x hx e => ?_
  obtain ⟨k, e1, k1, k2⟩ := flat_ids (ids_of_ok hi.2.1) hx
  omega

set_option maxHeartbeats 1000000 in
theorem implUnder (a : Option Addr) (n c : Nat) (os : List LObj) (L U : Nat) (id dir : Int) (w : World) (hU : U ≤ w.heap.size) (H : ObjsAt w L U a n os) :
    Calls Tryz.prog 34 #[.agg #[.slice a n c], .int .i64 id, .int .i64 dir] w fun e w' => e = .returned (.bool (underV os id dir)) ∧ Below w.heap.size w w' := by
  have hB : ∀ o1, Below w.heap.size w (w.alloc o1) := fun o1 => (Below.refl _ _).alloc (Nat.le_refl _) _
  go_enter Tryz.func34, Tryz.ntmps34
  go_wp2_with fail
  refine (layOut_any _ _ _ _ L U _ (by simp; omega) (H.below (hB _) hU)).mono ?_
  rintro x w1 ⟨hl, hb⟩
  have hb1 : Below w.heap.size w w1 := (hB _).trans (hb.mono (by simp))
  clear hb
  rcases hl with ⟨rfl, hs⟩ | ⟨lb, f, rfl, hs, _, hrow, hlay⟩
  · have HS : Hid (specOk os = false) := hs
    clear hs
    go_wp2_with fail
    go_ret
    exact ⟨ret_bool (underV_no HS.out id dir).symm, hb1⟩
  · have HS : Hid (specOk os = true) := hs
    have HR : Hid (w1.rowIs lb 150 192 f) := hrow
    clear hs hrow
    go_wp2_with fail
    refine (has_any lb os L U f id _ _ _ _ HR.out hlay).mono ?_
    rintro x w2 ⟨rfl, hb2⟩
    have hb3 : Below w.heap.size w w2 := hb1.trans (hb2.mono hb1.size)
    cases hh : hasB os id
    · have HH : Hid (hasB os id = false) := hh
      clear hh
      go_wp2_with fail
      go_ret
      exact ⟨ret_bool (underV_has HH.out dir).symm, hb3⟩
    · have HH : Hid (hasB os id = true) := hh
      obtain ⟨k, rfl, hk⟩ : ∃ k : Nat, id = k ∧ k < 32 := by
        simp [hasB] at hh
        exact ⟨id.toNat, by omega, by omega⟩
      have HK : Hid (kindOf os k ≠ 0) := by
        show _ ≠ _
        simp [hasB] at hh
        exact hh.2
      clear hh
      have HR2 : Hid (w2.rowIs lb 150 192 f) := HR.out.of_block (hb2.block _ HR.out.lt)
      have HOK : Hid (ImplOk os) := (specOk_iff os).1 HS.out
      clear hb2 hb1
      go_wp2_with fail
      go_loopg [9] 33 (fun g cur wr => ((∃ m d : Nat, m ≤ 31 ∧ Hid (g = 33 - m) ∧ cur = .int .i64 d ∧ d < 32 ∧ Hid (climb os m k = d ∧ under os dir 33 k = under os dir (33 - m) d)) ∨ (g = 0 ∧ cur = .int .i64 (-1) ∧ Hid (under os dir 33 k = false))) ∧ wr = w2)
      case atStart => exact ⟨.inl ⟨0, k, by omega, by show _ = _; omega, rfl, hk, rfl, rfl⟩, rfl⟩
      case round =>
        obtain ⟨hrel, rfl⟩ := hrel
        rcases hrel with ⟨m, d, hm, hg, rfl, hd, hq⟩ | ⟨rfl, rfl, hq⟩
        · have t0 : ((d : Int) != -1) = true := by simp
          by_cases hdd : (d : Int) = dir
          · have t1 : ((d : Int) == dir) = true := by simpa using hdd
            have HD : Hid ((d : Int) = dir) := hdd
            clear hdd
            go_wp2_with fail
            go_ret
            exact ⟨ret_bool (by rw [underV_yes HS.out HH.out, hq.out.2, show 33 - m = (32 - m) + 1 by omega, under_same os dir (32 - m) (by omega) HD.out]), hb3⟩
          · have t1 : ((d : Int) == dir) = false := by simpa using hdd
            have HD : Hid ((d : Int) ≠ dir) := hdd
            clear hdd
            obtain ⟨o, ka, kn, kc, ho, p0, p1, p2, p3, p4, p5, hks⟩ := hlay d hd
            have g2 := HR2.out.cell (i := d * 6 + 2) (by omega)
            rw [p2] at g2
            dsimp only at g2
            clear ho p0 p1 p2 p3 p4 p5 hks
            have hd0 : (0 : Int) ≤ (d : Int) := by omega
            have hd1 : (d : Int) < 32 := by omega
            have hst : under os dir 33 k = under os dir (32 - m) (homeIn (flat os) d) := by
              rw [hq.out.2, show 33 - m = (32 - m) + 1 by omega, under_step os dir (32 - m) hd0 HD.out]
            by_cases hz : d = 0
            · have HZ : Hid (under os dir 33 k = false) := by
                show _ = _
                rw [hst, hz]
                show under os dir (32 - m) (homeIn (flat os) 0) = false
                rw [homeIn_top HS.out]
                exact under_neg os dir _ (by omega)
              have e0 : homeIn (flat os) (d : Int) = -1 := by rw [hz]; exact homeIn_top HS.out
              rw [e0] at g2
              clear e0 hst hz
              go_wp2_with fail
              go_roundg 0
              case measure => have := hg.out; omega
              case rel => exact ⟨.inr ⟨rfl, rfl, HZ.out⟩, rfl⟩
            · have hm30 : m + 1 ≤ 31 := by
                apply Classical.byContradiction
                intro hn
                have : m = 31 := by omega
                subst this
                have h1 := HOK.out.2.2.2.2 k hk HK.out
                rw [hq.out.1] at h1
                omega
              obtain ⟨d', q1, q2, q3⟩ := climb_in HOK.out.1 HOK.out.2.1 HOK.out.2.2.2.1 hk HK.out (m + 1)
              have hh : homeIn (flat os) d = d' := by
                have h1 := climb_snoc os m k
                rw [hq.out.1, if_pos (by omega), q1] at h1
                exact h1.symm
              rw [hh] at g2 hst
              have Q : Hid (climb os (m + 1) k = d' ∧ under os dir 33 k = under os dir (33 - (m + 1)) d') := ⟨q1, by rw [hst, show 33 - (m + 1) = 32 - m by omega]⟩
              clear hh q1 hst hz
              go_wp2_with fail
              go_roundg (33 - (m + 1))
              case measure => have := hg.out; omega
              case rel => exact ⟨.inl ⟨m + 1, d', by omega, rfl, rfl, q2, Q.out⟩, rfl⟩
        · go_wp2_with fail
          go_ret
          exact ⟨ret_bool (by rw [underV_yes HS.out HH.out, hq.out]), hb3⟩

set_option maxHeartbeats 1000000 in
theorem l1Under_any (a : Option Addr) (n c : Nat) (os : List LObj) (L U : Nat) (id dir : Int) (w : World) (hU : U ≤ w.heap.size) (H : ObjsAt w L U a n os) :
    Calls Tryz.prog 174 #[.agg #[.slice a n c], .int .i64 id, .int .i64 dir] w fun e w' => e = .returned (.bool (under os dir 33 id)) ∧ Below w.heap.size w w' := by
  have hB : ∀ o1, Below w.heap.size w (w.alloc o1) := fun o1 => (Below.refl _ _).alloc (Nat.le_refl _) _
  go_enter Tryz.func174, Tryz.ntmps174
  go_wp2_with fail
  go_loopg [1, 7] 33 (fun g d i wr => ∃ j : Nat, j ≤ 33 ∧ Hid (g = 33 - j) ∧ i = .int .i64 j ∧ (∃ x : Int, d = .int .i64 x ∧ Hid (under os dir 33 id = under os dir (33 - j) x)) ∧ One w wr (.slice a n c))
  case atStart => exact ⟨0, Nat.zero_le _, by show _ = _; omega, rfl, ⟨id, rfl, rfl⟩, hB _, by simp [go_sem], by simp⟩
  case round =>
    obtain ⟨j, hj, hk, rfl, ⟨x, rfl, hq⟩, hO⟩ := hrel
    have hx := hO.c0
    by_cases hlt : j ≤ 32
    · have hlt' : (j : Int) ≤ 32 := by omega
      by_cases hx0 : 0 ≤ x
      · by_cases hxd : x = dir
        · have t1 : (x == dir) = true := by simpa using hxd
          have HD : Hid (x = dir) := hxd
          clear hxd
          go_wp2_with fail
          go_ret
          exact ⟨ret_bool (by rw [hq.out, show 33 - j = (32 - j) + 1 by omega, under_same os dir (32 - j) hx0 HD.out]), hO.below⟩
        · have t1 : (x == dir) = false := by simpa using hxd
          have HD : Hid (x ≠ dir) := hxd
          clear hxd
          go_wp2_with fail
          refine (l1Home_any _ _ _ _ L U _ _ (by have := hO.below.size; omega) (H.below hO.below hU)).mono ?_
          rintro y w1 ⟨rfl, rfl⟩
          go_wp2_with fail
          go_roundg (33 - (j + 1))
          case measure => have := hk.out; omega
          case rel =>
            exact ⟨j + 1, by omega, rfl, by go_num, ⟨_, rfl, by show _ = _; rw [hq.out, show 33 - j = (33 - (j + 1)) + 1 by omega, under_step os dir (33 - (j + 1)) hx0 HD.out]⟩, hO.next ((Below.refl _ _).alloc (Nat.le_refl _) _)⟩
      · go_wp2_with fail
        go_ret
        exact ⟨ret_bool (by rw [hq.out, under_neg os dir (33 - j) (by omega)]), hO.below⟩
    · have hlt' : ¬ (j : Int) ≤ 32 := by omega
      go_wp2_with fail
      go_ret
      have : 33 - j = 0 := by omega
      exact ⟨ret_bool (by rw [hq.out, this]; rfl), hO.below⟩

end Go.Proofs.YtnolbfijcnldjaaGreatDoor

/- What a name names: contracts of the program and of the specification. -/
namespace Go.Proofs.YtnolbfijcnldjaaGreatDoor
open Go.RowKit

set_option maxRecDepth 100000 in
theorem cmpString (a b : ByteArray) (w : World) :
    Calls Tryz.prog 200 #[.string a, .string b] w fun e w' => e = .returned (.int .i64 (Lib.compareBytes a.data.toList b.data.toList)) ∧ w' = w := by
  go_enter Tryz.func200, Tryz.ntmps200
  go_wp2
  rw [run_callFunc_extern Tryz.func205 (by kernel_rfl) (by kernel_rfl) (by kernel_rfl) (e := Extern.BytealgCompare.compare) (by kernel_rfl), Lib.run_compareString]
  simp only [Result.andThen]
  rw [Oper.upon_value]
  go_wp2
  go_ret
  exact ⟨rfl, rfl⟩
theorem compare_any (a b : ByteArray) (w : World) :
    Calls Tryz.prog 181 #[.string a, .string b] w fun e w' => e = .returned (.int .i64 (Lib.compareBytes a.data.toList b.data.toList)) ∧ w' = w := by
  go_enter Tryz.func181, Tryz.ntmps181
  go_wp2_with (go_at_call 200; refine (cmpString _ _ _).mono ?_; rintro e w' ⟨rfl, rfl⟩)
  go_ret
  exact ⟨rfl, rfl⟩
theorem closure_any (s : ByteArray) (i : Int) (b : ByteArray) (w : World) :
    Calls Tryz.prog 180 #[.agg #[.string s, .int .i64 i], .string b] w fun e w' => e = .returned (.int .i64 (Lib.compareBytes s.data.toList b.data.toList)) ∧ w' = w.alloc (.cells #[.string s, .int .i64 i] 53) := by
  go_enter Tryz.func180, Tryz.ntmps180
  go_wp2_with (go_at_call 181; refine (compare_any _ _ _).mono ?_; rintro e w' ⟨rfl, rfl⟩)
  go_ret
  exact ⟨rfl, rfl⟩


theorem cmp_less : ∀ a b : List UInt8, Lib.compareBytes a b < 0 ↔ Op.bytesLess a b = true
  | [], [] => by simp [Lib.compareBytes, Op.bytesLess]
  | [], _ :: _ => by simp [Lib.compareBytes, Op.bytesLess]
  | _ :: _, [] => by simp [Lib.compareBytes, Op.bytesLess]
  | a :: x, b :: y => by
    have ih := cmp_less x y
    simp only [Lib.compareBytes, Op.bytesLess]
    by_cases h1 : a < b
    · simp [h1]
    · by_cases h2 : b < a
      · have h3 : ¬ a = b := by intro h; rw [h] at h2; exact absurd h2 (by rw [UInt8.lt_iff_toNat_lt]; omega)
        simp [h1, h2, h3]
      · have h3 : a = b := by
          rw [UInt8.lt_iff_toNat_lt] at h1 h2
          exact UInt8.toNat_inj.1 (by omega)
        subst h3
        simp [h1, ih]
theorem cmp_zero : ∀ a b : List UInt8, Lib.compareBytes a b = 0 ↔ a = b
  | [], [] => by simp [Lib.compareBytes]
  | [], _ :: _ => by simp [Lib.compareBytes]
  | _ :: _, [] => by simp [Lib.compareBytes]
  | a :: x, b :: y => by
    have ih := cmp_zero x y
    simp only [Lib.compareBytes]
    by_cases h1 : a < b
    · have h3 : ¬ a = b := by intro h; rw [h] at h1; exact absurd h1 (by rw [UInt8.lt_iff_toNat_lt]; omega)
      simp [h1, h3]
    · by_cases h2 : b < a
      · have h3 : ¬ a = b := by intro h; rw [h] at h2; exact absurd h2 (by rw [UInt8.lt_iff_toNat_lt]; omega)
        simp [h1, h2, h3]
      · have h3 : a = b := by
          rw [UInt8.lt_iff_toNat_lt] at h1 h2
          exact UInt8.toNat_inj.1 (by omega)
        subst h3
        simp [h1, ih]
theorem less_trans : ∀ a b c : List UInt8, Op.bytesLess a b = true → Op.bytesLess b c = true → Op.bytesLess a c = true
  | _, [], _, h, _ => by simp [Op.bytesLess] at h
  | _, _ :: _, [], _, h => by simp [Op.bytesLess] at h
  | [], _ :: _, _ :: _, _, _ => rfl
  | a :: x, b :: y, c :: z, h, k => by
    simp only [Op.bytesLess, Bool.or_eq_true, Bool.and_eq_true, decide_eq_true_eq, beq_iff_eq] at h k ⊢
    rcases h with h | ⟨rfl, h⟩
    · rcases k with k | ⟨rfl, k⟩
      · left; rw [UInt8.lt_iff_toNat_lt] at *; omega
      · exact .inl h
    · rcases k with k | ⟨rfl, k⟩
      · exact .inl k
      · exact .inr ⟨rfl, less_trans x y z h k⟩

def nm (e : LEnt) : List UInt8 := e.name.data.toList
/-- The names ascend. -/
def Asc (es : List LEnt) : Prop := ∀ (i j : Nat) x y, i < j → es[i]? = some x → es[j]? = some y → Op.bytesLess (nm x) (nm y) = true
theorem asc_of {es : List LEnt} (h : kidsB es = true) : Asc es := by
  have hk : ∀ i, i < es.length → kidAt es i = true := by
    intro i hi
    unfold kidsB at h
    rw [List.all_eq_true] at h
    exact h i (by simpa using hi)
  have hs : ∀ (i : Nat) x y, es[i]? = some x → es[i + 1]? = some y → Op.bytesLess (nm x) (nm y) = true := by
    intro i x y hx hy
    have h1 := hk (i + 1) (List.getElem?_eq_some_iff.1 hy).1
    have h2 : entB y = true := by
      apply Classical.byContradiction
      intro hc
      rw [kidAt_ent hy (by simpa using hc)] at h1
      cases h1
    rw [kidAt_succ hy hx h2] at h1
    unfold nameLess at h1
    rwa [ByteArray.toList_eq, ByteArray.toList_eq] at h1
  intro i j
  induction j with
  | zero => intro x y h; omega
  | succ j ih =>
    intro x y hij hx hy
    by_cases e : i = j
    · subst e
      exact hs i x y hx hy
    · have hj : j < es.length := by have := (List.getElem?_eq_some_iff.1 hy).1; omega
      obtain ⟨z, hz⟩ : ∃ z, es[j]? = some z := ⟨es[j], List.getElem?_eq_getElem hj⟩
      exact less_trans _ _ _ (ih x z (by omega) hx hz) (hs j z y hz hy)
def findV (es : List LEnt) (name : ByteArray) : Int := match es.find? (fun e => sEq e.name name) with | some e => e.id | none => -1
theorem findV_at {es : List LEnt} {k : Nat} {e : LEnt} {name : ByteArray} (he : es[k]? = some e) (h : ∀ i, i < k → ∀ x, es[i]? = some x → x.name ≠ name) (hi : e.name = name) : findV es name = e.id := by
  unfold findV
  have hk : k < es.length := (List.getElem?_eq_some_iff.1 he).1
  have e1 : es = es.take k ++ e :: es.drop (k + 1) := by
    have : es[k] = e := (List.getElem?_eq_some_iff.1 he).2
    rw [← this, ← List.drop_eq_getElem_cons hk, List.take_append_drop]
  have e2 : (es.take k).find? (fun e => sEq e.name name) = none := by
    rw [List.find?_eq_none]
    intro x hx
    obtain ⟨i, hi'⟩ := List.getElem?_of_mem hx
    have hlt : i < k := by have := (List.getElem?_eq_some_iff.1 hi').1; simp at this; omega
    rw [List.getElem?_take_of_lt hlt] at hi'
    exact fun hc => h i hlt x hi' ((sEq_iff _ _).1 hc)
  conv => lhs; rw [e1]
  rw [List.find?_append, e2]
  simp [(sEq_iff _ _).2 hi]
theorem findV_none {es : List LEnt} {name : ByteArray} (h : ∀ (i : Nat) x, es[i]? = some x → x.name ≠ name) : findV es name = -1 := by
  unfold findV
  have : es.find? (fun e => sEq e.name name) = none := by
    rw [List.find?_eq_none]
    intro x hx
    obtain ⟨i, hi⟩ := List.getElem?_of_mem hx
    exact fun hc => h i x hi ((sEq_iff _ _).1 hc)
  rw [this]
theorem nm_inj {e : LEnt} {name : ByteArray} (h : nm e = name.data.toList) : e.name = name := by
  refine (sEq_iff _ _).1 ?_
  unfold sEq
  rw [ByteArray.toList_eq, ByteArray.toList_eq]
  unfold nm at h
  simp [h]
def Low (es : List LEnt) (name : ByteArray) (x : Nat) : Prop := ∀ i, i < x → ∀ e, es[i]? = some e → Lib.compareBytes (nm e) name.data.toList < 0
def High (es : List LEnt) (name : ByteArray) (y : Nat) : Prop := ∀ i, y ≤ i → ∀ e, es[i]? = some e → ¬ Lib.compareBytes (nm e) name.data.toList < 0
theorem low_up {es : List LEnt} (ha : Asc es) {name : ByteArray} {h : Nat} {e : LEnt} (he : es[h]? = some e) (hc : Lib.compareBytes (nm e) name.data.toList < 0) : Low es name (h + 1) := by
  intro i hi x hx
  by_cases e' : i = h
  · subst e'; rw [he] at hx; cases hx; exact hc
  · rw [cmp_less] at hc ⊢
    exact less_trans _ _ _ (ha i h x e (by omega) hx he) hc
theorem high_down {es : List LEnt} (ha : Asc es) {name : ByteArray} {h : Nat} {e : LEnt} (he : es[h]? = some e) (hc : ¬ Lib.compareBytes (nm e) name.data.toList < 0) : High es name h := by
  intro i hi x hx
  by_cases e' : i = h
  · subst e'; rw [he] at hx; cases hx; exact hc
  · intro hx'
    apply hc
    rw [cmp_less] at hx' ⊢
    exact less_trans _ _ _ (ha h i e x (by omega) he hx) hx'
theorem low_ne {es : List LEnt} {name : ByteArray} {x : Nat} (h : Low es name x) : ∀ i, i < x → ∀ e, es[i]? = some e → e.name ≠ name := by
  intro i hi e he hn
  have := h i hi e he
  rw [show nm e = name.data.toList by unfold nm; rw [hn], (cmp_zero _ _).2 rfl] at this
  omega
theorem search_hit {es : List LEnt} {name : ByteArray} {x : Nat} {e : LEnt} (hl : Low es name x) (he : es[x]? = some e) (hc : Lib.compareBytes (nm e) name.data.toList = 0) : findV es name = e.id :=
  findV_at he (low_ne hl) (nm_inj ((cmp_zero _ _).1 hc))
theorem search_miss {es : List LEnt} (ha : Asc es) {name : ByteArray} {x : Nat} {e : LEnt} (hl : Low es name x) (hh : High es name x) (he : es[x]? = some e) (hc : Lib.compareBytes (nm e) name.data.toList ≠ 0) : findV es name = -1 := by
  refine findV_none fun i y hy hn => ?_
  by_cases h1 : i < x
  · exact low_ne hl i h1 y hy hn
  · have hz : nm y = name.data.toList := by unfold nm; rw [hn]
    by_cases h2 : i = x
    · subst h2; rw [he] at hy; cases hy
      exact hc ((cmp_zero _ _).2 hz)
    · have h3 := ha x i e y (by omega) he hy
      rw [hz, ← cmp_less] at h3
      exact hh x (Nat.le_refl _) e he h3
theorem search_end {es : List LEnt} {name : ByteArray} (hl : Low es name es.length) : findV es name = -1 :=
  findV_none fun i y hy => low_ne hl i (List.getElem?_eq_some_iff.1 hy).1 y hy

/-- How a search ends: found, and where; or not. -/
def SearchEnd (es : List LEnt) (name : ByteArray) (e : Ending) : Prop := ∃ (x : Nat) (b : Bool), e = .returned (.tuple #[.int .i64 x, .bool b]) ∧ ((b = true ∧ ∃ k, es[x]? = some k ∧ findV es name = k.id) ∨ (b = false ∧ findV es name = -1))

set_option maxHeartbeats 1000000 in
set_option maxRecDepth 100000 in
theorem search_any (a : Option Addr) (n c : Nat) (es : List LEnt) (L U : Nat) (name : ByteArray) (w : World) (hn : n ≤ 1048576) (ha : Asc es) (hU : U ≤ w.heap.size) (H : EntsAt w L U a n es) :
    Calls Tryz.prog 179 #[.slice a n c, .string name, .func (.func 180) #[] #[]] w fun e w' => SearchEnd es name e ∧ Below w.heap.size w w' := by
  have HL : Hid (n = es.length) := H.len
  go_enter Tryz.func179, Tryz.ntmps179
  go_wp2_with fail
  go_loopg [9, 10] (n + 1) (fun g i j wr => ∃ x y : Nat, x ≤ y ∧ y ≤ n ∧ Hid (g = y - x + 1) ∧ i = .int .i64 x ∧ j = .int .i64 y ∧ Hid (Low es name x ∧ High es name y) ∧ Below w.heap.size w wr)
  case atStart => exact ⟨0, n, by omega, by omega, by show _ = _; omega, rfl, rfl, ⟨fun i hi => by omega, fun i hi e he => by have := (List.getElem?_eq_some_iff.1 he).1; have := HL.out; omega⟩, Below.refl _ _⟩
  case round =>
    obtain ⟨x, y, hxy, hy, hg, rfl, rfl, hq, hb⟩ := hrel
    by_cases hlt : x < y
    · have hlt' : (x : Int) < (y : Int) := by omega
      obtain ⟨h, hh⟩ : ∃ h : Nat, ((x : Int) + (y : Int)) / 2 = (h : Int) := ⟨(x + y) / 2, by omega⟩
      have hh1 : x ≤ h := by omega
      have hh2 : h < y := by omega
      obtain ⟨b, off, ha', hL, hbU, hc⟩ := H.at_ (by omega)
      subst ha'
      obtain ⟨e, he, hsz, hc0, hc1⟩ := hc h (by omega)
      rw [← hb.cell (by simp; omega)] at hc0 hc1
      have HE : Hid (es[h]? = some e) := he
      clear he hc
      have hhn : (h : Int) < (n : Int) := by omega
      have hh0 : (0 : Int) ≤ (h : Int) := by omega
      go_wp2_with fail
      refine (closure_any _ _ _ _).mono ?_
      rintro z w1 ⟨rfl, rfl⟩
      have hb1 : ∀ o, Below w.heap.size w (wr.alloc o) := fun o => hb.alloc hb.size _
      by_cases hcm : Lib.compareBytes e.name.data.toList name.data.toList < 0
      · have HC : Hid (Lib.compareBytes (nm e) name.data.toList < 0) := hcm
        go_wp2_with fail
        go_roundg (y - (h + 1) + 1)
        case measure => have := hg.out; omega
        case rel => exact ⟨h + 1, y, by omega, by omega, rfl, by go_num, rfl, ⟨low_up ha HE.out HC.out, hq.out.2⟩, hb1 _⟩
      · have HC : Hid (¬ Lib.compareBytes (nm e) name.data.toList < 0) := hcm
        go_wp2_with fail
        go_roundg (h - x + 1)
        case measure => have := hg.out; omega
        case rel => exact ⟨x, h, by omega, by omega, rfl, rfl, rfl, ⟨hq.out.1, high_down ha HE.out (by have := HC.out; omega)⟩, hb1 _⟩
    · have hxy' : x = y := by omega
      subst hxy'
      by_cases hxn : x < n
      · obtain ⟨b, off, ha', hL, hbU, hc⟩ := H.at_ (by omega)
        subst ha'
        obtain ⟨e, he, hsz, hc0, hc1⟩ := hc x hxn
        rw [← hb.cell (by simp; omega)] at hc0 hc1
        have HE : Hid (es[x]? = some e) := he
        clear he hc
        have hxn' : (x : Int) < (n : Int) := by omega
        have hx0 : (0 : Int) ≤ (x : Int) := by omega
        have hb1 : ∀ o, Below w.heap.size w (wr.alloc o) := fun o => hb.alloc hb.size _
        go_wp2_with fail
        refine (closure_any _ _ _ _).mono ?_
        rintro z w1 ⟨rfl, rfl⟩
        by_cases hcm : Lib.compareBytes e.name.data.toList name.data.toList = 0
        · have HC : Hid (Lib.compareBytes (nm e) name.data.toList = 0) := hcm
          have t1 : (Lib.compareBytes e.name.data.toList name.data.toList == 0) = true := by simpa using hcm
          clear hcm
          go_wp2_with fail
          go_ret2
          exact ⟨⟨x, true, rfl, .inl ⟨rfl, e, HE.out, search_hit hq.out.1 HE.out HC.out⟩⟩, hb1 _⟩
        · have HC : Hid (Lib.compareBytes (nm e) name.data.toList ≠ 0) := hcm
          have t1 : (Lib.compareBytes e.name.data.toList name.data.toList == 0) = false := by simpa using hcm
          clear hcm
          go_wp2_with fail
          go_ret2
          exact ⟨⟨x, false, rfl, .inr ⟨rfl, search_miss ha hq.out.1 hq.out.2 HE.out HC.out⟩⟩, hb1 _⟩
      · have hxn' : ¬ (x : Int) < (n : Int) := by omega
        have HN : Hid (findV es name = -1) := by
          show _ = _
          refine search_end ?_
          have : es.length = x := by have := HL.out; omega
          rw [this]
          exact hq.out.1
        go_wp2_with fail
        go_ret2
        exact ⟨⟨x, false, rfl, .inr ⟨rfl, HN.out⟩⟩, hb⟩

set_option maxHeartbeats 400000 in
theorem place_any (a : Option Addr) (n c : Nat) (es : List LEnt) (L U : Nat) (name : ByteArray) (w : World) (hn : n ≤ 1048576) (ha : Asc es) (hU : U ≤ w.heap.size) (H : EntsAt w L U a n es) :
    Calls Tryz.prog 137 #[.slice a n c, .string name] w fun e w' => SearchEnd es name e ∧ Below w.heap.size w w' := by
  go_enter Tryz.func137, Tryz.ntmps137
  go_wp2_with fail
  refine (search_any _ _ _ _ L U _ _ hn ha hU H).mono ?_
  rintro z w1 ⟨⟨x, b, rfl, hr⟩, hb⟩
  have HR : Hid ((b = true ∧ ∃ k, es[x]? = some k ∧ findV es name = k.id) ∨ (b = false ∧ findV es name = -1)) := hr
  clear hr
  go_wp2_with fail
  go_ret2
  exact ⟨⟨x, b, rfl, HR.out⟩, hb⟩

set_option maxHeartbeats 400000 in
theorem findKid_any (a : Option Addr) (n c : Nat) (es : List LEnt) (L U : Nat) (name : ByteArray) (w : World) (hn : n ≤ 1048576) (ha : Asc es) (hU : U ≤ w.heap.size) (H : EntsAt w L U a n es) :
    Calls Tryz.prog 81 #[.slice a n c, .string name] w fun e w' => e = .returned (.int .i64 (findV es name)) ∧ Below w.heap.size w w' := by
  go_enter Tryz.func81, Tryz.ntmps81
  go_wp2_with fail
  refine (place_any _ _ _ _ L U _ _ hn ha hU H).mono ?_
  rintro z w1 ⟨⟨x, b, rfl, hr⟩, hb⟩
  rcases hr with ⟨rfl, k, hk, hv⟩ | ⟨rfl, hv⟩
  · have hx : x < n := by rw [H.len]; exact (List.getElem?_eq_some_iff.1 hk).1
    obtain ⟨b, off, ha', hL, hbU, hc⟩ := H.at_ (by omega)
    subst ha'
    obtain ⟨e, he, hsz, hc0, hc1⟩ := hc x hx
    rw [hk] at he
    cases he
    rw [← hb.cell (by simp; omega)] at hc1
    have HV : Hid (findV es name = k.id) := hv
    clear hv hk hc hc0
    have hx0 : (0 : Int) ≤ (x : Int) := by omega
    have hx1 : (x : Int) < (n : Int) := by omega
    go_wp2_with fail
    go_ret
    exact ⟨ret_int HV.out.symm, hb⟩
  · have HV : Hid (findV es name = -1) := hv
    clear hv
    go_wp2_with fail
    go_ret
    exact ⟨ret_int HV.out.symm, hb⟩

set_option maxHeartbeats 400000 in
theorem l1Find_any (a : Option Addr) (n c : Nat) (es : List LEnt) (L U : Nat) (name : ByteArray) (w : World) (H : EntsAt w L U a n es) :
    Calls Tryz.prog 171 #[.slice a n c, .string name] w fun e w' => e = .returned (.int .i64 (findV es name)) ∧ w' = w := by
  have hbd := H.bd
  unfold maxLen at hbd
  go_enter Tryz.func171, Tryz.ntmps171
  go_wp2_with fail
  go_loopg [5] n (fun g i wr => ∃ j : Nat, j ≤ n ∧ Hid (g = n - j) ∧ i = .int .i64 j ∧ Hid (∀ i, i < j → ∀ x, es[i]? = some x → x.name ≠ name) ∧ wr = w)
  case atStart => exact ⟨0, Nat.zero_le _, by show _ = _; omega, rfl, fun i hi => by omega, rfl⟩
  case round =>
    obtain ⟨j, hj, hk, rfl, hq, rfl⟩ := hrel
    by_cases hlt : j < n
    · obtain ⟨b, off, ha, hL, hbU, hc⟩ := H.at_ (by omega)
      subst ha
      obtain ⟨e, he, hsz, hc0, hc1⟩ := hc j hlt
      have HE : Hid (es[j]? = some e) := he
      clear he hc
      cases hid : sEq e.name name
      · have t1 : (e.name.toList == name.toList) = false := hid
        have HI : Hid (e.name ≠ name) := fun hc => by rw [(sEq_iff _ _).2 hc] at hid; cases hid
        clear hid
        go_wp2_with fail
        go_roundg (n - (j + 1))
        case measure => have := hk.out; omega
        case rel =>
          refine ⟨j + 1, by omega, rfl, by go_num, fun i hi x hx => ?_, rfl⟩
          by_cases ee : i = j
          · subst ee
            rw [HE.out] at hx
            cases hx
            exact HI.out
          · exact hq.out i (by omega) x hx
      · have t1 : (e.name.toList == name.toList) = true := hid
        have HI : Hid (e.name = name) := (sEq_iff _ _).1 hid
        clear hid
        go_wp2_with fail
        go_ret
        exact ⟨ret_int (findV_at HE.out hq.out HI.out).symm, rfl⟩
    · go_wp2_with fail
      go_ret
      exact ⟨ret_int (findV_none (fun i x hx => hq.out i (by have := (List.getElem?_eq_some_iff.1 hx).1; have := H.len; omega) x hx)).symm, rfl⟩

def kidsOf (os : List LObj) (i : Nat) : List LEnt := match os[i]? with | some o => o.kids | none => []
theorem kidsOf_at {t : List LObj} {i : Nat} {o : LObj} (h : t[i]? = some o) : kidsOf t i = o.kids := by unfold kidsOf; rw [h]
def treeFindV (os : List LObj) (dir : Int) (name : ByteArray) : Int := if specOk os = true ∧ 0 ≤ dir ∧ dir < 32 then findV (kidsOf os dir.toNat) name else -1
theorem tf_no {os : List LObj} (h : specOk os = false) (dir : Int) (name : ByteArray) : treeFindV os dir name = -1 := by simp [treeFindV, h]
theorem tf_out {os : List LObj} {dir : Int} (h : ¬ (0 ≤ dir ∧ dir < 32)) (name : ByteArray) : treeFindV os dir name = -1 := by
  unfold treeFindV
  rw [if_neg (fun hc => h hc.2)]
theorem tf_yes {os : List LObj} (h : specOk os = true) {k : Nat} (hk : k < 32) {o : LObj} (ho : os[k]? = some o) (name : ByteArray) : treeFindV os k name = findV o.kids name := by
  unfold treeFindV
  rw [if_pos ⟨h, by omega, by omega⟩, Int.toNat_natCast, kidsOf_at ho]
theorem kids_none {o : LObj} (h : objB o = true) (hk : o.kind = 0) : o.kids = [] := by
  unfold objB at h
  rw [Bool.and_eq_true] at h
  have h2 := h.2
  unfold partsB at h2
  rw [if_pos hk, Bool.and_eq_true] at h2
  have h3 := h2.2
  unfold nil? at h3
  exact List.length_eq_zero_iff.1 (by simpa using h3)
theorem asc_ok {o : LObj} (h : objB o = true) : Asc o.kids := by
  by_cases hk : kidsB o.kids = true
  · exact asc_of hk
  · unfold objB at h
    rw [Bool.and_eq_true] at h
    have h2 := h.2
    have hn : o.kids = [] := by
      unfold partsB at h2
      split at h2
      · rw [Bool.and_eq_true] at h2
        exact List.length_eq_zero_iff.1 (by simpa [nil?] using h2.2)
      · split at h2
        · rw [Bool.and_eq_true] at h2
          exact List.length_eq_zero_iff.1 (by simpa [nil?] using h2.2)
        · split at h2
          · rw [Bool.and_eq_true] at h2
            exact absurd h2.2 hk
          · cases h2
    rw [hn]
    intro i j x y _ hx
    simp at hx

set_option maxHeartbeats 400000 in
theorem implFind (a : Option Addr) (n c : Nat) (os : List LObj) (L U : Nat) (dir : Int) (name : ByteArray) (w : World) (_hname : name.size ≤ maxLen) (hS : Sizes os 1048576) (hU : U ≤ w.heap.size) (H : ObjsAt w L U a n os) :
    Calls Tryz.prog 26 #[.agg #[.slice a n c], .int .i64 dir, .string name] w fun e w' => e = .returned (.int .i64 (treeFindV os dir name)) ∧ Below w.heap.size w w' := by
  have hB : ∀ o1, Below w.heap.size w (w.alloc o1) := fun o1 => (Below.refl _ _).alloc (Nat.le_refl _) _
  go_enter Tryz.func26, Tryz.ntmps26
  go_wp2_with fail
  refine (layOut_any _ _ _ _ L U _ (by simp; omega) (H.below (hB _) hU)).mono ?_
  rintro x w1 ⟨hl, hb⟩
  have hb1 : Below w.heap.size w w1 := (hB _).trans (hb.mono (by simp))
  rcases hl with ⟨rfl, hs⟩ | ⟨lb, f, rfl, hs, _, hrow, hlay⟩
  · have HS : Hid (specOk os = false) := hs
    clear hs
    go_wp2_with fail
    go_ret
    exact ⟨ret_int (tf_no HS.out dir name).symm, hb1⟩
  · have HS : Hid (specOk os = true) := hs
    have HR : Hid (w1.rowIs lb 150 192 f) := hrow
    have HOK : Hid (ImplOk os) := (specOk_iff os).1 hs
    clear hs hrow
    go_wp2_with fail
    refine (has_any lb os L U f dir _ _ _ _ HR.out hlay).mono ?_
    rintro x w2 ⟨rfl, hb2⟩
    have hb3 : Below w.heap.size w w2 := hb1.trans (hb2.mono hb1.size)
    cases hh : hasB os dir
    · have HV : Hid (treeFindV os dir name = -1) := by
        show _ = _
        by_cases hr : 0 ≤ dir ∧ dir < 32
        · obtain ⟨k, rfl⟩ := Int.eq_ofNat_of_zero_le hr.1
          have hk : k < 32 := by omega
          obtain ⟨o, _, _, _, ho, _⟩ := hlay k hk
          rw [tf_yes HS.out hk ho]
          have hkd : o.kind = 0 := by
            simp [hasB, kindOf_at ho] at hh
            apply Classical.byContradiction
            intro hc
            exact hc (by
              apply Classical.byContradiction
              intro hc2
              simp [hc2] at hh
              omega)
          rw [kids_none (HOK.out.2.1 k o ho) hkd]
          rfl
        · exact tf_out hr name
      clear hh
      go_wp2_with fail
      go_ret
      exact ⟨ret_int HV.out.symm, hb3⟩
    · obtain ⟨k, rfl, hk⟩ : ∃ k : Nat, dir = k ∧ k < 32 := by
        simp [hasB] at hh
        exact ⟨dir.toNat, by omega, by omega⟩
      have hr2 := HR.out.of_block (hb2.block _ HR.out.lt)
      obtain ⟨o, ka, kn, kc, ho, p0, p1, p2, p3, p4, p5, hks⟩ := hlay k hk
      have g5 := hr2.cell (i := k * 6 + 5) (by omega)
      rw [p5] at g5
      have HT : Hid (treeFindV os k name = findV o.kids name) := tf_yes HS.out hk ho name
      have hasc := asc_ok (HOK.out.2.1 k o ho)
      have hkn : kn ≤ 1048576 := by rw [hks.len]; exact hS o (List.mem_of_getElem? ho)
      clear hr2 ho p0 p1 p2 p3 p4 p5 hlay hh
      have hk0 : (0 : Int) ≤ (k : Int) := by omega
      have hk1 : (k : Int) < 32 := by omega
      have hsz : U ≤ w2.heap.size := by have := hb3.size; omega
      have hks2 : EntsAt w2 L U ka kn o.kids := by
        have h1 : EntsAt w1 L U ka kn o.kids := hks.below hb (by simp; omega)
        exact h1.below hb2 (by have := hb1.size; omega)
      go_wp2_with fail
      refine (findKid_any _ _ _ _ L U _ _ hkn hasc hsz hks2).mono ?_
      rintro x w4 ⟨rfl, hb4⟩
      go_wp2_with fail
      go_ret
      exact ⟨ret_int HT.out.symm, hb3.trans (hb4.mono hb3.size)⟩
end Go.Proofs.YtnolbfijcnldjaaGreatDoor
