import Derived.Test.YtnfegihemhidgaaObj
import Derived.BigRegion
/- All names of all directories as one list; where something is at home, and the way up: contracts of the specification. -/
namespace Go.Proofs.Ytnfegihemhidgaa
open Go.RowKit

def tagged (d : Nat) (es : List LEnt) : List (Nat × LEnt) := es.map (fun e => (d, e))
def flatFrom : Nat → List LObj → List (Nat × LEnt)
  | _, [] => []
  | d, o :: l => tagged d o.kids ++ flatFrom (d + 1) l
/-- All names of all directories, in order. -/
def flat (t : List LObj) : List (Nat × LEnt) := flatFrom 0 t
theorem flatFrom_append (d : Nat) (l m : List LObj) : flatFrom d (l ++ m) = flatFrom d l ++ flatFrom (d + l.length) m := by
  induction l generalizing d with
  | nil => simp [flatFrom]
  | cons x l ih => simp [flatFrom, ih, Nat.add_assoc, Nat.add_comm 1]
theorem flat_take {t : List LObj} {i : Nat} {o : LObj} (h : t[i]? = some o) : flat (t.take (i + 1)) = flat (t.take i) ++ tagged i o.kids := by
  have hi : i < t.length := (List.getElem?_eq_some_iff.1 h).1
  have ho : t[i] = o := (List.getElem?_eq_some_iff.1 h).2
  rw [List.take_succ_eq_append_getElem hi, ho]
  unfold flat
  rw [flatFrom_append]
  simp [flatFrom, Nat.min_eq_left (Nat.le_of_lt hi)]
theorem flat_split {t : List LObj} {i : Nat} {o : LObj} (h : t[i]? = some o) : ∃ r, flat t = flat (t.take i) ++ tagged i o.kids ++ r := by
  have e : t = t.take (i + 1) ++ t.drop (i + 1) := (List.take_append_drop _ _).symm
  refine ⟨flatFrom (0 + (t.take (i + 1)).length) (t.drop (i + 1)), ?_⟩
  rw [← flat_take h]
  conv => lhs; rw [e]
  exact flatFrom_append 0 _ _
theorem tagged_split {es : List LEnt} {d k : Nat} {e : LEnt} (h : es[k]? = some e) : ∃ r, tagged d es = tagged d (es.take k) ++ (d, e) :: r := by
  have hk : k < es.length := (List.getElem?_eq_some_iff.1 h).1
  have he : es[k] = e := (List.getElem?_eq_some_iff.1 h).2
  refine ⟨tagged d (es.drop (k + 1)), ?_⟩
  unfold tagged
  rw [← he, ← List.map_cons (f := fun e => (d, e)), ← List.map_append, ← List.drop_eq_getElem_cons hk, List.take_append_drop]
theorem tagged_take {es : List LEnt} {d k : Nat} {e : LEnt} (h : es[k]? = some e) : tagged d (es.take (k + 1)) = tagged d (es.take k) ++ [(d, e)] := by
  have hk : k < es.length := (List.getElem?_eq_some_iff.1 h).1
  have he : es[k] = e := (List.getElem?_eq_some_iff.1 h).2
  unfold tagged
  rw [List.take_succ_eq_append_getElem hk, he]; simp

def homeIn (p : List (Nat × LEnt)) (id : Int) : Int := match p.find? (fun x => x.2.id == id) with | some x => x.1 | none => -1
def nameIn (p : List (Nat × LEnt)) (id : Int) : ByteArray := match p.find? (fun x => x.2.id == id) with | some x => x.2.name | none => ⟨#[]⟩
/-- No name of the list is of this number. -/
def Off (p : List (Nat × LEnt)) (id : Int) : Prop := ∀ x ∈ p, x.2.id ≠ id
theorem off_nil (id : Int) : Off [] id := fun x hx => by simp at hx
theorem off_append {p q : List (Nat × LEnt)} {id : Int} : Off (p ++ q) id ↔ Off p id ∧ Off q id := by
  unfold Off
  constructor
  · exact fun h => ⟨fun x hx => h x (List.mem_append_left _ hx), fun x hx => h x (List.mem_append_right _ hx)⟩
  · rintro ⟨h, k⟩ x hx
    rcases List.mem_append.1 hx with hx | hx
    · exact h x hx
    · exact k x hx
theorem off_one {x : Nat × LEnt} {id : Int} : Off [x] id ↔ x.2.id ≠ id := by simp [Off]
theorem find_off {p : List (Nat × LEnt)} {id : Int} (h : Off p id) : p.find? (fun x => x.2.id == id) = none := by
  rw [List.find?_eq_none]
  intro x hx
  simpa using h x hx
theorem homeIn_off {p : List (Nat × LEnt)} {id : Int} (h : Off p id) : homeIn p id = -1 := by unfold homeIn; rw [find_off h]
theorem homeIn_at {p : List (Nat × LEnt)} {x : Nat × LEnt} {r : List (Nat × LEnt)} {id : Int} (h : Off p id) (hx : x.2.id = id) : homeIn (p ++ x :: r) id = x.1 := by
  unfold homeIn
  rw [List.find?_append, find_off h]
  simp [hx]
theorem homeIn_flat {t : List LObj} {i k : Nat} {o : LObj} {e : LEnt} {id : Int} (ho : t[i]? = some o) (he : o.kids[k]? = some e) (h1 : Off (flat (t.take i)) id) (h2 : Off (tagged i (o.kids.take k)) id) (h : e.id = id) : homeIn (flat t) id = i := by
  obtain ⟨r, hr⟩ := flat_split ho
  obtain ⟨r', hr'⟩ := tagged_split (d := i) he
  rw [hr, hr', List.append_assoc, List.append_assoc, ← List.append_assoc (flat (t.take i)), List.cons_append]
  exact homeIn_at (off_append.2 ⟨h1, h2⟩) h
theorem off_next {es : List LEnt} {d k : Nat} {e : LEnt} {id : Int} (he : es[k]? = some e) (h : Off (tagged d (es.take k)) id) (hn : e.id ≠ id) : Off (tagged d (es.take (k + 1))) id := by
  rw [tagged_take he]
  exact off_append.2 ⟨h, off_one.2 hn⟩
theorem off_dir {t : List LObj} {i : Nat} {o : LObj} {id : Int} (ho : t[i]? = some o) (h1 : Off (flat (t.take i)) id) (h2 : Off (tagged i o.kids) id) : Off (flat (t.take (i + 1))) id := by
  rw [flat_take ho]
  exact off_append.2 ⟨h1, h2⟩

theorem ret_int {k : IntKind} {a b : Int} (h : a = b) : Ending.returned (.int k a) = .returned (.int k b) := by rw [h]

set_option maxHeartbeats 1000000 in
theorem l1Home_any (a : Option Addr) (n c : Nat) (os : List LObj) (L U : Nat) (id : Int) (w : World) (hU : U ≤ w.heap.size) (H : ObjsAt w L U a n os) :
    Calls Try.prog 61 #[.agg #[.slice a n c], .int .i64 id] w fun e w' => e = .returned (.int .i64 (homeIn (flat os) id)) ∧ w' = w.alloc (.cells #[.slice a n c] 39) := by
  have hbd := H.bd
  unfold maxLen at hbd
  have hB : Below w.heap.size w (w.alloc (.cells #[.slice a n c] 39)) := (Below.refl _ _).alloc (Nat.le_refl _) _
  go_enter Try.func61, Try.ntmps61
  go_wp2
  go_loopg [5] n (fun g i wr => ∃ j : Nat, j ≤ n ∧ Hid (g = n - j) ∧ i = .int .i64 j ∧ Hid (Off (flat (os.take j)) id) ∧ wr = w.alloc (.cells #[.slice a n c] 39))
  case atStart => exact ⟨0, Nat.zero_le _, by show _ = _; omega, rfl, off_nil id, rfl⟩
  case round =>
    obtain ⟨j, hj, hk, rfl, hq, rfl⟩ := hrel
    by_cases hlt : j < n
    · obtain ⟨b, off, ha, hL, hbU, hc⟩ := H.at_ (by omega)
      subst ha
      obtain ⟨o, ka, kn, kc, ho, hsz, hc0, hc1, hc2, hc3, hks⟩ := hc j hlt
      have HO : Hid (os[j]? = some o) := ho
      clear ho hc hc0 hc1 hc2
      have hbl : b < w.heap.size := by omega
      have hkb := hks.bd
      unfold maxLen at hkb
      have HKL : Hid (kn = o.kids.length) := hks.len
      go_wp2_with fail
      go_loopg [6] kn (fun g i wr => ∃ m : Nat, m ≤ kn ∧ Hid (g = kn - m) ∧ i = .int .i64 m ∧ Hid (Off (tagged j (o.kids.take m)) id) ∧ wr = w.alloc (.cells #[.slice (some ⟨b, off, none⟩) n c] 39))
      case atStart => exact ⟨0, Nat.zero_le _, by show _ = _; omega, rfl, off_nil id, rfl⟩
      case round =>
        obtain ⟨m, hm, hk2, rfl, hq2, rfl⟩ := hrel
        by_cases hlt2 : m < kn
        · obtain ⟨b2, off2, ha2, hL2, hbU2, hd⟩ := hks.at_ (by omega)
          subst ha2
          obtain ⟨e, he, hez, hd0, hd1⟩ := hd m hlt2
          have HE : Hid (o.kids[m]? = some e) := he
          clear he hd hd0
          have hbl2 : b2 < w.heap.size := by omega
          by_cases hid : e.id = id
          · have t1 : (e.id == id) = true := by simpa using hid
            have HI : Hid (e.id = id) := hid
            clear hid
            go_wp2_with fail
            go_ret
            exact ⟨ret_int (homeIn_flat HO.out HE.out hq.out hq2.out HI.out).symm, rfl⟩
          · have t1 : (e.id == id) = false := by simpa using hid
            have HI : Hid (e.id ≠ id) := hid
            clear hid
            go_wp2_with fail
            go_roundg (kn - (m + 1))
            case measure => have := hk2.out; omega
            case rel => exact ⟨m + 1, by omega, rfl, by go_num, off_next HE.out hq2.out HI.out, rfl⟩
        · go_wp2_with fail
          go_roundg (n - (j + 1))
          case measure => have := hk.out; omega
          case rel =>
            have h2 := hq2.out
            rw [List.take_of_length_le (by have := HKL.out; omega)] at h2
            exact ⟨j + 1, by omega, rfl, by go_num, off_dir HO.out hq.out h2, rfl⟩
    · go_wp2_with fail
      go_ret
      have h2 := hq.out
      rw [List.take_of_length_le (by have := H.len; omega)] at h2
      exact ⟨ret_int (homeIn_off h2).symm, rfl⟩

/-- So many steps up from an object, as long as it is above 0. -/
def climb (t : List LObj) : Nat → Int → Int
  | 0, id => id
  | k + 1, id => if 0 < id then climb t k (homeIn (flat t) id) else id
theorem climb_stop (t : List LObj) (k : Nat) {id : Int} (h : ¬ 0 < id) : climb t k id = id := by
  cases k with
  | zero => rfl
  | succ k => unfold climb; rw [if_neg h]
theorem climb_step (t : List LObj) (k : Nat) {id : Int} (h : 0 < id) : climb t (k + 1) id = climb t k (homeIn (flat t) id) := by
  rw [climb, if_pos h]
def topB (t : List LObj) (id : Int) : Bool := climb t 32 id == 0

set_option maxHeartbeats 1000000 in
theorem l1Top_any (a : Option Addr) (n c : Nat) (os : List LObj) (L U : Nat) (id : Int) (w : World) (hU : U ≤ w.heap.size) (H : ObjsAt w L U a n os) :
    Calls Try.prog 35 #[.agg #[.slice a n c], .int .i64 id] w fun e w' => e = .returned (.bool (topB os id)) ∧ Below w.heap.size w w' := by
  have hB : ∀ o1, Below w.heap.size w (w.alloc o1) := fun o1 => (Below.refl _ _).alloc (Nat.le_refl _) _
  go_enter Try.func35, Try.ntmps35
  go_wp2
  go_loopg [1, 5] 32 (fun g d i wr => ∃ j : Nat, j ≤ 32 ∧ Hid (g = 32 - j) ∧ i = .int .i64 j ∧ (∃ x : Int, d = .int .i64 x ∧ Hid (climb os 32 id = climb os (32 - j) x)) ∧ wr.cell? ⟨w.heap.size, 0, none⟩ = some (.slice a n c) ∧ w.heap.size < wr.heap.size ∧ Below w.heap.size w wr)
  case atStart => exact ⟨0, Nat.zero_le _, by show _ = _; omega, rfl, ⟨id, rfl, rfl⟩, by simp [go_sem], by simp, hB _⟩
  case round =>
    obtain ⟨j, hj, hk, rfl, ⟨x, rfl, hq⟩, hx, hz, hb⟩ := hrel
    by_cases hlt : j < 32
    · have hlt' : (j : Int) < 32 := by omega
      by_cases hx0 : 0 < x
      · go_wp2_with fail
        refine (l1Home_any _ _ _ _ L U _ _ (by have := hb.size; omega) (H.below hb hU)).mono ?_
        rintro y w1 ⟨rfl, rfl⟩
        go_wp2_with fail
        go_roundg (32 - (j + 1))
        case measure => have := hk.out; omega
        case rel =>
          have h1 := hq.out
          rw [show 32 - j = (32 - (j + 1)) + 1 by omega, climb_step _ _ hx0] at h1
          exact ⟨j + 1, by omega, rfl, by go_num, ⟨_, rfl, h1⟩, by rw [((Below.refl wr.heap.size wr).alloc (Nat.le_refl _) _).cell (by simpa using hz)]; exact hx, by simp; omega, hb.alloc hb.size _⟩
      · go_wp2_with fail
        go_ret
        have h1 := hq.out
        rw [climb_stop os (32 - j) (id := x) (by omega)] at h1
        exact ⟨ret_bool (by unfold topB; rw [h1]), hb⟩
    · have hlt' : ¬ (j : Int) < 32 := by omega
      go_wp2_with fail
      go_ret
      have h1 := hq.out
      rw [show 32 - j = 0 by omega] at h1
      have h2 : climb os 32 id = x := h1
      exact ⟨ret_bool (by unfold topB; rw [h2]), hb⟩

def cnt (p : List (Nat × LEnt)) (id : Int) : Nat := p.countP (fun x => x.2.id == id)
theorem cnt_append (p q : List (Nat × LEnt)) (id : Int) : cnt (p ++ q) id = cnt p id + cnt q id := by unfold cnt; rw [List.countP_append]
theorem cnt_one (x : Nat × LEnt) (id : Int) : cnt [x] id = if x.2.id = id then 1 else 0 := by
  unfold cnt; rw [List.countP_singleton]; simp
theorem cnt_le (p : List (Nat × LEnt)) (id : Int) : cnt p id ≤ p.length := List.countP_le_length
theorem flatFrom_len {M : Nat} : ∀ (d : Nat) (l : List LObj), (∀ o ∈ l, o.kids.length ≤ M) → (flatFrom d l).length ≤ l.length * M
  | _, [], _ => by simp [flatFrom]
  | d, o :: l, h => by
    have h1 := flatFrom_len (M := M) (d + 1) l (fun o' ho => h o' (List.mem_cons_of_mem _ ho))
    have h2 := h o (List.mem_cons_self ..)
    simp only [flatFrom, List.length_append, List.length_cons, tagged, List.length_map, Nat.succ_mul]
    omega
/-- All numbers that the names name are objects'. -/
def IdsIn (t : List LObj) : Prop := ∀ o ∈ t, ∀ e ∈ o.kids, 0 < e.id ∧ e.id < 32

theorem info3 : (Try.prog.info? 3).map (fun i => (i.zero.map (·.cells), i.size, i.bytes)) = some (some #[.int .i64 0], 1, 8) := by kernel_rfl

end Go.Proofs.Ytnfegihemhidgaa

/- How often each object is named: the contract of the specification. -/
namespace Go.Proofs.Ytnfegihemhidgaa
open Go.RowKit

def zs32 : Array Value := madeCells #[.int .i64 0] 32
theorem make32 (w : World) : (Instr.makeSlice 70 (.int .i64 32) (.int .i64 32)).run Try.prog w = .ok (.slice (some ⟨w.heap.size, 0, none⟩) 32 32) (w.alloc (.cells zs32 3)) := by
  have h := run_make_many 70 3 _ 1 8 Try.underlying70 info3 32 (by omega) (by omega) w
  have e : ((32 : Nat) : Int) = 32 := by omega
  rw [e] at h
  exact h

theorem cnt_snoc {es : List LEnt} {m : Nat} {e : LEnt} (h : es[m]? = some e) (p : List (Nat × LEnt)) (j : Nat) (i : Int) :
    cnt (p ++ tagged j (es.take (m + 1))) i = cnt (p ++ tagged j (es.take m)) i + if e.id = i then 1 else 0 := by
  rw [tagged_take h, ← List.append_assoc, cnt_append _ [(j, e)], cnt_one]

set_option maxHeartbeats 1000000 in
theorem l1Homes_any (a : Option Addr) (n c : Nat) (os : List LObj) (L U : Nat) (w : World) (hn : n ≤ 32) (hS : Sizes os 1048576) (hI : IdsIn os) (hU : U ≤ w.heap.size) (H : ObjsAt w L U a n os) :
    Calls Try.prog 34 #[.agg #[.slice a n c]] w fun e w' => (∃ b, e = .returned (.slice (some ⟨b, 0, none⟩) 32 32) ∧ w.heap.size ≤ b ∧ w'.rowIs b 3 32 (fun i => .int .i64 (cnt (flat os) i))) ∧ Below w.heap.size w w' := by
  have hmk := make32
  have hB : ∀ o1 o2, Below w.heap.size w ((w.alloc o1).alloc o2) := fun o1 o2 => ((Below.refl _ _).alloc (Nat.le_refl _) _).alloc (by simp) _
  have hrow : ((w.alloc (.cells #[.slice a n c] 39)).alloc (.cells zs32 3)).rowIs (w.heap.size + 1) 3 32 (fun i => .int .i64 (cnt (flat (os.take 0)) i)) := by
    have := World.rowIs_made (w.alloc (.cells #[.slice a n c] 39)) (.int .i64 0) 32 3
    simpa [flat, flatFrom, cnt, zs32] using this
  have HROW : Hid (((w.alloc (.cells #[.slice a n c] 39)).alloc (.cells zs32 3)).rowIs (w.heap.size + 1) 3 32 (fun i => .int .i64 (cnt (flat (os.take 0)) i))) := hrow
  clear hrow
  go_enter Try.func34, Try.ntmps34
  go_wp2
  go_loopg [4] n (fun g i wr => ∃ j : Nat, j ≤ n ∧ Hid (g = n - j) ∧ i = .int .i64 j ∧ Hid (wr.rowIs (w.heap.size + 1) 3 32 (fun i => .int .i64 (cnt (flat (os.take j)) i))) ∧ wr.cell? ⟨w.heap.size, 0, none⟩ = some (.slice a n c) ∧ Below w.heap.size w wr)
  case atStart => exact ⟨0, Nat.zero_le _, by show _ = _; omega, rfl, HROW.out, by simp [go_sem], hB _ _⟩
  case round =>
    obtain ⟨j, hj, hk, rfl, hq, hx, hb⟩ := hrel
    by_cases hlt : j < n
    · obtain ⟨b, off, ha, hL, hbU, hc⟩ := H.at_ (by omega)
      subst ha
      obtain ⟨o, ka, kn, kc, ho, hsz, hc0, hc1, hc2, hc3, hks⟩ := hc j hlt
      have hkn : kn ≤ 1048576 := by rw [hks.len]; exact hS o (List.mem_of_getElem? ho)
      have HO : Hid (os[j]? = some o) := ho
      clear ho hc hc0 hc1 hc2
      have HKL : Hid (kn = o.kids.length) := hks.len
      go_wp2_with fail
      go_loopg [5] kn (fun g i wi => ∃ m : Nat, m ≤ kn ∧ Hid (g = kn - m) ∧ i = .int .i64 m ∧ Hid (wi.rowIs (w.heap.size + 1) 3 32 (fun i => .int .i64 (cnt (flat (os.take j) ++ tagged j (o.kids.take m)) i))) ∧ wi.cell? ⟨w.heap.size, 0, none⟩ = some (.slice (some ⟨b, off, none⟩) n c) ∧ Below w.heap.size w wi)
      case atStart => exact ⟨0, Nat.zero_le _, by show _ = _; omega, rfl, by show World.rowIs _ _ _ _ _; simpa [tagged] using hq.out, hx, hb⟩
      case round =>
        clear hx hb hq
        obtain ⟨m, hm, hk2, rfl, hq2, hx, hb2⟩ := hrel
        rw [← hb2.cell (by simp; omega)] at hc3
        by_cases hlt2 : m < kn
        · obtain ⟨b2, off2, ha2, hL2, hbU2, hd⟩ := hks.at_ (by omega)
          subst ha2
          obtain ⟨e, he, hez, hd0, hd1⟩ := hd m hlt2
          obtain ⟨id, hid, hid0⟩ : ∃ id : Nat, e.id = id ∧ id < 32 := by
            have := hI o (List.mem_of_getElem? HO.out) e (List.mem_of_getElem? he)
            exact ⟨e.id.toNat, by omega, by omega⟩
          rw [hid] at hd1
          have HE : Hid (o.kids[m]? = some e ∧ e.id = id) := ⟨he, hid⟩
          clear he hd hd0 hid
          rw [← hb2.cell (by simp; omega)] at hd1
          have g0 := hq2.out.cell (i := id) hid0
          have z0 := hq2.out.frozen id
          have hcn : cnt (flat (os.take j) ++ tagged j (o.kids.take m)) id ≤ 40000000 := by
            have h1 := cnt_le (flat (os.take j) ++ tagged j (o.kids.take m)) id
            have h2 := flatFrom_len (M := 1048576) 0 (os.take j) (fun o' ho' => hS o' (List.mem_of_mem_take ho'))
            have h3 : (os.take j).length * 1048576 ≤ 32 * 1048576 := Nat.mul_le_mul_right _ (by simp; omega)
            have h4 : (tagged j (o.kids.take m)).length ≤ 1048576 := by simp [tagged]; have := HKL.out; omega
            rw [List.length_append] at h1
            unfold flat at h1 ⊢
            omega
          have hid1 : (0 : Int) ≤ (id : Int) := by omega
          have hid2 : (id : Int) < 32 := by omega
          have hlt' : (j : Int) < (n : Int) := by omega
          have hlt2' : (m : Int) < (kn : Int) := by omega
          generalize hC : cnt (flat (os.take j) ++ tagged j (o.kids.take m)) id = C at g0 hcn
          have HC : Hid (cnt (flat (os.take j) ++ tagged j (o.kids.take m)) id = C) := hC
          clear hC
          go_wp2_with fail
          go_region
          go_wp2_with fail
          go_roundg (kn - (m + 1))
          case measure => have := hk2.out; omega
          case rel =>
            refine ⟨m + 1, by omega, rfl, by go_num, ?_, ?_, ?_⟩
            · have h1 := (hq2.out.set id (.int .i64 (C + 1))).drew
              refine h1.congr fun i hi => ?_
              rw [cnt_snoc HE.out.1]
              by_cases hii : i = id
              · subst hii
                rw [if_pos rfl, if_pos HE.out.2, HC.out]
                simp
              · rw [if_neg hii, if_neg (by have := HE.out.2; show ¬ e.id = _; omega), Nat.add_zero]
            · show World.cell? _ _ = _
              rw [World.cell?_of_block (w := wr) (Below.heap_setCell wr _ _ w.heap.size (by simp))]
              exact hx
            · exact (hb2.setCell (by simp) _).drew
        · go_wp2_with fail
          go_roundg (n - (j + 1))
          case measure => have := hk.out; omega
          case rel =>
            refine ⟨j + 1, by omega, rfl, by go_num, ?_, hx, hb2⟩
            have h1 := hq2.out
            rw [List.take_of_length_le (l := o.kids) (i := m) (by have := HKL.out; omega)] at h1
            rw [flat_take HO.out]
            exact h1
    · go_wp2_with fail
      go_ret
      have h1 := hq.out
      rw [List.take_of_length_le (by have := H.len; omega)] at h1
      exact ⟨⟨w.heap.size + 1, rfl, by omega, h1⟩, hb⟩
end Go.Proofs.Ytnfegihemhidgaa
