/- Paths: contracts of the program and of the specification. -/
import Derived.Test.YtjenldenggaljaaUnder
namespace Go.Proofs.Ytjenldenggaljaa
open Go.RowKit

def called (es : List LEnt) (id : Int) : ByteArray := match es.find? (fun e => e.id == id) with | some e => e.name | none => ⟨#[]⟩
theorem uniq_mem {p : List (Nat × LEnt)} (h : Uniq p) {y z : Nat × LEnt} (hy : y ∈ p) (hz : z ∈ p) (e : y.2.id = z.2.id) : y = z := by
  obtain ⟨pre, post, rfl⟩ := List.append_of_mem hy
  rcases List.mem_append.1 hz with hz | hz
  · exact absurd e.symm (h pre y post rfl z hz)
  · rcases List.mem_cons.1 hz with hz | hz
    · exact hz.symm
    · obtain ⟨p1, p2, rfl⟩ := List.append_of_mem hz
      exact absurd e (h (pre ++ y :: p1) z p2 (by simp) y (by simp))
theorem mem_flat {t : List LObj} {i k : Nat} {o : LObj} {e : LEnt} (ho : t[i]? = some o) (he : o.kids[k]? = some e) : (i, e) ∈ flat t := by
  obtain ⟨r, hr⟩ := flat_at ho he
  rw [hr]; simp
theorem called_eq {os : List LObj} (hu : Uniq (flat os)) {id : Int} {d : Nat} {o : LObj} (hd : homeIn (flat os) id = d) (ho : os[d]? = some o) : called o.kids id = nameIn (flat os) id := by
  unfold homeIn at hd
  unfold nameIn called
  cases hf : (flat os).find? (fun x => x.2.id == id) with
  | none => rw [hf] at hd; simp at hd
  | some x =>
    rw [hf] at hd
    simp at hd
    have hx := List.mem_of_find?_eq_some hf
    have hxi : x.2.id = id := by simpa using List.find?_some hf
    obtain ⟨i, o', k, h1, h2, h3⟩ := mem_flatFrom hx
    have : i = d := by omega
    subst this
    rw [ho] at h1
    cases h1
    cases hk : o.kids.find? (fun e => e.id == id) with
    | none =>
      exfalso
      have := List.find?_eq_none.1 hk x.2 (List.mem_of_getElem? h2)
      simp [hxi] at this
    | some e' =>
      have he := List.mem_of_find?_eq_some hk
      have hei : e'.id = id := by simpa using List.find?_some hk
      obtain ⟨k', hk'⟩ := List.getElem?_of_mem he
      have := uniq_mem hu (mem_flat ho hk') hx (by rw [hxi]; exact hei)
      rw [← this]

theorem called_at {es : List LEnt} {k : Nat} {e : LEnt} {id : Int} (he : es[k]? = some e) (h : ∀ i, i < k → ∀ x, es[i]? = some x → x.id ≠ id) (hi : e.id = id) : called es id = e.name := by
  unfold called
  have hk : k < es.length := (List.getElem?_eq_some_iff.1 he).1
  have e1 : es = es.take k ++ e :: es.drop (k + 1) := by
    have : es[k] = e := (List.getElem?_eq_some_iff.1 he).2
    rw [← this, ← List.drop_eq_getElem_cons hk, List.take_append_drop]
  have e2 : (es.take k).find? (fun e => e.id == id) = none := by
    rw [List.find?_eq_none]
    intro x hx
    obtain ⟨i, hi'⟩ := List.getElem?_of_mem hx
    have hlt : i < k := by have := (List.getElem?_eq_some_iff.1 hi').1; simp at this; omega
    rw [List.getElem?_take_of_lt hlt] at hi'
    simpa using h i hlt x hi'
  conv => lhs; rw [e1]
  rw [List.find?_append, e2]
  simp [hi]
theorem called_none {es : List LEnt} {id : Int} (h : ∀ (i : Nat) x, es[i]? = some x → x.id ≠ id) : called es id = ⟨#[]⟩ := by
  unfold called
  have : es.find? (fun e => e.id == id) = none := by
    rw [List.find?_eq_none]
    intro x hx
    obtain ⟨i, hi⟩ := List.getElem?_of_mem hx
    simpa using h i x hi
  rw [this]
theorem ret_strP {a b : ByteArray} (h : a = b) : Ending.returned (.string a) = .returned (.string b) := by rw [h]

set_option maxHeartbeats 400000 in
theorem l1Called_any (a : Option Addr) (n c : Nat) (es : List LEnt) (L U : Nat) (id : Int) (w : World) (H : EntsAt w L U a n es) :
    Calls Try.prog 84 #[.slice a n c, .int .i64 id] w fun e w' => e = .returned (.string (called es id)) ∧ w' = w := by
  have hbd := H.bd
  unfold maxLen at hbd
  go_enter Try.func84, Try.ntmps84
  go_wp2_with fail
  go_loopg [5] n (fun g i wr => ∃ j : Nat, j ≤ n ∧ Hid (g = n - j) ∧ i = .int .i64 j ∧ Hid (∀ i, i < j → ∀ x, es[i]? = some x → x.id ≠ id) ∧ wr = w)
  case atStart => exact ⟨0, Nat.zero_le _, by show _ = _; omega, rfl, fun i hi => by omega, rfl⟩
  case round =>
    obtain ⟨j, hj, hk, rfl, hq, rfl⟩ := hrel
    by_cases hlt : j < n
    · obtain ⟨b, off, ha, hL, hbU, hc⟩ := H.at_ (by omega)
      subst ha
      obtain ⟨e, he, hsz, hc0, hc1⟩ := hc j hlt
      have HE : Hid (es[j]? = some e) := he
      clear he hc
      by_cases hid : e.id = id
      · have t1 : (e.id == id) = true := by simpa using hid
        have HI : Hid (e.id = id) := hid
        clear hid
        go_wp2_with fail
        go_ret
        exact ⟨ret_strP (called_at HE.out hq.out HI.out).symm, rfl⟩
      · have t1 : (e.id == id) = false := by simpa using hid
        have HI : Hid (e.id ≠ id) := hid
        clear hid
        go_wp2_with fail
        go_roundg (n - (j + 1))
        case measure => have := hk.out; omega
        case rel =>
          refine ⟨j + 1, by omega, rfl, by go_num, fun i hi x hx => ?_, rfl⟩
          by_cases ee : i = j
          · subst ee
            rw [HE.out] at hx
            cases hx
            exact HI.out
          · exact hq.out i (by omega) x hx
    · go_wp2_with fail
      go_ret
      exact ⟨ret_strP (called_none (fun i x hx => hq.out i (by have := (List.getElem?_eq_some_iff.1 hx).1; have := H.len; omega) x hx)).symm, rfl⟩


/-- The names on the way up from an object, ahead of what was gathered. -/
def path (os : List LObj) : Nat → Int → ByteArray → ByteArray
  | 0, _, s => s
  | k + 1, id, s => if 0 < id then path os k (homeIn (flat os) id) (⟨#[47]⟩ ++ nameIn (flat os) id ++ s) else s
theorem path_top (os : List LObj) (k : Nat) (s : ByteArray) : path os k 0 s = s := by
  cases k with
  | zero => rfl
  | succ k => unfold path; rw [if_neg (by omega)]
theorem path_step (os : List LObj) (k : Nat) {id : Int} (h : 0 < id) (s : ByteArray) : path os (k + 1) id s = path os k (homeIn (flat os) id) (⟨#[47]⟩ ++ nameIn (flat os) id ++ s) := by
  rw [path, if_pos h]
def pathV (os : List LObj) (id : Int) : ByteArray := if specOk os = true ∧ hasB os id = true then (if id = 0 then ⟨#[47]⟩ else path os 32 id ⟨#[]⟩) else ⟨#[]⟩
theorem pathV_no {os : List LObj} (h : specOk os = false) (id : Int) : pathV os id = ⟨#[]⟩ := by simp [pathV, h]
theorem pathV_has {os : List LObj} {id : Int} (h : hasB os id = false) : pathV os id = ⟨#[]⟩ := by simp [pathV, h]
theorem pathV_top {os : List LObj} (h : specOk os = true) (h' : hasB os 0 = true) : pathV os 0 = ⟨#[47]⟩ := by simp [pathV, h, h']
theorem pathV_yes {os : List LObj} {id : Int} (h : specOk os = true) (h' : hasB os id = true) (hn : id ≠ 0) : pathV os id = path os 32 id ⟨#[]⟩ := by simp [pathV, h, h', hn]
theorem name_small {os : List LObj} (hs : specOk os = true) (id : Int) : (nameIn (flat os) id).size ≤ 4 := by
  have hi := (specOk_iff os).1 hs
  unfold nameIn
  cases hf : (flat os).find? (fun x => x.2.id == id) with
  | none => exact Nat.zero_le 4
  | some x =>
    obtain ⟨i, o, k, h1, h2, h3⟩ := mem_flatFrom (List.mem_of_find?_eq_some hf)
    have he := kids_of_ok (hi.2.1 i o h1) x.2 (List.mem_of_getElem? h2)
    unfold entB word at he
    simp at he
    exact he.1.1.2
theorem cat_size (s t : ByteArray) : ((⟨#[47]⟩ : ByteArray) ++ s ++ t).size = 1 + s.size + t.size := by simp [ByteArray.size_append]; rfl
/-- The state of a walk up the tree: after m steps one is at d. -/
theorem up_next {os : List LObj} (hok : ImplOk os) {k m d : Nat} (hk : k < 32) (hl : kindOf os k ≠ 0) (hm : m ≤ 31) (hq : climb os m k = d) (hd : d ≠ 0) : m + 1 ≤ 31 ∧ ∃ d' : Nat, homeIn (flat os) d = d' ∧ d' < 32 ∧ climb os (m + 1) k = d' := by
  refine ⟨?_, ?_⟩
  · apply Classical.byContradiction
    intro hn
    have : m = 31 := by omega
    subst this
    have h1 := hok.2.2.2.2 k hk hl
    rw [hq] at h1
    omega
  · obtain ⟨d', q1, q2, q3⟩ := climb_in hok.1 hok.2.1 hok.2.2.2.1 hk hl (m + 1)
    have h1 := climb_snoc os m k
    rw [hq, if_pos (by omega), q1] at h1
    exact ⟨d', h1.symm, q2, q1⟩

set_option maxHeartbeats 1000000 in
theorem implPath (a : Option Addr) (n c : Nat) (os : List LObj) (L U : Nat) (id : Int) (w : World) (hU : U ≤ w.heap.size) (H : ObjsAt w L U a n os) :
    Calls Try.prog 30 #[.agg #[.slice a n c], .int .i64 id] w fun e w' => e = .returned (.string (pathV os id)) ∧ Below w.heap.size w w' := by
  have hB : ∀ o1, Below w.heap.size w (w.alloc o1) := fun o1 => (Below.refl _ _).alloc (Nat.le_refl _) _
  go_enter Try.func30, Try.ntmps30
  go_wp2_with fail
  refine (layOut_any _ _ _ _ L U _ (by simp; omega) (H.below (hB _) hU)).mono ?_
  rintro x w1 ⟨hl, hb⟩
  have hb1 : Below w.heap.size w w1 := (hB _).trans (hb.mono (by simp))
  clear hb
  rcases hl with ⟨rfl, hs⟩ | ⟨lb, f, rfl, hs, _, hrow, hlay⟩
  · have HS : Hid (specOk os = false) := hs
    clear hs
    go_wp2_with fail
    go_ret
    exact ⟨ret_strP (pathV_no HS.out id).symm, hb1⟩
  · have HS : Hid (specOk os = true) := hs
    have HR : Hid (w1.rowIs lb 120 192 f) := hrow
    clear hs hrow
    go_wp2_with fail
    refine (has_any lb os L U f id _ _ _ _ HR.out hlay).mono ?_
    rintro x w2 ⟨rfl, hb2⟩
    have hb3 : Below w.heap.size w w2 := hb1.trans (hb2.mono hb1.size)
    cases hh : hasB os id
    · have HH : Hid (hasB os id = false) := hh
      clear hh
      go_wp2_with fail
      go_ret
      exact ⟨ret_strP (pathV_has HH.out).symm, hb3⟩
    · have HH : Hid (hasB os id = true) := hh
      obtain ⟨k, rfl, hk⟩ : ∃ k : Nat, id = k ∧ k < 32 := by
        simp [hasB] at hh
        exact ⟨id.toNat, by omega, by omega⟩
      have HK : Hid (kindOf os k ≠ 0) := by
        show _ ≠ _
        simp [hasB] at hh
        exact hh.2
      clear hh
      have HR2 : Hid (w2.rowIs lb 120 192 f) := HR.out.of_block (hb2.block _ HR.out.lt)
      have HOK : Hid (ImplOk os) := (specOk_iff os).1 HS.out
      clear hb2 hb1
      by_cases hk0 : k = 0
      · have t0 : ((k : Int) == 0) = true := by simpa using hk0
        have HK0 : Hid (k = 0) := hk0
        clear hk0
        go_wp2_with fail
        go_ret
        exact ⟨ret_strP (by have h1 := HH.out; have h2 := HK0.out; subst h2; exact (pathV_top HS.out h1).symm), hb3⟩
      have t0 : ((k : Int) == 0) = false := by simpa using hk0
      have HK0 : Hid ((k : Int) ≠ 0) := by show _ ≠ _; omega
      clear hk0
      go_wp2_with fail
      go_loopg [7, 8] 32 (fun g p cur wr => ∃ m d : Nat, m ≤ 31 ∧ Hid (g = 32 - m) ∧ cur = .int .i64 d ∧ d < 32 ∧ (∃ s : ByteArray, p = .string s ∧ s.size ≤ 5 * m ∧ Hid (climb os m k = d ∧ path os 32 k ⟨#[]⟩ = path os (32 - m) d s)) ∧ wr = w2)
      case atStart => exact ⟨0, k, by omega, by show _ = _; omega, rfl, hk, ⟨⟨#[]⟩, rfl, by simp [ByteArray.size], rfl, rfl⟩, rfl⟩
      case round =>
        obtain ⟨m, d, hm, hg, rfl, hd, ⟨s, rfl, hs, hq⟩, rfl⟩ := hrel
        by_cases hdz : d = 0
        · have t1 : ((d : Int) != 0) = false := by simpa using hdz
          have HZ : Hid (d = 0) := hdz
          clear hdz
          go_wp2_with fail
          go_ret
          exact ⟨ret_strP (by rw [pathV_yes HS.out HH.out HK0.out, hq.out.2, HZ.out]; exact (path_top os _ s).symm), hb3⟩
        · have t1 : ((d : Int) != 0) = true := by simpa using hdz
          obtain ⟨hm30, d', q1, q2, q3⟩ := up_next HOK.out hk HK.out hm hq.out.1 hdz
          obtain ⟨o, ka, kn, kc, ho, p0, p1, p2, p3, p4, p5, hks⟩ := hlay d hd
          have g2 := HR2.out.cell (i := d * 6 + 2) (by omega)
          have g3 := HR2.out.cell (i := d * 6 + 3) (by omega)
          rw [p2] at g2
          rw [p3] at g3
          dsimp only at g2 g3
          rw [q1] at g2
          clear ho p0 p1 p2 p3 p4 p5 hks
          have hd0 : (0 : Int) ≤ (d : Int) := by omega
          have hd1 : (d : Int) < 32 := by omega
          have hnm := name_small HS.out d
          have Q : Hid (climb os (m + 1) k = d' ∧ path os 32 k ⟨#[]⟩ = path os (32 - (m + 1)) d' (⟨#[47]⟩ ++ nameIn (flat os) d ++ s)) := ⟨q3, by
            rw [hq.out.2, show 32 - m = (32 - (m + 1)) + 1 by omega, path_step os (32 - (m + 1)) (by omega), q1]⟩
          clear q1 q3 hdz
          go_wp2_with fail
          go_roundg (32 - (m + 1))
          case measure => have := hg.out; omega
          case rel => exact ⟨m + 1, d', by omega, rfl, rfl, q2, ⟨_, rfl, by rw [cat_size]; omega, Q.out⟩, rfl⟩

set_option maxHeartbeats 1000000 in
theorem specPath (a : Option Addr) (n c : Nat) (os : List LObj) (L U : Nat) (id : Int) (w : World) (hS : Sizes os 1048576) (hU : U ≤ w.heap.size) (H : ObjsAt w L U a n os) :
    Calls Try.prog 31 #[.agg #[.slice a n c], .int .i64 id] w fun e w' => e = .returned (.string (pathV os id)) ∧ Below w.heap.size w w' := by
  go_enter Try.func31, Try.ntmps31
  go_wp2_with fail
  refine (specTreeOk _ _ _ _ L U _ hS (by simp; omega) (H.below ((Below.refl _ _).alloc (Nat.le_refl _) _) hU)).mono ?_
  rintro x w1 ⟨rfl, hb⟩
  have hO := One.start hb
  have hx1 := hO.c0
  clear hb
  cases hs : specOk os
  · have HS : Hid (specOk os = false) := hs
    clear hs
    go_wp2_with fail
    go_ret
    exact ⟨ret_strP (pathV_no HS.out id).symm, hO.below⟩
  · have HS : Hid (specOk os = true) := hs
    have HOK : Hid (ImplOk os) := (specOk_iff os).1 hs
    clear hs
    by_cases hr : 0 ≤ id ∧ id < 32
    · obtain ⟨k, rfl⟩ := Int.eq_ofNat_of_zero_le hr.1
      have hk : k < 32 := by omega
      have hn : n = 32 := by rw [H.len]; exact HOK.out.1
      subst hn
      obtain ⟨b, off, ha, hL, hbU, hc⟩ := H.at_ (by omega)
      subst ha
      obtain ⟨o, ka, kn, kc, ho, hsz, hd0, _⟩ := hc k hk
      rw [← hO.below.cell (by simp; omega)] at hd0
      have HO : Hid (kindOf os k = o.kind) := kindOf_at ho
      clear ho
      have hk0 : (0 : Int) ≤ (k : Int) := hr.1
      have hk1 : (k : Int) < 32 := hr.2
      clear hr
      by_cases hlive : o.kind = 0
      · have t1 : (o.kind == 0) = true := by simpa using hlive
        have HV : Hid (hasB os k = false) := by show _ = _; simp [hasB, HO.out, hlive]
        clear hlive
        go_wp2_with (go_at_call 78; refine (l1Id_yes _ hk0 hk1 _).mono ?_; rintro x w2 ⟨rfl, rfl⟩)
        go_ret
        exact ⟨ret_strP (pathV_has HV.out).symm, hO.below⟩
      · have t1 : (o.kind == 0) = false := by simpa using hlive
        have HV : Hid (hasB os k = true) := by show _ = _; simp [hasB, HO.out, hlive]; omega
        have HK : Hid (kindOf os k ≠ 0) := by show _ ≠ _; rw [HO.out]; exact hlive
        clear hlive
        go_wp2_with (go_at_call 78; refine (l1Id_yes _ hk0 hk1 _).mono ?_; rintro x w2 ⟨rfl, rfl⟩)
        clear hd0 hx1
        go_loopg [1, 5] 32 (fun g cur p wr => ∃ m d : Nat, m ≤ 31 ∧ Hid (g = 32 - m) ∧ cur = .int .i64 d ∧ d < 32 ∧ (∃ s : ByteArray, p = .string s ∧ s.size ≤ 5 * m ∧ Hid ((m = 0 ∧ s = ⟨#[]⟩) ∨ ((k : Int) ≠ 0 ∧ 0 < s.size)) ∧ Hid (climb os m k = d ∧ path os 32 k ⟨#[]⟩ = path os (32 - m) d s)) ∧ One w wr (.slice (some ⟨b, off, none⟩) 32 c))
        case atStart => exact ⟨0, k, by omega, by show _ = _; omega, rfl, hk, ⟨⟨#[]⟩, rfl, by simp [ByteArray.size], .inl ⟨rfl, rfl⟩, rfl, rfl⟩, hO⟩
        case round =>
          clear hO
          obtain ⟨m, d, hm, hg, rfl, hd, ⟨s, rfl, hs, hem, hq⟩, hO⟩ := hrel
          have hx1 := hO.c0
          by_cases hdz : d = 0
          · have t2 : ¬ (0 : Int) < (d : Int) := by omega
            have HZ : Hid (d = 0) := hdz
            clear hdz
            rcases hem.out with ⟨h1, h2⟩ | ⟨h1, h2⟩
            · have t3 : s.toList.isEmpty = true := by rw [h2, ByteArray.toList_eq]; rfl
              have HE : Hid (k = 0) := by
                show _ = _
                have h3 := hq.out.1
                rw [h1, HZ.out] at h3
                have h4 : (k : Int) = (0 : Nat) := h3
                omega
              clear h1 h2
              go_wp2_with fail
              go_ret
              exact ⟨ret_strP (by have h5 := HV.out; have h6 := HE.out; subst h6; exact (pathV_top HS.out h5).symm), hO.below⟩
            · have t3 : s.toList.isEmpty = false := by
                rw [ByteArray.toList_eq]
                cases hl : s.data.toList with
                | nil =>
                  have h3 : s.data.toList.length = s.size := by simp
                  rw [hl] at h3
                  simp at h3
                  omega
                | cons x l => rfl
              have HE : Hid ((k : Int) ≠ 0) := h1
              clear h1 h2
              go_wp2_with fail
              go_ret
              exact ⟨ret_strP (by rw [pathV_yes HS.out HV.out HE.out, hq.out.2, HZ.out]; exact (path_top os _ s).symm), hO.below⟩
          · have t2 : (0 : Int) < (d : Int) := by omega
            obtain ⟨hm30, d', q1, q2, q3⟩ := up_next HOK.out hk HK.out hm hq.out.1 hdz
            obtain ⟨o2, ka2, kn2, kc2, ho2, hsz2, e0, e1, e2, e3, hks2⟩ := hc d' q2
            have HKN : Hid ((k : Int) ≠ 0) := fun hz => by
              have h1 := hq.out.1
              rw [hz, climb_stop os m (by omega)] at h1
              omega
            have hcd := called_eq HOK.out.2.2.2.1.2.1 q1 ho2
            have hnm := name_small HS.out d
            have Q : Hid (climb os (m + 1) k = d' ∧ path os 32 k ⟨#[]⟩ = path os (32 - (m + 1)) d' (⟨#[47]⟩ ++ nameIn (flat os) d ++ s)) := ⟨q3, by
              rw [hq.out.2, show 32 - m = (32 - (m + 1)) + 1 by omega, path_step os (32 - (m + 1)) t2, q1]⟩
            have HQ1 : Hid (homeIn (flat os) d = d') := q1
            have HCD : Hid (called o2.kids d = nameIn (flat os) d) := hcd
            clear q1 q3 hdz hcd ho2 e0 e1 e2 hc
            go_wp2_with fail
            refine (l1Home_any _ _ _ _ L U _ _ (by have := hO.below.size; omega) (H.below hO.below hU)).mono ?_
            rintro y w3 ⟨rfl, rfl⟩
            rw [HQ1.out]
            have hO3 := hO.next ((Below.refl _ _).alloc (Nat.le_refl _) (.cells #[.slice (some ⟨b, off, none⟩) 32 c] 25))
            rw [← hO3.below.cell (by simp; omega)] at e3
            have hx3 := hO3.c0
            have hd'0 : (0 : Int) ≤ (d' : Int) := by omega
            have hd'1 : (d' : Int) < 32 := by omega
            generalize wr.alloc (.cells #[.slice (some ⟨b, off, none⟩) 32 c] 25) = w4 at hO3 e3 hx3 ⊢
            go_wp2_with fail
            refine (l1Called_any _ _ _ _ L U _ _ (hks2.below hO3.below hU)).mono ?_
            rintro y w5 ⟨rfl, rfl⟩
            rw [HCD.out]
            go_wp2_with fail
            go_roundg (32 - (m + 1))
            case measure => have := hg.out; omega
            case rel => exact ⟨m + 1, d', by omega, rfl, rfl, q2, ⟨_, rfl, by rw [cat_size]; omega, .inr ⟨HKN.out, by rw [cat_size]; omega⟩, Q.out⟩, hO3⟩
    · have HV : Hid (hasB os id = false) := by show _ = _; simp [hasB]; omega
      go_wp2_with (go_at_call 78; refine (l1Id_no _ (by omega) _).mono ?_; rintro x w2 ⟨rfl, rfl⟩)
      go_ret
      exact ⟨ret_strP (pathV_has HV.out).symm, hO.below⟩
end Go.Proofs.Ytjenldenggaljaa
