/- One comes to the top from all: the contract of comeToTop. -/
import Derived.Test.YtjenldenggaljaaSettle
import Derived.WalkMore
namespace Go.Proofs.Ytjenldenggaljaa
open Go.RowKit

theorem climb_snoc (t : List LObj) : ∀ (k : Nat) (id : Int), climb t (k + 1) id = if 0 < climb t k id then homeIn (flat t) (climb t k id) else climb t k id
  | 0, id => by
    unfold climb
    by_cases h : 0 < id
    · rw [if_pos h, if_pos (by simpa [climb] using h)]; rfl
    · rw [if_neg h, if_neg (by simpa [climb] using h)]
  | k + 1, id => by
    by_cases h : 0 < id
    · rw [climb_step t (k + 1) h, climb_step t k h]
      exact climb_snoc t k _
    · rw [climb_stop t (k + 1 + 1) h, climb_stop t (k + 1) h, if_neg h]
theorem climb_zero {t : List LObj} {k : Nat} {id : Int} (h : climb t k id = 0) : ∀ m, k ≤ m → climb t m id = 0 := by
  intro m hm
  induction m with
  | zero => obtain rfl : k = 0 := by omega
            exact h
  | succ m ih =>
    by_cases e : k = m + 1
    · subst e; exact h
    · rw [climb_snoc, ih (by omega)]; rfl

/-- A directory that has names is there. -/
theorem dir_live {t : List LObj} (h : ∀ (i : Nat) o, t[i]? = some o → objB o = true) {i k : Nat} {o : LObj} {e : LEnt} (ho : t[i]? = some o) (he : o.kids[k]? = some e) : kindOf t i ≠ 0 := by
  rw [kindOf_at ho]
  intro hk
  have h1 := h i o ho
  unfold objB at h1
  rw [Bool.and_eq_true] at h1
  have h2 := h1.2
  unfold partsB at h2
  rw [if_pos hk] at h2
  have : o.kids.length ≠ 0 := by have := (List.getElem?_eq_some_iff.1 he).1; omega
  simp [nil?, this] at h2
theorem mem_flatFrom {d : Nat} {l : List LObj} {x : Nat × LEnt} (h : x ∈ flatFrom d l) : ∃ (i : Nat) (o : LObj) (k : Nat), l[i]? = some o ∧ o.kids[k]? = some x.2 ∧ x.1 = d + i := by
  induction l generalizing d with
  | nil => simp [flatFrom] at h
  | cons y l ih =>
    simp only [flatFrom, List.mem_append] at h
    rcases h with h | h
    · unfold tagged at h
      obtain ⟨e, he, rfl⟩ := List.mem_map.1 h
      obtain ⟨k, hk⟩ := List.getElem?_of_mem he
      exact ⟨0, y, k, rfl, hk, rfl⟩
    · obtain ⟨i, o, k, h1, h2, h3⟩ := ih h
      exact ⟨i + 1, o, k, by simpa using h1, h2, by omega⟩
/-- Where something is at home: a directory that is there, of the tree. -/
theorem home_in {t : List LObj} (hall : ∀ (i : Nat) o, t[i]? = some o → objB o = true) {id : Int} (h : ¬ Off (flat t) id) : ∃ d : Nat, homeIn (flat t) id = d ∧ d < t.length ∧ kindOf t d ≠ 0 := by
  unfold homeIn
  cases hf : (flat t).find? (fun x => x.2.id == id) with
  | none =>
    exfalso
    apply h
    intro x hx
    have := List.find?_eq_none.1 hf x hx
    simpa using this
  | some x =>
    obtain ⟨i, o, k, h1, h2, h3⟩ := mem_flatFrom (List.mem_of_find?_eq_some hf)
    refine ⟨x.1, rfl, ?_, ?_⟩
    · rw [h3, Nat.zero_add]; exact (List.getElem?_eq_some_iff.1 h1).1
    · rw [h3, Nat.zero_add]; exact dir_live hall h1 h2
/-- From what is there one only comes to what is there. -/
theorem climb_in {t : List LObj} (hlen : t.length = 32) (hall : ∀ (i : Nat) o, t[i]? = some o → objB o = true) (hn : Named t) {i : Nat} (hi : i < 32) (hl : kindOf t i ≠ 0) : ∀ k, ∃ d : Nat, climb t k i = d ∧ d < 32 ∧ kindOf t d ≠ 0
  | 0 => ⟨i, rfl, hi, hl⟩
  | k + 1 => by
    obtain ⟨d, h1, h2, h3⟩ := climb_in hlen hall hn hi hl k
    rw [climb_snoc, h1]
    by_cases h0 : 0 < (d : Int)
    · rw [if_pos h0]
      obtain ⟨d', q1, q2, q3⟩ := home_in hall (hn.2.2 d (by omega) h2 h3)
      exact ⟨d', q1, by omega, q3⟩
    · rw [if_neg h0]
      exact ⟨d, rfl, h2, h3⟩

def Comes (os : List LObj) : Prop := ∀ i : Nat, i < 32 → kindOf os i ≠ 0 → climb os 31 i = 0
def ComeEnd (os : List LObj) (e : Ending) : Prop := ∃ r : Bool, e = .returned (.bool r) ∧ (r = true ↔ Comes os)


set_option maxHeartbeats 2000000 in
theorem come_any (lb : Nat) (os : List LObj) (L U : Nat) (f : Nat → Value) (w w0 : World) (hlen : os.length = 32) (hall : ∀ (i : Nat) o, os[i]? = some o → objB o = true) (hn : Named os) (hrow0 : w.rowIs lb 120 192 f) (hlay0 : LayF w0 L U os f 32 (fun i => homeIn (flat os) i) (fun i => nameIn (flat os) i)) :
    Calls Try.prog 117 #[.pointer (some ⟨lb, 0, none⟩)] w fun e w' => ComeEnd os e ∧ Below w.heap.size w w' := by
  have HALL : Hid (os.length = 32 ∧ (∀ (i : Nat) o, os[i]? = some o → objB o = true) ∧ Named os) := ⟨hlen, hall, hn⟩
  have HR0 : Hid (w.rowIs lb 120 192 f) := hrow0
  clear hlen hall hn hrow0
  go_enter Try.func117, Try.ntmps117
  go_wp2
  go_step3
  go_wp2
  go_step3
  go_wp2
  go_loopg [5] 32 (fun g i wr => ∃ j : Nat, j ≤ 32 ∧ Hid (g = 32 - j) ∧ i = .int .i64 j ∧ Hid (∀ i : Nat, i < j → kindOf os i ≠ 0 → climb os 31 i = 0) ∧ Hid (wr.rowIs lb 120 192 f) ∧ Below w.heap.size w wr)
  case atStart => exact ⟨0, Nat.zero_le _, by show _ = _; omega, rfl, fun i hi => by omega, HR0.out, Below.refl _ _⟩
  case round =>
    obtain ⟨j, hj, hk, rfl, hq, hrow, hb⟩ := hrel
    by_cases hlt : j < 32
    · obtain ⟨o, ka, kn, kc, ho, p0, p1, p2, p3, p4, p5, hks⟩ := hlay0 j hlt
      have g0 := hrow.out.cell (i := j * 6) (by omega)
      have g1 := hrow.out.cell (i := j * 6 + 1) (by omega)
      have g2 := hrow.out.cell (i := j * 6 + 2) (by omega)
      have g3 := hrow.out.cell (i := j * 6 + 3) (by omega)
      rw [p0] at g0
      rw [p1] at g1
      rw [p2] at g2
      rw [p3] at g3
      have HO : Hid (kindOf os j = o.kind) := kindOf_at ho
      clear ho p0 p1 p2 p3 p4 p5 hks
      have hlw : lb < wr.heap.size := hrow.out.lt
      have hlt' : (j : Int) < 32 := by omega
      have hj0 : (0 : Int) ≤ (j : Int) := by omega
      by_cases hlive : o.kind = 0
      · have t2 : (o.kind != 0) = false := by simpa using hlive
        have HV : Hid (o.kind = 0) := hlive
        clear hlive
        go_wp2_with (go_at_call 118; refine (there_any _ _ _ _ _).mono ?_; rintro x w1 ⟨rfl, rfl⟩)
        go_roundg (32 - (j + 1))
        case measure => have := hk.out; omega
        case rel =>
          refine ⟨j + 1, by omega, rfl, by go_num, fun i hi hkd => ?_, hrow.out.alloc _, hb.alloc hb.size _⟩
          by_cases e : i = j
          · subst e
            exact absurd (by rw [HO.out]; exact HV.out) hkd
          · exact hq.out i (by omega) hkd
      · have t2 : (o.kind != 0) = true := by simpa using hlive
        have HV : Hid (kindOf os j ≠ 0) := by show _ ≠ _; rw [HO.out]; exact hlive
        clear hlive
        go_wp2_with (go_at_call 118; refine (there_any _ _ _ _ _).mono ?_; rintro x w1 ⟨rfl, rfl⟩)
        go_loopg [4, 17] 32 (fun g d i wi => ∃ m : Nat, m ≤ 32 ∧ Hid (g = 32 - m) ∧ i = .int .i64 m ∧ (∃ x : Nat, d = .int .i64 x ∧ x < 32 ∧ Hid (climb os m j = x ∧ kindOf os x ≠ 0 ∧ (m = 0 ∨ climb os (m - 1) j ≠ 0))) ∧ Hid (wi.rowIs lb 120 192 f) ∧ Below w.heap.size w wi)
        case atStart => exact ⟨0, Nat.zero_le _, by show _ = _; omega, rfl, ⟨j, rfl, hlt, rfl, HV.out, .inl rfl⟩, hrow.out.alloc _, hb.alloc hb.size _⟩
        case round =>
          clear g0 g1 g2 g3 hb hlw
          have hk0 := hk
          clear hk
          obtain ⟨m, hm, hk, rfl, ⟨x, rfl, hx32, hx⟩, hrow2, hb⟩ := hrel
          by_cases hlt2 : m < 32
          · have hlt2' : (m : Int) < 32 := by omega
            by_cases hx0 : x = 0
            · have HX : Hid (climb os m j = 0) := by show _ = _; rw [hx.out.1, hx0]; rfl
              have t3 : ((x : Int) == 0) = true := by simpa using hx0
              clear hx0 hx
              go_wp2_with fail
              go_roundg (32 - (j + 1))
              case measure => have := hk0.out; omega
              case rel =>
                refine ⟨j + 1, by omega, rfl, by go_num, fun i hi hkd => ?_, hrow2.out, hb⟩
                by_cases e : i = j
                · subst e
                  exact climb_zero HX.out 31 (by omega)
                · exact hq.out i (by omega) hkd
            · have t3 : ((x : Int) == 0) = false := by simpa using hx0
              have HX0 : Hid (0 < (x : Int)) := by show _ < _; omega
              clear hx0
              obtain ⟨o2, ka2, kn2, kc2, ho2, p0, p1, p2, p3, p4, p5, hks2⟩ := hlay0 x hx32
              have g2 := hrow2.out.cell (i := x * 6 + 2) (by omega)
              rw [p2] at g2
              dsimp only at g2
              clear ho2 p0 p1 p2 p3 p4 p5 hks2
              obtain ⟨d', q1, q2, q3⟩ := climb_in HALL.out.1 HALL.out.2.1 HALL.out.2.2 hlt HV.out (m + 1)
              have hh : homeIn (flat os) x = d' := by
                have h1 := climb_snoc os m j
                rw [hx.out.1, if_pos HX0.out, q1] at h1
                exact h1.symm
              rw [hh] at g2
              have Q : Hid (climb os (m + 1) j = d' ∧ kindOf os d' ≠ 0) := ⟨q1, q3⟩
              clear hh q1 q3
              have hx1 : (0 : Int) ≤ (x : Int) := by omega
              have hx2 : (x : Int) < 32 := by omega
              go_wp2_with fail
              go_roundg (32 - (m + 1))
              case measure => have := hk.out; omega
              case rel =>
                refine ⟨m + 1, by omega, rfl, by go_num, ⟨d', rfl, q2, Q.out.1, Q.out.2, .inr ?_⟩, hrow2.out, hb⟩
                show climb os m j ≠ 0
                rw [hx.out.1]
                have := HX0.out
                omega
          · have hlt2' : ¬ (m : Int) < 32 := by omega
            have hm32 : m = 32 := by omega
            have HN : Hid (¬ Comes os) := by
              intro hc
              have h1 := hc j hlt HV.out
              rcases hx.out.2.2 with h2 | h2
              · omega
              · rw [hm32] at h2
                exact h2 h1
            clear hm32
            go_wp2_with fail
            first | rw [Exit.noGoto_ret] | skip
            go_ret
            exact ⟨⟨false, rfl, iff_no HN.out⟩, hb⟩
    · have hlt' : ¬ (j : Int) < 32 := by omega
      go_wp2_with fail
      first | rw [Exit.noGoto_ret] | skip
      go_ret
      exact ⟨⟨true, rfl, ⟨fun _ => fun i hi => hq.out i (by omega), fun _ => rfl⟩⟩, hb⟩
end Go.Proofs.Ytjenldenggaljaa
