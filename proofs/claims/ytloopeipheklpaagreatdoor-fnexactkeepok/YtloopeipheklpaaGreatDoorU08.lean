/- Lemmas that the proofs of this seat share: SpecOk, Lay. -/
import Derived.Test.YtloopeipheklpaaGreatDoorU07
/- What is ok of a tree: the contract of the specification. -/
namespace Go.Proofs.YtloopeipheklpaaGreatDoor
open Go.RowKit

def kindOf (t : List LObj) (i : Nat) : Int := match t[i]? with | some o => o.kind | none => 0
theorem kindOf_at {t : List LObj} {i : Nat} {o : LObj} (h : t[i]? = some o) : kindOf t i = o.kind := by unfold kindOf; rw [h]
def specAt (t : List LObj) (i : Nat) : Bool :=
  if kindOf t i = 0 then decide (cnt (flat t) i = 0) else decide (cnt (flat t) i = 1) && topB t i
def specOk (t : List LObj) : Bool := decide (t.length = 32) && decide (kindOf t 0 = 2) && t.all objB && (List.range 31).all (fun i => specAt t (i + 1))
theorem specOk_len {t : List LObj} (h : t.length ≠ 32) : specOk t = false := by simp [specOk, h]
theorem specOk_top {t : List LObj} (h : kindOf t 0 ≠ 2) : specOk t = false := by simp [specOk, h]
theorem specOk_obj {t : List LObj} {i : Nat} {o : LObj} (ho : t[i]? = some o) (h : objB o = false) : specOk t = false := by
  have : t.all objB = false := by rw [List.all_eq_false]; exact ⟨o, List.mem_of_getElem? ho, by simp [h]⟩
  simp [specOk, this]
theorem specOk_at {t : List LObj} {i : Nat} (h0 : 1 ≤ i) (h1 : i < 32) (h : specAt t i = false) : specOk t = false := by
  have : (List.range 31).all (fun i => specAt t (i + 1)) = false := by
    rw [List.all_eq_false]
    exact ⟨i - 1, by simp; omega, by rw [show i - 1 + 1 = i by omega, h]; simp⟩
  unfold specOk
  rw [this, Bool.and_false]
theorem specOk_yes {t : List LObj} (h0 : t.length = 32) (h1 : kindOf t 0 = 2) (h2 : ∀ (i : Nat) o, t[i]? = some o → objB o = true) (h3 : ∀ i, 1 ≤ i → i < 32 → specAt t i = true) : specOk t = true := by
  have a : t.all objB = true := by
    rw [List.all_eq_true]
    intro o ho
    obtain ⟨i, hi⟩ := List.getElem?_of_mem ho
    exact h2 i o hi
  have b : (List.range 31).all (fun i => specAt t (i + 1)) = true := by
    rw [List.all_eq_true]
    intro i hi
    exact h3 (i + 1) (by omega) (by have := List.mem_range.1 hi; omega)
  unfold specOk
  rw [a, b]
  simp [h0, h1]
theorem specAt_none {t : List LObj} {i : Nat} (h : kindOf t i = 0) : specAt t i = decide (cnt (flat t) i = 0) := by unfold specAt; rw [if_pos h]
theorem specAt_live {t : List LObj} {i : Nat} (h : kindOf t i ≠ 0) : specAt t i = (decide (cnt (flat t) i = 1) && topB t i) := by unfold specAt; rw [if_neg h]
theorem kids_of_ok {o : LObj} (h : objB o = true) : ∀ e ∈ o.kids, entB e = true := by
  intro e he
  unfold objB at h
  rw [Bool.and_eq_true] at h
  have h2 := h.2
  unfold partsB at h2
  have hne : ¬ o.kids.length = 0 := by
    intro hn
    rw [List.length_eq_zero_iff.1 hn] at he
    simp at he
  split at h2
  · simp [nil?, hne] at h2
  · split at h2
    · simp [nil?, hne] at h2
    · split at h2
      · rw [Bool.and_eq_true] at h2
        obtain ⟨i, hi⟩ := List.getElem?_of_mem he
        have h3 := h2.2
        unfold kidsB at h3
        rw [List.all_eq_true] at h3
        have h4 := h3 i (by have := (List.getElem?_eq_some_iff.1 hi).1; simpa using this)
        apply Classical.byContradiction
        intro hc
        rw [kidAt_ent hi (by simpa using hc)] at h4
        cases h4
      · cases h2
theorem ent_ids {e : LEnt} (h : entB e = true) : 0 < e.id ∧ e.id < 32 := by
  unfold entB at h
  simp at h
  omega
theorem ids_of_ok {t : List LObj} (h : ∀ (i : Nat) o, t[i]? = some o → objB o = true) : IdsIn t := fun o ho e he => by
  obtain ⟨i, hi⟩ := List.getElem?_of_mem ho
  exact ent_ids (kids_of_ok (h i o hi) e he)

set_option maxHeartbeats 2000000 in
theorem specTreeOk (a : Option Addr) (n c : Nat) (os : List LObj) (L U : Nat) (w : World) (hS : Sizes os 1048576) (hU : U ≤ w.heap.size) (H : ObjsAt w L U a n os) :
    Calls Tryz.prog 78 #[.agg #[.slice a n c]] w fun e w' => e = .returned (.bool (specOk os)) ∧ Below w.heap.size w w' := by
  have hbd := H.bd
  unfold maxLen at hbd
  have hB : ∀ o1, Below w.heap.size w (w.alloc o1) := fun o1 => (Below.refl _ _).alloc (Nat.le_refl _) _
  by_cases hn : n = 32
  · subst hn
    have hlen := H.len
    have HL : Hid (os.length = 32) := hlen.symm
    clear hlen
    obtain ⟨b, off, ha, hL, hbU, hc⟩ := H.at_ (by omega)
    subst ha
    have hbl : b < w.heap.size := by omega
    obtain ⟨o0, ka0, kn0, kc0, ho0, hsz0, hc0, _⟩ := hc 0 (by omega)
    simp only [Nat.zero_mul, Nat.add_zero] at hc0
    have HO0 : Hid (kindOf os 0 = o0.kind) := kindOf_at ho0
    clear ho0
    by_cases hk0 : o0.kind = 2
    · have t0 : (o0.kind != 2) = false := by simpa using hk0
      have HK0 : Hid (o0.kind = 2) := hk0
      clear hk0
      go_enter Tryz.func78, Tryz.ntmps78
      go_wp2_with fail
      go_loopg [3] 32 (fun g i wr => ∃ j : Nat, j ≤ 32 ∧ Hid (g = 32 - j) ∧ i = .int .i64 j ∧ Hid (∀ (i : Nat) o, i < j → os[i]? = some o → objB o = true) ∧ wr.cell? ⟨w.heap.size, 0, none⟩ = some (.slice (some ⟨b, off, none⟩) 32 c) ∧ w.heap.size < wr.heap.size ∧ Below w.heap.size w wr)
      case atStart => exact ⟨0, Nat.zero_le _, by show _ = _; omega, rfl, fun i o hi => by omega, by simp [go_sem], by simp, hB _⟩
      case round =>
        obtain ⟨j, hj, hk, rfl, hq, hx, hz, hb⟩ := hrel
        by_cases hlt : j < 32
        · obtain ⟨o, ka, kn, kc, ho, hsz, hd0, hd1, hd2, hd3, hks⟩ := hc j hlt
          have HO : Hid (os[j]? = some o) := ho
          clear ho hc
          rw [← hb.cell (by simp; omega)] at hd0 hd1 hd2 hd3
          have hlt' : (j : Int) < 32 := by omega
          go_wp2_with fail
          refine (l1Obj_any _ _ _ _ _ _ _ L U _ (by have := hb.size; omega) hsz (hks.below hb hU)).mono ?_
          rintro x w1 ⟨rfl, hb1⟩
          cases hob : objB o
          · have HOB : Hid (objB o = false) := hob
            clear hob
            go_wp2_with fail
            go_ret
            exact ⟨ret_bool (specOk_obj HO.out HOB.out).symm, hb.trans (hb1.mono hb.size)⟩
          · have HOB : Hid (objB o = true) := hob
            clear hob
            go_wp2_with fail
            go_roundg (32 - (j + 1))
            case measure => have := hk.out; omega
            case rel =>
              refine ⟨j + 1, by omega, rfl, by go_num, fun i o' hi ho' => ?_, by rw [hb1.cell (by simpa using hz)]; exact hx, by have := hb1.size; omega, hb.trans (hb1.mono hb.size)⟩
              by_cases e : i = j
              · subst e
                rw [HO.out] at ho'
                cases ho'
                exact HOB.out
              · exact hq.out i o' (by omega) ho'
        · have hlt' : ¬ (j : Int) < 32 := by omega
          have hall : ∀ (i : Nat) o, os[i]? = some o → objB o = true := fun i o ho => hq.out i o (by have := (List.getElem?_eq_some_iff.1 ho).1; have := HL.out; omega) ho
          have HALL : Hid (∀ (i : Nat) o, os[i]? = some o → objB o = true) := hall
          have hI := ids_of_ok hall
          clear hall
          go_wp2_with fail
          refine (l1Homes_any _ _ _ _ L U _ (by omega) hS hI (by have := hb.size; omega) (H.below hb hU)).mono ?_
          rintro x w1 ⟨⟨hb0, rfl, hlo, hrow⟩, hb1⟩
          have HROW : Hid (w1.rowIs hb0 3 32 (fun i => .int .i64 (cnt (flat os) i))) := hrow
          clear hrow
          have hx1 : w1.cell? ⟨w.heap.size, 0, none⟩ = some (.slice (some ⟨b, off, none⟩) 32 c) := by rw [hb1.cell (by simpa using hz)]; exact hx
          have hbb : Below w.heap.size w w1 := hb.trans (hb1.mono hb.size)
          have hz1 : w.heap.size < w1.heap.size := by have := hb1.size; omega
          go_wp2_with fail
          clear hx hz hb hb1 hk hq hj hlt hlt'
          go_loopg [5] 31 (fun g i wr => ∃ j : Nat, 1 ≤ j ∧ j ≤ 32 ∧ Hid (g = 32 - j) ∧ i = .int .i64 j ∧ Hid (∀ i, 1 ≤ i → i < j → specAt os i = true) ∧ wr.cell? ⟨w.heap.size, 0, none⟩ = some (.slice (some ⟨b, off, none⟩) 32 c) ∧ w.heap.size < wr.heap.size ∧ Hid (wr.rowIs hb0 3 32 (fun i => .int .i64 (cnt (flat os) i))) ∧ Below w.heap.size w wr)
          case atStart => exact ⟨1, by omega, by omega, by show _ = _; omega, rfl, fun i h0 hi => by omega, hx1, hz1, HROW.out, hbb⟩
          case round =>
            clear hx1 hbb hz1 HROW
            obtain ⟨j, hj1, hj, hk, rfl, hq, hx, hz, hrow, hb⟩ := hrel
            by_cases hlt : j < 32
            · obtain ⟨o, ka, kn, kc, ho, hsz, hd0, hd1, hd2, hd3, hks⟩ := hc j hlt
              have HO : Hid (kindOf os j = o.kind) := kindOf_at ho
              clear ho hc hd1 hd2 hd3 hks
              rw [← hb.cell (by simp; omega)] at hd0
              have hlt' : (j : Int) < 32 := by omega
              have hj0 : (0 : Int) ≤ (j : Int) := by omega
              have g0 := hrow.out.cell (i := j) hlt
              by_cases hlive : o.kind = 0
              · have t1 : (o.kind != 0) = false := by simpa using hlive
                have HV : Hid (o.kind = 0) := hlive
                clear hlive
                by_cases hcn : cnt (flat os) j = 0
                · have HC : Hid (cnt (flat os) j = 0) := hcn
                  rw [hcn] at g0
                  clear hcn
                  go_wp2_with fail
                  go_roundg (32 - (j + 1))
                  case measure => have := hk.out; omega
                  case rel =>
                    refine ⟨j + 1, by omega, by omega, rfl, by go_num, fun i h0 hi => ?_, hx, hz, hrow.out, hb⟩
                    by_cases e : i = j
                    · subst e
                      rw [specAt_none (by rw [HO.out]; exact HV.out), HC.out]
                      rfl
                    · exact hq.out i h0 (by omega)
                · have HC : Hid (cnt (flat os) j ≠ 0) := hcn
                  have t2 : ((cnt (flat os) j : Int) != 0) = true := by simpa using hcn
                  clear hcn
                  go_wp2_with fail
                  go_ret
                  exact ⟨ret_bool (specOk_at hj1 hlt (by rw [specAt_none (by rw [HO.out]; exact HV.out)]; simpa using HC.out)).symm, hb⟩
              · have t1 : (o.kind != 0) = true := by simpa using hlive
                have HV : Hid (o.kind ≠ 0) := hlive
                clear hlive
                by_cases hcn : cnt (flat os) j = 1
                · have HC : Hid (cnt (flat os) j = 1) := hcn
                  rw [hcn] at g0
                  clear hcn
                  go_wp2_with fail
                  refine (l1Top_any _ _ _ _ L U _ _ (by have := hb.size; omega) (H.below hb hU)).mono ?_
                  rintro x w2 ⟨rfl, hb2⟩
                  cases htp : topB os j
                  · have HT : Hid (topB os j = false) := htp
                    clear htp
                    go_wp2_with fail
                    go_ret
                    exact ⟨ret_bool (specOk_at hj1 hlt (by rw [specAt_live (by rw [HO.out]; exact HV.out), HT.out, Bool.and_false])).symm, hb.trans (hb2.mono hb.size)⟩
                  · have HT : Hid (topB os j = true) := htp
                    clear htp
                    go_wp2_with fail
                    go_roundg (32 - (j + 1))
                    case measure => have := hk.out; omega
                    case rel =>
                      refine ⟨j + 1, by omega, by omega, rfl, by go_num, fun i h0 hi => ?_, by rw [hb2.cell (by simpa using hz)]; exact hx, by have := hb2.size; omega, hrow.out.of_block (hb2.block _ hrow.out.lt), hb.trans (hb2.mono hb.size)⟩
                      by_cases e : i = j
                      · subst e
                        rw [specAt_live (by rw [HO.out]; exact HV.out), HT.out, HC.out]
                        rfl
                      · exact hq.out i h0 (by omega)
                · have HC : Hid (cnt (flat os) j ≠ 1) := hcn
                  have t2 : ((cnt (flat os) j : Int) != 1) = true := by simp; omega
                  clear hcn
                  go_wp2_with fail
                  go_ret
                  exact ⟨ret_bool (specOk_at hj1 hlt (by rw [specAt_live (by rw [HO.out]; exact HV.out)]; simp [HC.out])).symm, hb⟩
            · have hlt' : ¬ (j : Int) < 32 := by omega
              go_wp2_with fail
              go_ret
              exact ⟨ret_bool (specOk_yes HL.out (by rw [HO0.out]; exact HK0.out) HALL.out (fun i h0 hi => hq.out i h0 (by omega))).symm, hb⟩
    · have t0 : (o0.kind != 2) = true := by simpa using hk0
      have HK0 : Hid (o0.kind ≠ 2) := hk0
      clear hk0
      go_enter Tryz.func78, Tryz.ntmps78
      go_wp2_with fail
      go_ret
      exact ⟨ret_bool (specOk_top (by rw [HO0.out]; exact HK0.out)).symm, hB _⟩
  · have t0 : ((n : Int) != 32) = true := by simp; omega
    have HN : Hid (os.length ≠ 32) := by rw [← H.len]; exact hn
    clear hn
    go_enter Tryz.func78, Tryz.ntmps78
    go_wp2_with fail
    go_ret
    exact ⟨ret_bool (specOk_len HN.out).symm, hB _⟩
end Go.Proofs.YtloopeipheklpaaGreatDoor

/- The nodes of a layout, and what names say, as plain functions. -/
namespace Go.Proofs.YtloopeipheklpaaGreatDoor
open Go.RowKit

/-- What the first j nodes of a layout hold: the objects, with these homes and names. -/
def LayF (w : World) (L U : Nat) (os : List LObj) (f : Nat → Value) (j : Nat) (h : Nat → Int) (nm : Nat → ByteArray) : Prop :=
  ∀ i, i < j → ∃ o ka kn kc, os[i]? = some o ∧ f (i * 6) = .int .i64 o.kind ∧ f (i * 6 + 1) = .int .i64 o.ver ∧ f (i * 6 + 2) = .int .i64 (h i) ∧ f (i * 6 + 3) = .string (nm i) ∧ f (i * 6 + 4) = .string o.text ∧ f (i * 6 + 5) = .slice ka kn kc ∧ EntsAt w L U ka kn o.kids
def putNode (f : Nat → Value) (j : Nat) (v0 v1 v2 v3 v4 v5 : Value) : Nat → Value := fun i => if i = j * 6 + 5 then v5 else if i = j * 6 + 4 then v4 else if i = j * 6 + 3 then v3 else if i = j * 6 + 2 then v2 else if i = j * 6 + 1 then v1 else if i = j * 6 then v0 else f i
theorem rowIs_put {w : World} {b : Nat} {t : TypeId} {n : Nat} {f : Nat → Value} (h : w.rowIs b t n f) (j : Nat) (v0 v1 v2 v3 v4 v5 : Value) :
    ((((((w.setCell ⟨b, j * 6, none⟩ v0).setCell ⟨b, j * 6 + 1, none⟩ v1).setCell ⟨b, j * 6 + 2, none⟩ v2).setCell ⟨b, j * 6 + 3, none⟩ v3).setCell ⟨b, j * 6 + 4, none⟩ v4).setCell ⟨b, j * 6 + 5, none⟩ v5).rowIs b t n (putNode f j v0 v1 v2 v3 v4 v5) :=
  (((((h.set _ v0).set _ v1).set _ v2).set _ v3).set _ v4).set _ v5
theorem layF_put {w : World} {L U : Nat} {os : List LObj} {f : Nat → Value} {j : Nat} {h : Nat → Int} {nm : Nat → ByteArray} {o : LObj} {ka : Option Addr} {kn kc : Nat} (hf : LayF w L U os f j h nm) (ho : os[j]? = some o) (hk : EntsAt w L U ka kn o.kids) :
    LayF w L U os (putNode f j (.int .i64 o.kind) (.int .i64 o.ver) (.int .i64 (h j)) (.string (nm j)) (.string o.text) (.slice ka kn kc)) (j + 1) h nm := by
  intro i hi
  by_cases e : i = j
  · subst e
    refine ⟨o, ka, kn, kc, ho, ?_, ?_, ?_, ?_, ?_, ?_, hk⟩ <;> simp [putNode]
  · obtain ⟨o', ka', kn', kc', ho', q0, q1, q2, q3, q4, q5, hk'⟩ := hf i (by omega)
    refine ⟨o', ka', kn', kc', ho', ?_, ?_, ?_, ?_, ?_, ?_, hk'⟩ <;> unfold putNode <;> rw [if_neg (by omega), if_neg (by omega), if_neg (by omega), if_neg (by omega), if_neg (by omega), if_neg (by omega)] <;> assumption

theorem rowIs96 (w : World) : ∃ f, (w.alloc (.cells Tryz.zeroCells293 293)).rowIs w.heap.size 293 192 f := by
  refine ⟨fun i => Tryz.zeroCells293[i]?.getD default, ?_⟩
  have := World.rowIs_alloc w Tryz.zeroCells293 293 (fun i => Tryz.zeroCells293[i]?.getD default) (fun i hi => by rw [Array.getElem?_eq_getElem hi]; rfl)
  have e : Tryz.zeroCells293.size = 192 := by kernel_rfl
  rwa [e] at this


theorem homeIn_nonneg {p : List (Nat × LEnt)} {id : Int} (h : ¬ Off p id) : 0 ≤ homeIn p id := by
  unfold homeIn
  cases hf : p.find? (fun x => x.2.id == id) with
  | some x => simp
  | none =>
    exfalso
    apply h
    intro x hx
    have := List.find?_eq_none.1 hf x hx
    simpa using this
theorem off_iff {p : List (Nat × LEnt)} {id : Int} : homeIn p id = -1 ↔ Off p id := by
  constructor
  · intro h
    apply Classical.byContradiction
    intro hn
    have := homeIn_nonneg hn
    omega
  · exact homeIn_off
theorem find_snoc {p : List (Nat × LEnt)} {x : Nat × LEnt} {i : Int} (h : x.2.id = i → Off p i) : (p ++ [x]).find? (fun y => y.2.id == i) = if x.2.id = i then some x else p.find? (fun y => y.2.id == i) := by
  rw [List.find?_append]
  by_cases e : x.2.id = i
  · rw [find_off (h e)]
    simp [e]
  · have : (x.2.id == i) = false := by simpa using e
    simp [e, this]
theorem homeIn_snoc {p : List (Nat × LEnt)} {x : Nat × LEnt} (h : Off p x.2.id) (i : Int) : homeIn (p ++ [x]) i = if x.2.id = i then (x.1 : Int) else homeIn p i := by
  unfold homeIn
  rw [find_snoc (fun e => e ▸ h)]
  by_cases e : x.2.id = i <;> simp [e]
theorem nameIn_snoc {p : List (Nat × LEnt)} {x : Nat × LEnt} (h : Off p x.2.id) (i : Int) : nameIn (p ++ [x]) i = if x.2.id = i then x.2.name else nameIn p i := by
  unfold nameIn
  rw [find_snoc (fun e => e ▸ h)]
  by_cases e : x.2.id = i <;> simp [e]

/-- No number is named twice. -/
def Uniq (p : List (Nat × LEnt)) : Prop := ∀ pre x post, p = pre ++ x :: post → Off pre x.2.id
theorem uniq_nil : Uniq [] := fun pre x post h => by simp at h
theorem uniq_snoc {p : List (Nat × LEnt)} {x : Nat × LEnt} (h : Uniq p) (hx : Off p x.2.id) : Uniq (p ++ [x]) := by
  intro pre y post e
  rcases List.eq_nil_or_concat post with rfl | ⟨post', z, rfl⟩
  · have := List.append_inj' e rfl
    obtain ⟨rfl, e2⟩ := this
    simp at e2
    subst e2
    exact hx
  · rw [List.concat_eq_append] at e
    rw [show pre ++ y :: (post' ++ [z]) = (pre ++ y :: post') ++ [z] by simp] at e
    have := List.append_inj' e rfl
    exact h pre y post' this.1
/-- The names are of objects that are there, each once. -/
def Live (os : List LObj) (p : List (Nat × LEnt)) : Prop := ∀ x ∈ p, kindOf os x.2.id.toNat ≠ 0
theorem live_snoc {os : List LObj} {p : List (Nat × LEnt)} {x : Nat × LEnt} (h : Live os p) (hx : kindOf os x.2.id.toNat ≠ 0) : Live os (p ++ [x]) := by
  intro y hy
  rcases List.mem_append.1 hy with hy | hy
  · exact h y hy
  · simp at hy; subst hy; exact hx
def Named (os : List LObj) : Prop := Live os (flat os) ∧ Uniq (flat os) ∧ ∀ i : Nat, 1 ≤ i → i < 32 → kindOf os i ≠ 0 → ¬ Off (flat os) i
theorem flat_at {t : List LObj} {i k : Nat} {o : LObj} {e : LEnt} (ho : t[i]? = some o) (he : o.kids[k]? = some e) : ∃ r, flat t = (flat (t.take i) ++ tagged i (o.kids.take k)) ++ (i, e) :: r := by
  obtain ⟨r, hr⟩ := flat_split ho
  obtain ⟨r', hr'⟩ := tagged_split (d := i) he
  exact ⟨r' ++ r, by rw [hr, hr']; simp⟩
theorem named_no_live {t : List LObj} {i k : Nat} {o : LObj} {e : LEnt} (ho : t[i]? = some o) (he : o.kids[k]? = some e) (h : kindOf t e.id.toNat = 0) : ¬ Named t := by
  intro hn
  obtain ⟨r, hr⟩ := flat_at ho he
  exact hn.1 (i, e) (by rw [hr]; simp) h
theorem named_no_twice {t : List LObj} {i k : Nat} {o : LObj} {e : LEnt} (ho : t[i]? = some o) (he : o.kids[k]? = some e) (h : ¬ Off (flat (t.take i) ++ tagged i (o.kids.take k)) e.id) : ¬ Named t := by
  intro hn
  obtain ⟨r, hr⟩ := flat_at ho he
  exact h (hn.2.1 _ (i, e) r hr)
theorem layF_set {w : World} {L U : Nat} {os : List LObj} {f : Nat → Value} {h : Nat → Int} {nm : Nat → ByteArray} (hf : LayF w L U os f 32 h nm) (k : Nat) (x : Int) (s : ByteArray) :
    LayF w L U os (fun i => if i = k * 6 + 3 then .string s else if i = k * 6 + 2 then .int .i64 x else f i) 32 (fun i => if i = k then x else h i) (fun i => if i = k then s else nm i) := by
  intro i hi
  obtain ⟨o', ka', kn', kc', ho', q0, q1, q2, q3, q4, q5, hk'⟩ := hf i hi
  refine ⟨o', ka', kn', kc', ho', ?_, ?_, ?_, ?_, ?_, ?_, hk'⟩
  · dsimp only; rw [if_neg (by omega), if_neg (by omega)]; exact q0
  · dsimp only; rw [if_neg (by omega), if_neg (by omega)]; exact q1
  · by_cases e : i = k
    · subst e; simp
    · dsimp only; rw [if_neg (by omega), if_neg (by omega), if_neg e]; exact q2
  · by_cases e : i = k
    · subst e; simp
    · dsimp only; rw [if_neg (by omega), if_neg (by omega), if_neg e]; exact q3
  · dsimp only; rw [if_neg (by omega), if_neg (by omega)]; exact q4
  · dsimp only; rw [if_neg (by omega), if_neg (by omega)]; exact q5
theorem layF_congr {w : World} {L U : Nat} {os : List LObj} {f : Nat → Value} {h h' : Nat → Int} {nm nm' : Nat → ByteArray} (hf : LayF w L U os f 32 h nm) (e1 : ∀ i, i < 32 → h i = h' i) (e2 : ∀ i, i < 32 → nm i = nm' i) : LayF w L U os f 32 h' nm' := by
  intro i hi
  obtain ⟨o', ka', kn', kc', ho', q0, q1, q2, q3, q4, q5, hk'⟩ := hf i hi
  exact ⟨o', ka', kn', kc', ho', q0, q1, by rw [q2, e1 i hi], by rw [q3, e2 i hi], q4, q5, hk'⟩
end Go.Proofs.YtloopeipheklpaaGreatDoor
