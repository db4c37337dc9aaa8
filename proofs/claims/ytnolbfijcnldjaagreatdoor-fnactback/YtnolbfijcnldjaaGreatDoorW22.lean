/- Lemmas that the proofs of this seat share: ActOkB, ActOkC, ActCode, ActTurn, ActFit, FnActTurnW, AllA, BoxA. -/
import Derived.Test.YtnolbfijcnldjaaGreatDoorW21
import Derived.Test.YtnolbfijcnldjaaGreatDoorW19
import Derived.Test.YtnolbfijcnldjaaGreatDoorW16
import Derived.Test.YtnolbfijcnldjaaGreatDoorW20
import Derived.Deep.RegionWith
import Derived.RowKitTokens
import Derived.Test.YtnolbfijcnldjaaGreatDoorW13
/- What is done leaves a tree, second part: coming to the top, and the four kinds. -/
namespace Go.Proofs.YtnolbfijcnldjaaGreatDoor

/-- From here one comes to the top. -/
inductive Up (t : List LObj) : Int → Prop
  | top : Up t 0
  | step {i : Int} (h : 0 < i) (u : Up t (homeIn (flat t) i)) : Up t i
theorem Up.climb {t : List LObj} {i : Int} (h : Up t i) : ∃ m, climb t m i = 0 := by
  induction h with
  | top => exact ⟨0, rfl⟩
  | step h _ ih => obtain ⟨m, hm⟩ := ih; exact ⟨m + 1, by rw [climb_step t m h]; exact hm⟩
theorem up_of {t : List LObj} : ∀ (m : Nat) {i : Int}, Go.Proofs.YtnolbfijcnldjaaGreatDoor.climb t m i = 0 → Up t i
  | 0, i, h => by
    have : i = 0 := h
    subst this; exact .top
  | m + 1, i, h => by
    by_cases h0 : 0 < i
    · rw [climb_step t m h0] at h; exact .step h0 (up_of m h)
    · rw [climb_stop t (m + 1) h0] at h; subst h; exact .top
theorem specOk_of {t : List LObj} (h0 : t.length = 32) (h1 : kindOf t 0 = 2) (h2 : ∀ (i : Nat) o, t[i]? = some o → objB o = true)
    (hc : ∀ i : Nat, 1 ≤ i → i < 32 → cnt (flat t) i = if kindOf t i = 0 then 0 else 1)
    (hu : ∀ i : Nat, 1 ≤ i → i < 32 → kindOf t i ≠ 0 → Up t i) : specOk t = true := by
  have hids := ids_of_ok h2
  have hlive : Live t (flat t) := fun x hx => by
    obtain ⟨k, e, k1, k2⟩ := flat_ids hids hx
    rw [e, Int.toNat_natCast]
    intro hk
    have := hc k k1 k2
    rw [if_pos hk] at this
    exact cnt_zero.1 this x hx e
  have hn : Named t := ⟨hlive, uniq_cnt (fun x hx => by
      obtain ⟨k, e, k1, k2⟩ := flat_ids hids hx
      have hl := hlive x hx
      rw [e, Int.toNat_natCast] at hl
      rw [e, hc k k1 k2, if_neg hl]
      exact Nat.le_refl _), fun i h0 hi hk ho => by
        have := hc i h0 hi
        rw [cnt_zero.2 ho, if_neg hk] at this
        cases this⟩
  refine (specOk_iff t).2 ⟨h0, h2, h1, hn, fun i hi hk => ?_⟩
  by_cases hz : i = 0
  · subst hz; exact climb_stop t 31 (by simp)
  obtain ⟨m, hm⟩ := (hu i (by omega) hi hk).climb
  apply Classical.byContradiction
  intro h31
  have hd : ∀ k, climb t k i = ((climb t k i).toNat : Nat) ∧ (climb t k i).toNat < 32 := fun k => by
    obtain ⟨d, h1, h2, _⟩ := climb_in h0 h2 hn hi hk k
    rw [h1]; simpa using h2
  have hnz : ∀ k, k ≤ 31 → climb t k i ≠ 0 := fun k hk e => h31 (climb_zero e 31 hk)
  obtain ⟨a, b, k1, k2, k3⟩ := pigeon 31 (fun k => (climb t k i).toNat) (fun k hk => by
    have q1 := hd k
    have q2 := hnz k hk
    omega)
  have e : climb t a i = climb t b i := by rw [(hd a).1, (hd b).1]; rw [k3]
  have key : ∀ m, climb t m i ≠ 0 := by
    intro m
    induction m using Nat.strongRecOn with
    | _ m ih =>
      intro hm
      by_cases hb : m ≤ 31
      · exact hnz m hb hm
      · have h4 := climb_add t (m - b) b i
        rw [show b + (m - b) = m by omega, hm, ← e, ← climb_add] at h4
        exact ih (a + (m - b)) (by omega) h4.symm
  exact key m hm
theorem home_of {t : List LObj} {d : Nat} {e : LEnt} (h : (d, e) ∈ flat t) (hc : cnt (flat t) e.id ≤ 1) : homeIn (flat t) e.id = d := by
  have hno : ¬ Off (flat t) e.id := fun ho => ho _ h rfl
  obtain ⟨pre, x, post, h1, h2, h3⟩ := split_first hno
  rw [h1, homeIn_at h2 h3]
  rw [h1] at h hc
  rcases List.mem_append.1 h with h | h
  · exact absurd rfl (h2 _ h)
  · rcases List.mem_cons.1 h with h | h
    · rw [← h]
    · have hp : 0 < cnt post e.id := List.countP_pos_iff.2 ⟨_, h, by simp⟩
      rw [cnt_append] at hc
      have : cnt (x :: post) e.id = cnt post e.id + 1 := by
        unfold cnt
        rw [List.countP_cons, if_pos (by simp [h3])]
      omega
theorem home_memE {t : List LObj} {i : Int} (h : ¬ Off (flat t) i) : ∃ (d : Nat) (e : LEnt), (d, e) ∈ flat t ∧ e.id = i ∧ homeIn (flat t) i = d := by
  obtain ⟨pre, x, post, h1, h2, h3⟩ := split_first h
  exact ⟨x.1, x.2, by rw [h1]; simp, h3, by rw [h1, homeIn_at h2 h3]⟩
theorem ok_cnt {t : List LObj} (hs : specOk t = true) {i : Nat} (h1 : 1 ≤ i) (h2 : i < 32) : cnt (flat t) i = if kindOf t i = 0 then 0 else 1 := by
  have h := hs
  simp [specOk] at h
  have h3 := h.2 (i - 1) (by omega)
  rw [show i - 1 + 1 = i by omega] at h3
  by_cases hk : kindOf t i = 0
  · rw [specAt_none hk] at h3; rw [if_pos hk]; simpa using h3
  · rw [specAt_live hk] at h3; rw [if_neg hk]; simp at h3; exact h3.1
theorem ok_top {t : List LObj} (hs : specOk t = true) : kindOf t 0 = 2 := by
  simp [specOk] at hs; exact hs.1.1.2
theorem ok_up {t : List LObj} (hs : specOk t = true) {i : Nat} (h2 : i < 32) (hk : kindOf t i ≠ 0) : Up t i :=
  up_of 31 (((specOk_iff t).1 hs).2.2.2.2 i h2 hk)
/-- Where what is there is named. -/
theorem ok_home {t : List LObj} (hs : specOk t = true) {i : Nat} (h1 : 1 ≤ i) (h2 : i < 32) (hk : kindOf t i ≠ 0) : ∃ (d : Nat) (e : LEnt), (d, e) ∈ flat t ∧ e.id = i ∧ homeIn (flat t) i = d ∧ d < 32 ∧ kindOf t d = 2 := by
  have hno : ¬ Off (flat t) i := fun ho => by
    have := ok_cnt hs h1 h2
    rw [cnt_zero.2 ho, if_neg hk] at this
    cases this
  obtain ⟨d, e, m1, m2, m3⟩ := home_memE hno
  obtain ⟨o, m4, m5⟩ := mem_flatE.1 m1
  have hd : d < 32 := by have := (List.getElem?_eq_some_iff.1 m4).1; have := ok_len hs; omega
  have := (kids_dir (ok_obj hs m4) (by intro h; rw [h] at m5; simp at m5)).1
  exact ⟨d, e, m1, m2, m3, hd, by rw [kindOf_at m4]; exact this⟩
theorem up_keep {t t' : List LObj} (S : Nat → Prop) (hS : ∀ j, S j → 1 ≤ j → ∃ d : Nat, homeIn (flat t) j = d ∧ homeIn (flat t') j = d ∧ S d) {i : Int} (h : Up t i) : ∀ j : Nat, i = j → S j → Up t' i := by
  induction h with
  | top => intro _ _ _; exact .top
  | @step i h u ih =>
    intro j hj hs
    obtain ⟨d, h1, h2, h3⟩ := hS j hs (by omega)
    refine .step h ?_
    rw [hj, h2]
    have := ih d (by rw [hj, h1]) h3
    rw [hj, h1] at this
    exact this
/-- All objects are ok. -/
def AllOb (t : List LObj) : Prop := ∀ (i : Nat) o, t[i]? = some o → objB o = true
theorem AllOb.set {t : List LObj} (h : AllOb t) {o' : LObj} (ho : objB o' = true) (k : Nat) : AllOb (t.set k o') := by
  intro i o hi
  rw [List.getElem?_set] at hi
  split at hi
  · split at hi
    · cases hi; exact ho
    · cases hi
  · exact h i o hi
theorem kindOf_set {t : List LObj} {k : Nat} (o' : LObj) (hk : k < t.length) (i : Nat) : kindOf (t.set k o') i = if i = k then o'.kind else kindOf t i := by
  unfold kindOf
  rw [List.getElem?_set]
  by_cases h : k = i
  · rw [if_pos h, if_pos (h ▸ hk), if_pos h.symm]
  · rw [if_neg h, if_neg (Ne.symm h)]
theorem kindOf_same {t : List LObj} {k : Nat} {o : LObj} (h : t[k]? = some o) {o' : LObj} (hk : o'.kind = o.kind) (i : Nat) : kindOf (t.set k o') i = kindOf t i := by
  rw [kindOf_set o' (List.getElem?_eq_some_iff.1 h).1]
  split
  · next e => rw [e, kindOf_at h, hk]
  · rfl
theorem dir_parts {o : LObj} (h : objB o = true) (hk : o.kind = 2) : 1 ≤ o.ver ∧ o.ver ≤ 1000000 ∧ emp o.text = true ∧ kidsB o.kids = true := by
  simp [objB, verB, partsB, hk] at h
  exact ⟨h.1.1, h.1.2, h.2.1, h.2.2⟩
theorem dir_ok {o : LObj} (hk : o.kind = 2) (h1 : 1 ≤ o.ver) (h2 : o.ver ≤ 1000000) (h3 : emp o.text = true) (h4 : kidsB o.kids = true) : objB o = true := by
  simp [objB, verB, partsB, hk, h1, h2, h3, h4]
theorem file_parts {o : LObj} (h : objB o = true) (hk : o.kind = 1) : 1 ≤ o.ver ∧ o.ver ≤ 1000000 ∧ o.kids = [] := by
  simp [objB, verB, partsB, hk, nil?] at h
  exact ⟨h.1.1, h.1.2, h.2.2⟩
theorem none_kids {o : LObj} (h : objB o = true) (hk : o.kind ≠ 2) : o.kids = [] := by
  apply Classical.byContradiction
  intro hn
  exact hk (kids_dir h hn).1
theorem obj_ver {o : LObj} (h : objB o = true) : 0 ≤ o.ver := by
  simp [objB, verB] at h
  have := h.1.1
  split at this <;> omega
theorem turn_ob {o : LObj} (h : objB o = true) (hv : o.ver < 1000000) : objB { o with ver := o.ver + 1 } = true := by
  have h0 := obj_ver h
  simp only [objB, verB, Bool.and_eq_true, decide_eq_true_eq] at h ⊢
  refine ⟨⟨?_, by omega⟩, ?_⟩
  · have := h.1.1
    split at this <;> split <;> omega
  · have := h.2
    unfold partsB at this ⊢
    exact this
/-- Something that is named was not turned as often as can be. -/
theorem worn_no {os : List LObj} {l : List Nat} (h : wornB os l = false) {i : Nat} (hi : i ∈ l) {o : LObj} (ho : os[i]? = some o) : o.ver < 1000000 := by
  unfold wornB at h
  rw [List.any_eq_false] at h
  have := h i hi
  unfold oldB at this
  rw [ho] at this
  simpa using this
theorem find_name {es : List LEnt} {name : ByteArray} {i : Int} (h : findV es name = i) (hi : 0 < i) : ∃ e ∈ es, e.name = name ∧ e.id = i := by
  rcases findV_or es name with ⟨h1, _⟩ | ⟨k, e, h1, h2, h3⟩
  · omega
  · exact ⟨e, List.mem_of_getElem? h1, h2, by omega⟩
theorem find_no {es : List LEnt} {name : ByteArray} (h : ¬ 0 ≤ findV es name) (hp : ∀ e ∈ es, 0 < e.id) : ∀ e ∈ es, e.name ≠ name := by
  rcases findV_or es name with ⟨_, h2⟩ | ⟨k, e, h1, h2, h3⟩
  · exact h2
  · have := hp e (List.mem_of_getElem? h1); omega
end Go.Proofs.YtnolbfijcnldjaaGreatDoor

/- What is done leaves a tree, third part: the four kinds. -/
namespace Go.Proofs.YtnolbfijcnldjaaGreatDoor

theorem id_in {o : LOp} (hk : opOk o = true) : o.id.toNat ∈ opIds o := by
  have h1 : o.id.toNat ∈ opIds1 o := by
    unfold opIds1
    split
    · simp
    · rw [mem_putI]; simp
  unfold opIds
  rw [if_pos hk]
  split
  · rw [mem_putI]; exact .inr h1
  · exact h1
theorem dir_in {o : LOp} (hk : opOk o = true) (h5 : o.kind ≠ 5) : o.dir.toNat ∈ opIds o := by
  have h1 : o.dir.toNat ∈ opIds1 o := by
    unfold opIds1
    rw [if_neg h5, mem_putI]; simp
  unfold opIds
  rw [if_pos hk]
  split
  · rw [mem_putI]; exact .inr h1
  · exact h1
theorem dir2_in {o : LOp} (hk : opOk o = true) (h4 : o.kind = 4) : o.dir2.toNat ∈ opIds o := by
  unfold opIds
  rw [if_pos hk, if_pos h4, mem_putI]
  simp
theorem op_word {o : LOp} (hk : opOk o = true) (h5 : o.kind ≠ 5) : word o.name.data.toList = true := by
  unfold opOk at hk
  split at hk
  · simp [opSlot] at hk; exact hk.1.1.2.2
  · split at hk
    · simp [opSlot] at hk; exact hk.1.1.2.2
    · simp at hk
theorem op_word2 {o : LOp} (hk : opOk o = true) (h4 : o.kind = 4) : word o.name2.data.toList = true := by
  unfold opOk at hk
  rw [if_neg (by omega), if_pos h4] at hk
  simp [opSlot2] at hk; exact hk.1.2.2
theorem op_body {o : LOp} (hk : opOk o = true) (h1 : ¬ (o.kind = 1 ∨ o.kind = 2)) (h3 : o.kind ≠ 3) (h4 : o.kind ≠ 4) : body o.text.data.toList = true := by
  unfold opOk at hk
  rw [if_neg (by omega), if_neg h4] at hk
  split at hk
  · simp at hk; exact hk.2
  · cases hk
theorem at_ {os : List LObj} {i : Int} (hl : os.length = 32) (h0 : 0 ≤ i) (h1 : i < 32) : ∃ o, os[i.toNat]? = some o := ⟨_, List.getElem?_eq_getElem (by omega)⟩
theorem ents_pos {os : List LObj} (hs : specOk os = true) {i : Nat} {o : LObj} (ho : os[i]? = some o) : ∀ e ∈ o.kids, 0 < e.id := fun _ he => (ok_ent hs ho he).1

theorem emp_nil : emp ⟨#[]⟩ = true := by unfold emp; rw [Go.ByteArray.toList_eq]; rfl
theorem new_ok {os : List LObj} {o : LOp} (hs : specOk os = true) (hk : opOk o = true) (hw : wornB os (opIds o) = false) (hkind : o.kind = 1 ∨ o.kind = 2) (hf : (actNew os o).2 = 0) : specOk (actNew os o).1 = true := by
  obtain ⟨i1, i2⟩ := opOk_id hk
  obtain ⟨d1, d2⟩ := opOk_dir hk
  have hl := ok_len hs
  have hDin := dir_in hk (by omega)
  have hwd := op_word hk (by omega)
  obtain ⟨d, hd⟩ := at_ (os := os) hl d1 d2
  obtain ⟨x, hx⟩ := at_ (os := os) hl (by omega) i2
  have hdv := worn_no hw hDin hd
  obtain ⟨I, hI⟩ : ∃ I : Nat, o.id.toNat = I := ⟨_, rfl⟩
  obtain ⟨D, hD⟩ : ∃ D : Nat, o.dir.toNat = D := ⟨_, rfl⟩
  unfold actNew at hf ⊢
  rw [hI] at hx
  rw [hD] at hd
  simp only [hI, hD, hd, hx] at hf ⊢
  have hid : o.id = (I : Int) := by omega
  by_cases g1 : d.kind ≠ 2
  · rw [if_pos g1] at hf; simp at hf
  by_cases g2 : 0 ≤ findV d.kids o.name
  · rw [if_neg g1, if_pos g2] at hf; simp at hf
  by_cases g3 : x.kind ≠ 0 ∨ 0 < x.ver
  · rw [if_neg g1, if_neg g2, if_pos g3] at hf; simp at hf
  rw [if_neg g1, if_neg g2, if_neg g3]
  clear hf
  have g1 : d.kind = 2 := by simpa using g1
  have g3 : x.kind = 0 := by omega
  have hne : D ≠ I := by
    rintro rfl
    rw [hd] at hx; cases hx; omega
  have hIl : I < os.length := by omega
  have hxk : x.kids = [] := none_kids (ok_obj hs hx) (by omega)
  obtain ⟨N, hN⟩ : ∃ N : LObj, N = ⟨if o.kind = 2 then 2 else 1, 1, ⟨#[]⟩, []⟩ := ⟨_, rfl⟩
  have hNk : N.kind ≠ 0 := by rw [hN]; dsimp only; split <;> omega
  have hNe : N.kids = [] := by rw [hN]
  have hNo : objB N = true := by
    rw [hN]
    rcases hkind with h | h
    · rw [h]; decide
    · rw [h, if_pos rfl]
      exact dir_ok rfl (by decide) (by decide) emp_nil rfl
  rw [← hN]
  have hd1 : (os.set I N)[D]? = some d := by rw [List.getElem?_set_ne (Ne.symm hne)]; exact hd
  obtain ⟨q1, q2, q3, q4⟩ := dir_parts (ok_obj hs hd) g1
  have hnm := find_no g2 (ents_pos hs hd)
  have hdo : objB { d with kids := putL ⟨o.name, o.id⟩ d.kids, ver := d.ver + 1 } = true :=
    dir_ok g1 (by show 1 ≤ d.ver + 1; omega) (by show d.ver + 1 ≤ _; omega) q3 (kidsB_put q4 (entB_yes hwd (by show 0 < o.id; omega) i2) hnm)
  obtain ⟨M, hM⟩ : ∃ M : LObj, M = { d with kids := putL ⟨o.name, o.id⟩ d.kids, ver := d.ver + 1 } := ⟨_, rfl⟩
  rw [← hM] at hdo ⊢
  have hMk : M.kind = d.kind := by rw [hM]
  have hMe : M.kids = putL ⟨o.name, o.id⟩ d.kids := by rw [hM]
  have hkd : ∀ i, kindOf ((os.set I N).set D M) i = if i = I then N.kind else kindOf os i := fun i => by
    rw [kindOf_same hd1 hMk, kindOf_set N hIl]
  have hct : ∀ i : Int, cnt (flat ((os.set I N).set D M)) i = cnt (flat os) i + (if (I : Int) = i then 1 else 0) := fun i => by
    have h1 := cnt_set hd1 M i
    have h2 := cnt_set hx N i
    rw [hxk, hNe] at h2
    rw [hMe, cntE_put] at h1
    simp only [hid] at h1
    omega
  have hm : ∀ a e, (a, e) ∈ flat os → (a, e) ∈ flat ((os.set I N).set D M) := by
    intro a e h
    obtain ⟨oo, p1, p2⟩ := mem_flatE.1 h
    rw [mem_flatE]
    by_cases ha : a = D
    · subst ha
      rw [hd] at p1; cases p1
      exact ⟨M, by rw [List.getElem?_set_self (by simp; omega)], by rw [hMe, mem_put]; exact .inr p2⟩
    · by_cases hb : a = I
      · subst hb
        rw [hx] at p1; cases p1
        rw [hxk] at p2; simp at p2
      · exact ⟨oo, by rw [List.getElem?_set_ne (Ne.symm ha), List.getElem?_set_ne (Ne.symm hb)]; exact p1, p2⟩
  have mi : (D, (⟨o.name, (I : Int)⟩ : LEnt)) ∈ flat ((os.set I N).set D M) := by
    rw [mem_flatE]
    exact ⟨M, by rw [List.getElem?_set_self (by simp; omega)], by rw [hMe, mem_put, hid]; exact .inl rfl⟩
  have hcn : ∀ i : Nat, 1 ≤ i → i < 32 → cnt (flat ((os.set I N).set D M)) i = if kindOf ((os.set I N).set D M) i = 0 then 0 else 1 := fun i h1 h2 => by
    rw [hct, hkd, ok_cnt hs h1 h2]
    by_cases e : i = I
    · subst e
      rw [if_pos (by rw [kindOf_at hx]; exact g3), if_pos rfl, if_pos rfl, if_neg hNk]
    · rw [if_neg (show ¬ ((I : Int) = i) by omega), if_neg e, Nat.add_zero]
  have hone : ∀ j : Nat, 1 ≤ j → j < 32 → cnt (flat ((os.set I N).set D M)) j ≤ 1 := fun j h1 h2 => by
    rw [hcn j h1 h2]; split <;> omega
  have keep : ∀ j : Nat, j < 32 ∧ kindOf os j ≠ 0 → Up ((os.set I N).set D M) j := fun j hj =>
    up_keep (fun j => j < 32 ∧ kindOf os j ≠ 0) (fun j hj h1 => by
      obtain ⟨a, e, m1, m2, m3, m4, m5⟩ := ok_home hs h1 hj.1 hj.2
      exact ⟨a, m3, by have := home_of (hm _ _ m1) (by rw [m2]; exact hone j h1 hj.1); rw [m2] at this; exact this, m4, by omega⟩) (ok_up hs hj.1 hj.2) j rfl hj
  refine specOk_of (by simp [hl]) ?_ (AllOb.set (AllOb.set (fun i o h => ok_obj hs h) hNo I) hdo D) hcn fun i h1 h2 hk => ?_
  · rw [hkd, if_neg (by omega)]; exact ok_top hs
  · by_cases e : i = I
    · subst e
      refine .step (by omega) ?_
      have := home_of mi (hone i h1 h2)
      rw [show ((⟨o.name, (i : Int)⟩ : LEnt)).id = (i : Int) from rfl] at this
      rw [this]
      exact keep D ⟨by omega, by rw [kindOf_at hd]; omega⟩
    · rw [hkd, if_neg e] at hk
      exact keep i ⟨h2, hk⟩

theorem gone_ok {os : List LObj} {o : LOp} (hs : specOk os = true) (hk : opOk o = true) (hw : wornB os (opIds o) = false) (hkind : o.kind = 3) (hf : (actGone os o).2 = 0) : specOk (actGone os o).1 = true := by
  obtain ⟨i1, i2⟩ := opOk_id hk
  obtain ⟨d1, d2⟩ := opOk_dir hk
  have hl := ok_len hs
  have hDin := dir_in hk (by omega)
  have hIin := id_in hk
  obtain ⟨d, hd⟩ := at_ (os := os) hl d1 d2
  obtain ⟨x, hx⟩ := at_ (os := os) hl (by omega) i2
  have hdv := worn_no hw hDin hd
  have hxv := worn_no hw hIin hx
  obtain ⟨I, hI⟩ : ∃ I : Nat, o.id.toNat = I := ⟨_, rfl⟩
  obtain ⟨D, hD⟩ : ∃ D : Nat, o.dir.toNat = D := ⟨_, rfl⟩
  unfold actGone at hf ⊢
  rw [hI] at hx
  rw [hD] at hd
  simp only [hI, hD, hd, hx] at hf ⊢
  have hid : o.id = (I : Int) := by omega
  by_cases g1 : d.kind ≠ 2
  · rw [if_pos g1] at hf; simp at hf
  by_cases g2 : findV d.kids o.name ≠ o.id
  · rw [if_neg g1, if_pos g2] at hf; simp at hf
  by_cases g3 : 0 < x.kids.length
  · rw [if_neg g1, if_neg g2, if_pos g3] at hf; simp at hf
  rw [if_neg g1, if_neg g2, if_neg g3]
  clear hf
  have g1 : d.kind = 2 := by simpa using g1
  have g2 : findV d.kids o.name = o.id := by simpa using g2
  have hxk : x.kids = [] := List.eq_nil_of_length_eq_zero (by omega)
  obtain ⟨e0, m0, n0, k0⟩ := find_name g2 (by omega)
  have hne : D ≠ I := by
    rintro rfl
    rw [hd] at hx; cases hx
    rw [hxk] at m0; simp at m0
  have hIl : I < os.length := by omega
  obtain ⟨q1, q2, q3, q4⟩ := dir_parts (ok_obj hs hd) g1
  have hdo : objB { d with kids := outL o.name d.kids, ver := d.ver + 1 } = true :=
    dir_ok g1 (by show 1 ≤ d.ver + 1; omega) (by show d.ver + 1 ≤ _; omega) q3 (kidsB_out q4 _)
  obtain ⟨M, hM⟩ : ∃ M : LObj, M = { d with kids := outL o.name d.kids, ver := d.ver + 1 } := ⟨_, rfl⟩
  rw [← hM] at hdo ⊢
  have hMk : M.kind = d.kind := by rw [hM]
  have hMe : M.kids = outL o.name d.kids := by rw [hM]
  have hxv0 := obj_ver (ok_obj hs hx)
  obtain ⟨N, hN⟩ : ∃ N : LObj, N = ⟨0, x.ver + 1, ⟨#[]⟩, []⟩ := ⟨_, rfl⟩
  have hNk : N.kind = 0 := by rw [hN]
  have hNe : N.kids = [] := by rw [hN]
  have hNo : objB N = true := by
    rw [hN]
    have h1 : verB 0 (x.ver + 1) = true := by simp [verB]; omega
    have h2 : partsB ⟨0, x.ver + 1, ⟨#[]⟩, []⟩ = true := by unfold partsB; rw [if_pos rfl, emp_nil]; rfl
    unfold objB
    rw [h2, h1]
    rfl
  rw [← hN]
  have hx1 : (os.set D M)[I]? = some x := by rw [List.getElem?_set_ne hne]; exact hx
  have hkd : ∀ i, kindOf ((os.set D M).set I N) i = if i = I then 0 else kindOf os i := fun i => by
    rw [kindOf_set N (by simp; omega), hNk, kindOf_same hd hMk]
  have hct : ∀ i : Int, cnt (flat ((os.set D M).set I N)) i + (if (I : Int) = i then 1 else 0) = cnt (flat os) i := fun i => by
    have h1 := cnt_set hx1 N i
    have h2 := cnt_set hd M i
    have h3 := cntE_out (ok_asc hs hd) m0 i
    rw [n0, k0, hid] at h3
    rw [hxk, hNe] at h1
    rw [hMe] at h2
    omega
  have hm : ∀ a e, (a, e) ∈ flat os → e.id ≠ (I : Int) → (a, e) ∈ flat ((os.set D M).set I N) := by
    intro a e h hei
    obtain ⟨oo, p1, p2⟩ := mem_flatE.1 h
    rw [mem_flatE]
    by_cases hb : a = I
    · subst hb
      rw [hx] at p1; cases p1
      rw [hxk] at p2; simp at p2
    · by_cases ha : a = D
      · subst ha
        rw [hd] at p1; cases p1
        refine ⟨M, by rw [List.getElem?_set_ne (Ne.symm hb), List.getElem?_set_self (by omega)], ?_⟩
        rw [hMe, mem_out]
        refine ⟨p2, fun hn => hei ?_⟩
        rw [asc_one (ok_asc hs hd) p2 m0 (by rw [hn, n0]), k0, hid]
      · exact ⟨oo, by rw [List.getElem?_set_ne (Ne.symm hb), List.getElem?_set_ne (Ne.symm ha)]; exact p1, p2⟩
  have hcn : ∀ i : Nat, 1 ≤ i → i < 32 → cnt (flat ((os.set D M).set I N)) i = if kindOf ((os.set D M).set I N) i = 0 then 0 else 1 := fun i h1 h2 => by
    have h3 := hct i
    rw [ok_cnt hs h1 h2] at h3
    rw [hkd]
    by_cases e : i = I
    · subst e
      rw [if_pos rfl] at h3
      rw [if_pos (show (if i = i then (0 : Int) else kindOf os i) = 0 from if_pos rfl)]
      split at h3 <;> omega
    · rw [if_neg (by omega)] at h3
      rw [if_neg e]
      exact h3
  have hone : ∀ j : Nat, 1 ≤ j → j < 32 → cnt (flat ((os.set D M).set I N)) j ≤ 1 := fun j h1 h2 => by
    rw [hcn j h1 h2]; split <;> omega
  have keep : ∀ j : Nat, j < 32 ∧ kindOf os j ≠ 0 ∧ j ≠ I → Up ((os.set D M).set I N) j := fun j hj =>
    up_keep (fun j => j < 32 ∧ kindOf os j ≠ 0 ∧ j ≠ I) (fun j hj h1 => by
      obtain ⟨a, e, m1, m2, m3, m4, m5⟩ := ok_home hs h1 hj.1 hj.2.1
      refine ⟨a, m3, by have := home_of (hm _ _ m1 (by rw [m2]; omega)) (by rw [m2]; exact hone j h1 hj.1); rw [m2] at this; exact this, m4, by omega, ?_⟩
      rintro rfl
      obtain ⟨oo, p1, p2⟩ := mem_flatE.1 m1
      rw [hx] at p1; cases p1
      rw [hxk] at p2; simp at p2) (ok_up hs hj.1 hj.2.1) j rfl hj
  refine specOk_of (by simp [hl]) ?_ (AllOb.set (AllOb.set (fun i o h => ok_obj hs h) hdo D) hNo I) hcn fun i h1 h2 hk => ?_
  · rw [hkd, if_neg (by omega)]; exact ok_top hs
  · rw [hkd] at hk
    by_cases e : i = I
    · rw [if_pos e] at hk; exact absurd rfl hk
    · rw [if_neg e] at hk
      exact keep i ⟨h2, hk, e⟩

theorem Up.congr {t t' : List LObj} (hf : flat t' = flat t) {i : Int} (h : Up t i) : Up t' i := by
  induction h with
  | top => exact .top
  | step h _ ih => exact .step h (by rw [hf]; exact ih)
theorem ok_like {t t' : List LObj} (hs : specOk t = true) (hl : t'.length = t.length) (hk : ∀ i, kindOf t' i = kindOf t i) (hf : flat t' = flat t) (ho : AllOb t') : specOk t' = true :=
  specOk_of (by rw [hl]; exact ok_len hs) (by rw [hk]; exact ok_top hs) ho (fun i h1 h2 => by rw [hf, hk]; exact ok_cnt hs h1 h2) (fun i _ h2 h3 => (ok_up hs h2 (by rw [← hk]; exact h3)).congr hf)
theorem text_ok {os : List LObj} {o : LOp} (hs : specOk os = true) (hk : opOk o = true) (hw : wornB os (opIds o) = false) (hb : body o.text.data.toList = true) (hf : (actText os o).2 = 0) : specOk (actText os o).1 = true := by
  obtain ⟨i1, i2⟩ := opOk_id hk
  have hl := ok_len hs
  obtain ⟨x, hx⟩ := at_ (os := os) hl (by omega) i2
  have hxv := worn_no hw (id_in hk) hx
  unfold actText at hf ⊢
  simp only [hx] at hf ⊢
  by_cases g1 : x.kind ≠ 1
  · rw [if_pos g1] at hf; simp at hf
  rw [if_neg g1]
  have g1 : x.kind = 1 := by simpa using g1
  obtain ⟨v1, v2, v3⟩ := file_parts (ok_obj hs hx) g1
  refine ok_like hs (by simp) (kindOf_same hx rfl) (flat_same hx _ rfl) (AllOb.set (fun i o h => ok_obj hs h) ?_ _)
  have h1 : verB 1 (x.ver + 1) = true := by simp [verB]; omega
  unfold objB partsB
  simp [g1, h1, hb, v3, nil?]
theorem turnL_flat (t : List LObj) (i : Nat) : flat (turnL t i) = flat t := by
  unfold turnL
  split
  · next o h => exact flat_same h _ rfl
  · rfl
theorem turnL_kind (t : List LObj) (i j : Nat) : kindOf (turnL t i) j = kindOf t j := by
  unfold turnL
  split
  · next o h => exact kindOf_same h (o' := { o with ver := o.ver + 1 }) rfl j
  · rfl
theorem turnL_ob {t : List LObj} (h : AllOb t) {i : Nat} (hv : ∀ o, t[i]? = some o → o.ver < 1000000) : AllOb (turnL t i) := by
  unfold turnL
  split
  · next o ho => exact h.set (turn_ob (h i o ho) (hv o ho)) i
  · exact h
theorem turnL_ne (t : List LObj) {i j : Nat} (h : i ≠ j) : (turnL t i)[j]? = t[j]? := by
  unfold turnL
  split
  · rw [List.getElem?_set_ne h]
  · rfl
theorem kidsL_get {t : List LObj} (i : Nat) (f : List LEnt → List LEnt) {j : Nat} {o : LObj} (h : t[j]? = some o) : (kidsL t i f)[j]? = some (if j = i then { o with kids := f o.kids } else o) := by
  unfold kidsL
  by_cases e : j = i
  · subst e
    simp only [h]
    rw [if_pos trivial, List.getElem?_set_self (List.getElem?_eq_some_iff.1 h).1]
  · rw [if_neg e]
    split
    · rw [List.getElem?_set_ne (Ne.symm e)]; exact h
    · exact h
theorem kidsL_cnt {t : List LObj} {i : Nat} (f : List LEnt → List LEnt) {o : LObj} (h : t[i]? = some o) (c : Int) : cnt (flat (kidsL t i f)) c + cntE o.kids c = cnt (flat t) c + cntE (f o.kids) c := by
  unfold kidsL
  simp only [h]
  exact cnt_set h _ c
theorem kidsL_kind (t : List LObj) (i : Nat) (f : List LEnt → List LEnt) (j : Nat) : kindOf (kidsL t i f) j = kindOf t j := by
  unfold kidsL
  split
  · next o h => exact kindOf_same h (o' := { o with kids := f o.kids }) rfl j
  · rfl
theorem kidsL_ob {t : List LObj} (ha : AllOb t) {i : Nat} {f : List LEnt → List LEnt} {o : LObj} (h : t[i]? = some o) (hk : o.kind = 2) (hf : kidsB (f o.kids) = true) : AllOb (kidsL t i f) := by
  unfold kidsL
  simp only [h]
  obtain ⟨q1, q2, q3, q4⟩ := dir_parts (ha i o h) hk
  exact ha.set (dir_ok (o := { o with kids := f o.kids }) hk q1 q2 q3 hf) i
theorem move_ok {os : List LObj} {o : LOp} (hs : specOk os = true) (hk : opOk o = true) (hw : wornB os (opIds o) = false) (hkind : o.kind = 4) (hf : (actMove os o).2 = 0) : specOk (actMove os o).1 = true := by
  obtain ⟨i1, i2⟩ := opOk_id hk
  obtain ⟨d1, d2⟩ := opOk_dir hk
  obtain ⟨b1, b2⟩ := opOk_dir2 hk
  have hl := ok_len hs
  have hDin := dir_in hk (by omega)
  have hEin := dir2_in hk hkind
  have hwd := op_word2 hk hkind
  obtain ⟨d, hd⟩ := at_ (os := os) hl d1 d2
  obtain ⟨x, hx⟩ := at_ (os := os) hl b1 b2
  have hdv := worn_no hw hDin hd
  have hxv := worn_no hw hEin hx
  obtain ⟨I, hI⟩ : ∃ I : Nat, o.id.toNat = I := ⟨_, rfl⟩
  obtain ⟨D, hD⟩ : ∃ D : Nat, o.dir.toNat = D := ⟨_, rfl⟩
  obtain ⟨E, hE⟩ : ∃ E : Nat, o.dir2.toNat = E := ⟨_, rfl⟩
  unfold actMove at hf ⊢
  rw [hE] at hx
  rw [hD] at hd
  simp only [hD, hE, hd, hx] at hf ⊢
  have hid : o.id = (I : Int) := by omega
  have hie : o.dir2 = (E : Int) := by omega
  by_cases g1 : d.kind ≠ 2 ∨ x.kind ≠ 2
  · rw [if_pos g1] at hf; simp at hf
  by_cases g2 : findV d.kids o.name ≠ o.id
  · rw [if_neg g1, if_pos g2] at hf; simp at hf
  by_cases g3 : 0 ≤ findV x.kids o.name2
  · rw [if_neg g1, if_neg g2, if_pos g3] at hf; simp at hf
  by_cases g4 : under os o.id 33 o.dir2 = true
  · rw [if_neg g1, if_neg g2, if_neg g3, if_pos g4] at hf; simp at hf
  rw [if_neg g1, if_neg g2, if_neg g3, if_neg g4]
  clear hf
  have g2 : findV d.kids o.name = o.id := by simpa using g2
  have k1 : d.kind = 2 := by omega
  have k2 : x.kind = 2 := by omega
  obtain ⟨e0, m0, n0, k0⟩ := find_name g2 (by omega)
  have hnm := find_no g3 (ents_pos hs hx)
  have hall : AllOb os := fun i o h => ok_obj hs h
  obtain ⟨q1, q2, q3, q4⟩ := dir_parts (ok_obj hs hd) k1
  obtain ⟨r1, r2, r3, r4⟩ := dir_parts (ok_obj hs hx) k2
  obtain ⟨t1, ht1⟩ : ∃ t1, t1 = kidsL os D (outL o.name) := ⟨_, rfl⟩
  have hx1 : t1[E]? = some (if E = D then { x with kids := outL o.name x.kids } else x) := by rw [ht1]; exact kidsL_get D _ hx
  obtain ⟨y, hy⟩ : ∃ y, y = if E = D then { x with kids := outL o.name x.kids } else x := ⟨_, rfl⟩
  rw [← hy] at hx1
  have yk : y.kind = 2 := by rw [hy]; split <;> exact k2
  have yv : y.ver = x.ver := by rw [hy]; split <;> rfl
  have ys : ∀ e ∈ y.kids, e ∈ x.kids := by
    rw [hy]
    split
    · intro e he; exact ((mem_out _ _ _).1 he).1
    · exact fun e he => he
  have yb : kidsB y.kids = true := by
    rw [hy]
    split
    · exact kidsB_out r4 _
    · exact r4
  have ha1 : AllOb t1 := by rw [ht1]; exact kidsL_ob hall hd k1 (kidsB_out q4 _)
  obtain ⟨t2, ht2⟩ : ∃ t2, t2 = kidsL t1 E (putL ⟨o.name2, o.id⟩) := ⟨_, rfl⟩
  have ha2 : AllOb t2 := by
    rw [ht2]
    exact kidsL_ob ha1 hx1 yk (kidsB_put yb (entB_yes hwd (by show 0 < o.id; omega) i2) (fun e he => hnm e (ys e he)))
  have hkt : ∀ i, kindOf t2 i = kindOf os i := fun i => by rw [ht2, kidsL_kind, ht1, kidsL_kind]
  have hlt : t2.length = 32 := by rw [ht2, kidsL_len, ht1, kidsL_len, hl]
  have hct : ∀ i : Int, cnt (flat t2) i = cnt (flat os) i := fun i => by
    have h1 := kidsL_cnt (outL o.name) hd i
    rw [← ht1] at h1
    have h2 := kidsL_cnt (putL ⟨o.name2, o.id⟩) hx1 i
    rw [← ht2, cntE_put] at h2
    have h3 := cntE_out (ok_asc hs hd) m0 i
    rw [n0, k0] at h3
    have h4 : ((⟨o.name2, o.id⟩ : LEnt)).id = o.id := rfl
    rw [h4] at h2
    omega
  have hm : ∀ a e, (a, e) ∈ flat os → e.id ≠ (I : Int) → (a, e) ∈ flat t2 := by
    intro a e h hei
    obtain ⟨oo, p1, p2⟩ := mem_flatE.1 h
    rw [mem_flatE]
    have c1 : t1[a]? = some (if a = D then { oo with kids := outL o.name oo.kids } else oo) := by rw [ht1]; exact kidsL_get D _ p1
    have c2 : ∃ z, t1[a]? = some z ∧ e ∈ z.kids := by
      refine ⟨_, c1, ?_⟩
      by_cases ha : a = D
      · rw [if_pos ha]
        subst ha
        rw [hd] at p1; cases p1
        show e ∈ outL o.name _
        rw [mem_out]
        refine ⟨p2, fun hn => hei ?_⟩
        rw [asc_one (ok_asc hs hd) p2 m0 (by rw [hn, n0]), k0, hid]
      · rw [if_neg ha]; exact p2
    obtain ⟨z, z1, z2⟩ := c2
    have c3 : t2[a]? = some (if a = E then { z with kids := putL ⟨o.name2, o.id⟩ z.kids } else z) := by rw [ht2]; exact kidsL_get E _ z1
    refine ⟨_, c3, ?_⟩
    split
    · exact (mem_put _ _ _).2 (.inr z2)
    · exact z2
  have mi : (E, (⟨o.name2, (I : Int)⟩ : LEnt)) ∈ flat t2 := by
    rw [mem_flatE]
    have c3 : t2[E]? = some (if E = E then { y with kids := putL ⟨o.name2, o.id⟩ y.kids } else y) := by rw [ht2]; exact kidsL_get E _ hx1
    rw [if_pos rfl] at c3
    exact ⟨_, c3, (mem_put _ _ _).2 (.inl (by rw [hid]))⟩
  have hcn : ∀ i : Nat, 1 ≤ i → i < 32 → cnt (flat t2) i = if kindOf t2 i = 0 then 0 else 1 := fun i h1 h2 => by
    rw [hct, hkt]; exact ok_cnt hs h1 h2
  have hone : ∀ j : Nat, 1 ≤ j → j < 32 → cnt (flat t2) j ≤ 1 := fun j h1 h2 => by
    rw [hcn j h1 h2]; split <;> omega
  have hEl : kindOf os E = 2 := by rw [kindOf_at hx]; exact k2
  have hstep : ∀ j : Nat, 1 ≤ j → j < 32 → kindOf os j ≠ 0 → j ≠ I → ∃ a : Nat, homeIn (flat os) j = a ∧ homeIn (flat t2) j = a ∧ a < 32 ∧ kindOf os a ≠ 0 := fun j h1 h2 h3 h4 => by
    obtain ⟨a, e, m1, m2, m3, m4, m5⟩ := ok_home hs h1 h2 h3
    exact ⟨a, m3, by have := home_of (hm _ _ m1 (by rw [m2]; omega)) (by rw [m2]; exact hone j h1 h2); rw [m2] at this; exact this, m4, by omega⟩
  have hring : ∀ j, it os j (E : Int) ≠ (I : Int) := by
    intro j hj
    obtain ⟨m, hm1, hm2⟩ := depth31 hs (id := (E : Int)) (by simp [hasB, hEl]; omega)
    have := it_end hs hm2 (j := j) (by omega)
    apply g4
    rw [hid, hie, under_iff hs]
    exact ⟨by omega, j, by omega, hj⟩
  have upE : Up t2 E :=
    up_keep (fun j => j < 32 ∧ kindOf os j ≠ 0 ∧ ∀ k, it os k (j : Int) ≠ (I : Int)) (fun j hj h1 => by
      obtain ⟨a, a1, a2, a3, a4⟩ := hstep j h1 hj.1 hj.2.1 (by rintro rfl; exact hj.2.2 0 rfl)
      refine ⟨a, a1, a2, a3, a4, fun k hk => hj.2.2 (k + 1) ?_⟩
      rw [it, a1]
      exact hk) (ok_up hs (by omega) (by omega)) E rfl ⟨by omega, by omega, hring⟩
  have upI : Up t2 (I : Int) := by
    refine .step (by omega) ?_
    have := home_of mi (hone I (by omega) (by omega))
    rw [show ((⟨o.name2, (I : Int)⟩ : LEnt)).id = (I : Int) from rfl] at this
    rw [this]
    exact upE
  have upA : ∀ {i : Int}, Up os i → ∀ j : Nat, i = j → j < 32 → kindOf os j ≠ 0 → Up t2 i := by
    intro i h
    induction h with
    | top => intro _ _ _ _; exact .top
    | @step i h u ih =>
      intro j hj h2 h3
      by_cases e : j = I
      · rw [hj, e]; exact upI
      · obtain ⟨a, a1, a2, a3, a4⟩ := hstep j (by omega) h2 h3 e
        refine .step h ?_
        have := ih a (by rw [hj]; exact a1) a3 a4
        rw [hj, a1] at this
        rw [hj, a2]
        exact this
  have h2ok : specOk t2 = true := specOk_of hlt (by rw [hkt]; exact ok_top hs) ha2 hcn fun i h1 h2 h3 => upA (ok_up hs h2 (by rw [← hkt]; exact h3)) i rfl h2 (by rw [← hkt]; exact h3)
  have hD2 : ∀ z, t2[D]? = some z → z.ver < 1000000 := by
    intro z hz
    have c1 : t1[D]? = some (if D = D then { d with kids := outL o.name d.kids } else d) := by rw [ht1]; exact kidsL_get D _ hd
    rw [if_pos rfl] at c1
    have c3 := kidsL_get E (putL ⟨o.name2, o.id⟩) c1
    rw [← ht2, hz] at c3
    have c4 := Option.some.inj c3
    rw [c4]
    split <;> exact hdv
  have hE2 : ∀ z, t2[E]? = some z → z.ver < 1000000 := by
    intro z hz
    have c3 := kidsL_get E (putL ⟨o.name2, o.id⟩) hx1
    rw [← ht2, hz, if_pos rfl] at c3
    have c4 := Option.some.inj c3
    rw [c4]
    show y.ver < _
    omega
  rw [← ht1, ← ht2]
  unfold turnM
  have ht := turnL_ob ha2 hD2
  split
  · exact ok_like h2ok (turnL_len _ _) (turnL_kind _ _) (turnL_flat _ _) ht
  · next hne =>
    refine ok_like h2ok (by rw [turnL_len, turnL_len]) (fun i => by rw [turnL_kind, turnL_kind]) (by rw [turnL_flat, turnL_flat]) (turnL_ob ht fun z hz => hE2 z ?_)
    rw [turnL_ne _ (fun h => hne h.symm)] at hz
    exact hz

/-- What is done leaves a tree. -/
theorem act_ok {os : List LObj} {o : LOp} (hs : specOk os = true) (hk : opOk o = true) (hf : (actDo os o).2 = 0) : specOk (actDo os o).1 = true := by
  unfold actDo at hf ⊢
  by_cases hw : wornB os (opIds o) = true
  · rw [if_pos hw] at hf; simp at hf
  rw [if_neg hw] at hf ⊢
  have hw : wornB os (opIds o) = false := by simpa using hw
  by_cases h1 : o.kind = 1 ∨ o.kind = 2
  · rw [if_pos h1] at hf ⊢; exact new_ok hs hk hw h1 hf
  rw [if_neg h1] at hf ⊢
  by_cases h3 : o.kind = 3
  · rw [if_pos h3] at hf ⊢; exact gone_ok hs hk hw h3 hf
  rw [if_neg h3] at hf ⊢
  by_cases h4 : o.kind = 4
  · rw [if_pos h4] at hf ⊢; exact move_ok hs hk hw h4 hf
  rw [if_neg h4] at hf ⊢
  exact text_ok hs hk hw (op_body hk h1 h3 h4) hf
end Go.Proofs.YtnolbfijcnldjaaGreatDoor

/- Every refusal has a true reason: plain facts about the code of what is done. -/
namespace Go.Proofs.YtnolbfijcnldjaaGreatDoor

theorem op_kinds {o : LOp} (h : opOk o = true) : o.kind = 1 ∨ o.kind = 2 ∨ o.kind = 3 ∨ o.kind = 4 ∨ o.kind = 5 := by
  unfold opOk at h
  split at h
  · omega
  · split at h
    · omega
    · split at h
      · omega
      · cases h
end Go.Proofs.YtnolbfijcnldjaaGreatDoor

/- What is done turns what it changes, and nothing else: plain facts. -/
namespace Go.Proofs.YtnolbfijcnldjaaGreatDoor

/-- What becomes of an object: nothing, or its number of turns is one more, it is named, and it is another one (or a text was written). -/
def TurnP (o : LOp) (i : Nat) (a b : LObj) : Prop :=
  b = a ∨ (b.ver = a.ver + 1 ∧ i ∈ opIds o ∧ (o.kind = 5 ∨ b.kind ≠ a.kind ∨ b.kids ≠ a.kids))
theorem cnt_yes {t : List LObj} {d : Nat} {e : LEnt} (h : (d, e) ∈ flat t) : 0 < cnt (flat t) e.id := by
  unfold cnt
  exact List.countP_pos_iff.2 ⟨(d, e), h, by simp⟩
theorem put_ne {x : LEnt} {es : List LEnt} (h : ∀ e ∈ es, e.name ≠ x.name) (es' : List LEnt) : putL x es' ≠ es := fun hh => by
  have : x ∈ es := by rw [← hh, mem_put]; exact .inl rfl
  exact h x this rfl
theorem out_ne {name : ByteArray} {es : List LEnt} {e : LEnt} (he : e ∈ es) (hn : e.name = name) : outL name es ≠ es := fun hh => by
  rw [← hh, mem_out] at he
  exact he.2 hn
theorem set_cases {os : List LObj} {k i : Nat} {o b : LObj} (h : (os.set k o)[i]? = some b) : (i = k ∧ b = o) ∨ (i ≠ k ∧ os[i]? = some b) := by
  by_cases e : k = i
  · subst e
    have hl := (List.getElem?_eq_some_iff.1 h).1
    rw [List.getElem?_set_self (by simpa using hl)] at h
    cases h
    exact .inl ⟨rfl, rfl⟩
  · rw [List.getElem?_set_ne e] at h
    exact .inr ⟨Ne.symm e, h⟩
theorem turnL_get {t : List LObj} (i : Nat) {j : Nat} {o : LObj} (h : t[j]? = some o) : (turnL t i)[j]? = some (if j = i then { o with ver := o.ver + 1 } else o) := by
  unfold turnL
  by_cases e : j = i
  · subst e
    rw [if_pos rfl]
    simp only [h]
    rw [List.getElem?_set_self (by have := (List.getElem?_eq_some_iff.1 h).1; omega)]
  · rw [if_neg e]
    split
    · rw [List.getElem?_set_ne (Ne.symm e)]; exact h
    · exact h
theorem same_turn {os : List LObj} {o : LOp} {i : Nat} {a b : LObj} (ha : os[i]? = some a) (hb : os[i]? = some b) : TurnP o i a b := by
  rw [ha] at hb; cases hb; exact .inl rfl
theorem turnP_any {os : List LObj} {o : LOp} (hs : specOk os = true) (hk : opOk o = true) {i : Nat} {a b : LObj} (ha : os[i]? = some a) (hb : (actDo os o).1[i]? = some b) : TurnP o i a b := by
  obtain ⟨i1, i2⟩ := opOk_id hk
  obtain ⟨d1, d2⟩ := opOk_dir hk
  obtain ⟨e1, e2⟩ := opOk_dir2 hk
  have hl := ok_len hs
  obtain ⟨d, hd⟩ := at_ (os := os) hl d1 d2
  obtain ⟨x, hx⟩ := at_ (os := os) hl (by omega) i2
  obtain ⟨y, hy⟩ := at_ (os := os) hl e1 e2
  have hIin := id_in hk
  have hDin := fun h => dir_in hk h
  have hEin := fun h => dir2_in hk h
  obtain ⟨I, hI⟩ : ∃ I : Nat, o.id.toNat = I := ⟨_, rfl⟩
  obtain ⟨D, hD⟩ : ∃ D : Nat, o.dir.toNat = D := ⟨_, rfl⟩
  obtain ⟨E, hE⟩ : ∃ E : Nat, o.dir2.toNat = E := ⟨_, rfl⟩
  rw [hD] at hd hDin
  rw [hI] at hx hIin
  rw [hE] at hy hEin
  have hid : o.id = (I : Int) := by omega
  unfold actDo at hb
  by_cases hw : wornB os (opIds o) = true
  · rw [if_pos hw] at hb; exact same_turn ha hb
  rw [if_neg hw] at hb
  by_cases h1 : o.kind = 1 ∨ o.kind = 2
  · rw [if_pos h1] at hb
    unfold actNew at hb
    simp only [hI, hD, hd, hx] at hb
    by_cases g1 : d.kind ≠ 2
    · rw [if_pos g1] at hb; exact same_turn ha hb
    by_cases g2 : 0 ≤ findV d.kids o.name
    · rw [if_neg g1, if_pos g2] at hb; exact same_turn ha hb
    by_cases g3 : x.kind ≠ 0 ∨ 0 < x.ver
    · rw [if_neg g1, if_neg g2, if_pos g3] at hb; exact same_turn ha hb
    rw [if_neg g1, if_neg g2, if_neg g3] at hb
    have hxv := obj_ver (ok_obj hs hx)
    rcases set_cases hb with ⟨rfl, rfl⟩ | ⟨hne, hb⟩
    · rw [hd] at ha; cases ha
      exact .inr ⟨rfl, hDin (by omega), .inr (.inr (put_ne (find_no g2 (ents_pos hs hd)) _))⟩
    · rcases set_cases hb with ⟨rfl, rfl⟩ | ⟨hne2, hb⟩
      · rw [hx] at ha; cases ha
        refine .inr ⟨?_, hIin, .inr (.inl ?_)⟩
        · show (1 : Int) = _ + 1; omega
        · dsimp only; split <;> omega
      · exact same_turn ha hb
  rw [if_neg h1] at hb
  by_cases h3 : o.kind = 3
  · rw [if_pos h3] at hb
    unfold actGone at hb
    simp only [hI, hD, hd, hx] at hb
    by_cases g1 : d.kind ≠ 2
    · rw [if_pos g1] at hb; exact same_turn ha hb
    by_cases g2 : findV d.kids o.name ≠ o.id
    · rw [if_neg g1, if_pos g2] at hb; exact same_turn ha hb
    by_cases g3 : 0 < x.kids.length
    · rw [if_neg g1, if_neg g2, if_pos g3] at hb; exact same_turn ha hb
    rw [if_neg g1, if_neg g2, if_neg g3] at hb
    have g2 : findV d.kids o.name = o.id := by simpa using g2
    obtain ⟨e0, m0, n0, k0⟩ := find_name g2 (by omega)
    have hkx : x.kind ≠ 0 := by
      have h5 := cnt_yes (mem_flatE.2 ⟨d, hd, m0⟩)
      rw [k0, hid] at h5
      have h6 := ok_cnt hs (show 1 ≤ I by omega) (show I < 32 by omega)
      rw [kindOf_at hx] at h6
      intro h7
      rw [if_pos h7] at h6
      omega
    rcases set_cases hb with ⟨rfl, rfl⟩ | ⟨hne, hb⟩
    · rw [hx] at ha; cases ha
      exact .inr ⟨rfl, hIin, .inr (.inl (Ne.symm hkx))⟩
    · rcases set_cases hb with ⟨rfl, rfl⟩ | ⟨hne2, hb⟩
      · rw [hd] at ha; cases ha
        exact .inr ⟨rfl, hDin (by omega), .inr (.inr (out_ne m0 n0))⟩
      · exact same_turn ha hb
  rw [if_neg h3] at hb
  by_cases h4 : o.kind = 4
  · rw [if_pos h4] at hb
    unfold actMove at hb
    simp only [hD, hE, hd, hy] at hb
    by_cases g1 : d.kind ≠ 2 ∨ y.kind ≠ 2
    · rw [if_pos g1] at hb; exact same_turn ha hb
    by_cases g2 : findV d.kids o.name ≠ o.id
    · rw [if_neg g1, if_pos g2] at hb; exact same_turn ha hb
    by_cases g3 : 0 ≤ findV y.kids o.name2
    · rw [if_neg g1, if_neg g2, if_pos g3] at hb; exact same_turn ha hb
    by_cases g4 : under os o.id 33 o.dir2 = true
    · rw [if_neg g1, if_neg g2, if_neg g3, if_pos g4] at hb; exact same_turn ha hb
    rw [if_neg g1, if_neg g2, if_neg g3, if_neg g4] at hb
    have g2 : findV d.kids o.name = o.id := by simpa using g2
    obtain ⟨e0, m0, n0, k0⟩ := find_name g2 (by omega)
    have hnm := find_no g3 (ents_pos hs hy)
    have hDi := hDin (by omega)
    have hEi := hEin h4
    have q1 := kidsL_get D (outL o.name) ha
    have q2 := kidsL_get E (putL ⟨o.name2, o.id⟩) q1
    unfold turnM at hb
    by_cases hED : E = D
    · subst hED
      rw [hd] at hy; cases hy
      rw [if_pos rfl, turnL_get E q2] at hb
      cases hb
      by_cases hiE : i = E
      · subst hiE
        rw [hd] at ha; cases ha
        refine .inr ⟨by simp, hEi, .inr (.inr ?_)⟩
        simp only [if_pos]
        exact put_ne hnm _
      · exact .inl (by simp [hiE])
    · rw [if_neg hED, turnL_get E (turnL_get D q2)] at hb
      cases hb
      by_cases hiE : i = E
      · subst hiE
        rw [hy] at ha; cases ha
        refine .inr ⟨by simp [hED], hEi, .inr (.inr ?_)⟩
        simp only [if_pos, if_neg hED]
        exact put_ne hnm _
      · by_cases hiD : i = D
        · subst hiD
          rw [hd] at ha; cases ha
          refine .inr ⟨by simp [hiE], hDi, .inr (.inr ?_)⟩
          simp only [if_pos, if_neg hiE]
          exact out_ne m0 n0
        · exact .inl (by simp [hiE, hiD])
  rw [if_neg h4] at hb
  have h5 : o.kind = 5 := by have := op_kinds hk; omega
  unfold actText at hb
  simp only [hI, hx] at hb
  by_cases g1 : x.kind ≠ 1
  · rw [if_pos g1] at hb; exact same_turn ha hb
  rw [if_neg g1] at hb
  rcases set_cases hb with ⟨rfl, rfl⟩ | ⟨hne, hb⟩
  · rw [hx] at ha; cases ha
    exact .inr ⟨rfl, hIin, .inl h5⟩
  · exact same_turn ha hb
theorem set_self {os : List LObj} {k : Nat} {o : LObj} (h : k < os.length) : (os.set k o)[k]? = some o := by
  rw [List.getElem?_set_self h]
/-- What went well turned something. -/
theorem turn_some {os : List LObj} {o : LOp} (hs : specOk os = true) (hk : opOk o = true) (h0 : (actDo os o).2 = 0) : ∃ (i : Nat) (a b : LObj), os[i]? = some a ∧ (actDo os o).1[i]? = some b ∧ b.ver = a.ver + 1 := by
  obtain ⟨i1, i2⟩ := opOk_id hk
  obtain ⟨d1, d2⟩ := opOk_dir hk
  obtain ⟨e1, e2⟩ := opOk_dir2 hk
  have hl := ok_len hs
  obtain ⟨d, hd⟩ := at_ (os := os) hl d1 d2
  obtain ⟨x, hx⟩ := at_ (os := os) hl (by omega) i2
  obtain ⟨y, hy⟩ := at_ (os := os) hl e1 e2
  obtain ⟨I, hI⟩ : ∃ I : Nat, o.id.toNat = I := ⟨_, rfl⟩
  obtain ⟨D, hD⟩ : ∃ D : Nat, o.dir.toNat = D := ⟨_, rfl⟩
  obtain ⟨E, hE⟩ : ∃ E : Nat, o.dir2.toNat = E := ⟨_, rfl⟩
  rw [hD] at hd
  rw [hI] at hx
  rw [hE] at hy
  have lI : I < os.length := by omega
  have lD : D < os.length := by omega
  unfold actDo at h0 ⊢
  by_cases hw : wornB os (opIds o) = true
  · rw [if_pos hw] at h0; simp at h0
  rw [if_neg hw] at h0 ⊢
  by_cases h1 : o.kind = 1 ∨ o.kind = 2
  · rw [if_pos h1] at h0 ⊢
    unfold actNew at h0 ⊢
    simp only [hI, hD, hd, hx] at h0 ⊢
    by_cases g1 : d.kind ≠ 2
    · rw [if_pos g1] at h0; simp at h0
    by_cases g2 : 0 ≤ findV d.kids o.name
    · rw [if_neg g1, if_pos g2] at h0; simp at h0
    by_cases g3 : x.kind ≠ 0 ∨ 0 < x.ver
    · rw [if_neg g1, if_neg g2, if_pos g3] at h0; simp at h0
    rw [if_neg g1, if_neg g2, if_neg g3]
    exact ⟨D, d, _, hd, set_self (by simpa using lD), rfl⟩
  rw [if_neg h1] at h0 ⊢
  by_cases h3 : o.kind = 3
  · rw [if_pos h3] at h0 ⊢
    unfold actGone at h0 ⊢
    simp only [hI, hD, hd, hx] at h0 ⊢
    by_cases g1 : d.kind ≠ 2
    · rw [if_pos g1] at h0; simp at h0
    by_cases g2 : findV d.kids o.name ≠ o.id
    · rw [if_neg g1, if_pos g2] at h0; simp at h0
    by_cases g3 : 0 < x.kids.length
    · rw [if_neg g1, if_neg g2, if_pos g3] at h0; simp at h0
    rw [if_neg g1, if_neg g2, if_neg g3]
    exact ⟨I, x, _, hx, set_self (by simpa using lI), rfl⟩
  rw [if_neg h3] at h0 ⊢
  by_cases h4 : o.kind = 4
  · rw [if_pos h4] at h0 ⊢
    unfold actMove at h0 ⊢
    simp only [hD, hE, hd, hy] at h0 ⊢
    by_cases g1 : d.kind ≠ 2 ∨ y.kind ≠ 2
    · rw [if_pos g1] at h0; simp at h0
    by_cases g2 : findV d.kids o.name ≠ o.id
    · rw [if_neg g1, if_pos g2] at h0; simp at h0
    by_cases g3 : 0 ≤ findV y.kids o.name2
    · rw [if_neg g1, if_neg g2, if_pos g3] at h0; simp at h0
    by_cases g4 : under os o.id 33 o.dir2 = true
    · rw [if_neg g1, if_neg g2, if_neg g3, if_pos g4] at h0; simp at h0
    rw [if_neg g1, if_neg g2, if_neg g3, if_neg g4]
    have q2 := kidsL_get E (putL ⟨o.name2, o.id⟩) (kidsL_get D (outL o.name) hy)
    unfold turnM
    by_cases hED : E = D
    · rw [if_pos hED]
      exact ⟨E, y, _, hy, turnL_get D q2, by simp [hED]⟩
    · rw [if_neg hED]
      exact ⟨E, y, _, hy, turnL_get E (turnL_get D q2), by simp [hED]⟩
  rw [if_neg h4] at h0 ⊢
  unfold actText at h0 ⊢
  simp only [hI, hx] at h0 ⊢
  by_cases g1 : x.kind ≠ 1
  · rw [if_pos g1] at h0; simp at h0
  rw [if_neg g1]
  exact ⟨I, x, _, hx, set_self lI, rfl⟩
end Go.Proofs.YtnolbfijcnldjaaGreatDoor

/- What is done touches what it names, and how many it turns: plain facts. -/
namespace Go.Proofs.YtnolbfijcnldjaaGreatDoor

/-- What went wrong changed nothing. -/
theorem act_err (os : List LObj) (o : LOp) : (actDo os o).2 = 0 ∨ (actDo os o).1 = os := by
  unfold actDo
  split
  · exact .inr rfl
  split
  · unfold actNew
    repeat' split
    all_goals first | exact .inr rfl | exact .inl rfl
  split
  · unfold actGone
    repeat' split
    all_goals first | exact .inr rfl | exact .inl rfl
  split
  · unfold actMove
    repeat' split
    all_goals first | exact .inr rfl | exact .inl rfl
  unfold actText
  repeat' split
  all_goals first | exact .inr rfl | exact .inl rfl

/-- The object at a number was turned. -/
def turnB (os rl : List LObj) (i : Nat) : Bool := match os[i]?, rl[i]? with
  | some a, some b => decide (a.ver < b.ver)
  | _, _ => false
/-- How many below a number were turned. -/
def turnedN (os rl : List LObj) (k : Nat) : Nat := (List.range k).countP (turnB os rl)
theorem turnB_at {os rl : List LObj} {i : Nat} {a b : LObj} (ha : os[i]? = some a) (hb : rl[i]? = some b) : turnB os rl i = decide (a.ver < b.ver) := by
  unfold turnB; rw [ha, hb]
theorem turned_ids {os : List LObj} {o : LOp} (hs : specOk os = true) (hk : opOk o = true) : turnedN os (actDo os o).1 32 ≤ (opIds o).length := by
  rw [opIds_set hk]
  unfold turnedN setL
  rw [← List.countP_eq_length_filter]
  refine List.countP_mono_left fun i hi ht => ?_
  unfold turnB at ht
  split at ht
  · rename_i a b ha hb
    rcases turnP_any hs hk ha hb with rfl | ⟨-, hin, -⟩
    · simp at ht
    · rw [opIds_set hk] at hin
      exact (List.mem_filter.1 hin).2
  · cases ht
theorem turned_pos {os : List LObj} {o : LOp} (hs : specOk os = true) (hk : opOk o = true) (h0 : (actDo os o).2 = 0) : 1 ≤ turnedN os (actDo os o).1 32 := by
  obtain ⟨i, a, b, ha, hb, hv⟩ := turn_some hs hk h0
  unfold turnedN
  refine List.countP_pos_iff.2 ⟨i, List.mem_range.2 ?_, ?_⟩
  · have := (List.getElem?_eq_some_iff.1 ha).1; rw [ok_len hs] at this; exact this
  · rw [turnB_at ha hb]; simp; omega

/-- All that the law of what is done asks of the answer. -/
structure FitR (os : List LObj) (o : LOp) (rl : List LObj) (rk : Int) : Prop where
  len : rl.length = 32
  ok : specOk rl = true
  same : rk ≠ 0 → rl = os
  turn : ∀ (i : Nat) a b, os[i]? = some a → rl[i]? = some b → b = a ∨ (b.ver = a.ver + 1 ∧ i ∈ opIds o)
  some_ : rk = 0 → 1 ≤ turnedN os rl 32 ∧ turnedN os rl 32 ≤ (opIds o).length
theorem fit_any {os : List LObj} {o : LOp} {rl : List LObj} {rk : Int} (hs : specOk os = true) (hr : (rl, rk) = actR os o) : FitR os o rl rk := by
  unfold actR at hr
  rw [if_pos hs] at hr
  by_cases hk : opOk o = true
  · rw [if_pos hk] at hr
    obtain ⟨rfl, rfl⟩ : rl = (actDo os o).1 ∧ rk = (actDo os o).2 := ⟨congrArg Prod.fst hr, congrArg Prod.snd hr⟩
    refine ⟨by rw [actDo_len, ok_len hs], ?_, fun h => (act_err os o).resolve_left h, fun i a b ha hb => ?_, fun h => ⟨turned_pos hs hk h, turned_ids hs hk⟩⟩
    · rcases act_err os o with h | h
      · exact act_ok hs hk h
      · rw [h]; exact hs
    · rcases turnP_any hs hk ha hb with h | ⟨h1, h2, -⟩
      · exact .inl h
      · exact .inr ⟨h1, h2⟩
  · rw [if_neg hk] at hr
    obtain ⟨rfl, rfl⟩ := Prod.mk.inj hr
    exact ⟨ok_len hs, hs, fun _ => rfl, fun i a b ha hb => by rw [ha] at hb; cases hb; exact .inl rfl, fun h => by simp at h⟩
end Go.Proofs.YtnolbfijcnldjaaGreatDoor

/- At every code the call of laws.FnActTurn returns true. -/
namespace Go.Proofs.YtnolbfijcnldjaaGreatDoor
open Go.RowKit

/-- What was drawn, in its boxes. -/
structure AC (w W : World) (T b k c1 : Nat) (os : List LObj) (o : LOp) : Prop where
  below : Below w.heap.size w W
  t : W.cell? ⟨T, 0, none⟩ = some (.slice (some ⟨b, 0, none⟩) k c1)
  k0 : W.cell? ⟨T + 1, 0, none⟩ = some (.int .i64 o.kind)
  k1 : W.cell? ⟨T + 1, 1, none⟩ = some (.int .i64 o.dir)
  k2 : W.cell? ⟨T + 1, 2, none⟩ = some (.string o.name)
  k3 : W.cell? ⟨T + 1, 3, none⟩ = some (.int .i64 o.dir2)
  k4 : W.cell? ⟨T + 1, 4, none⟩ = some (.string o.name2)
  k5 : W.cell? ⟨T + 1, 5, none⟩ = some (.int .i64 o.id)
  k6 : W.cell? ⟨T + 1, 6, none⟩ = some (.string o.text)
  at_ : ObjsAt W w.heap.size T (some ⟨b, 0, none⟩) k os
  lo : w.heap.size ≤ T
  lt : T + 1 < W.heap.size
theorem AC.next {w W W' : World} {T b k c1 : Nat} {os : List LObj} {o : LOp} (h : AC w W T b k c1 os o) (hb : Below W.heap.size W W') : AC w W' T b k c1 os o := by
  have hlt := h.lt
  have hc : ∀ j, W'.cell? ⟨T + 1, j, none⟩ = W.cell? ⟨T + 1, j, none⟩ := fun j => hb.cell (by simpa using hlt)
  exact ⟨h.below.trans (hb.mono h.below.size), by rw [hb.cell (by simp; omega)]; exact h.t, by rw [hc]; exact h.k0, by rw [hc]; exact h.k1, by rw [hc]; exact h.k2, by rw [hc]; exact h.k3, by rw [hc]; exact h.k4, by rw [hc]; exact h.k5, by rw [hc]; exact h.k6, h.at_.below hb (by omega), h.lo, by have := hb.size; omega⟩
/-- The tree that came out, in its box. -/
structure XT (W : World) (X : Nat) (x : Option Addr) (c : Nat) (rl : List LObj) : Prop where
  box : W.cell? ⟨X, 0, none⟩ = some (.slice x rl.length c)
  at_ : ObjsAt W 0 X x rl.length rl
  lt : X < W.heap.size
theorem XT.next {W W' : World} {X : Nat} {x : Option Addr} {c : Nat} {rl : List LObj} (h : XT W X x c rl) (hb : Below W.heap.size W W') : XT W' X x c rl :=
  ⟨by rw [hb.cell (by simpa using h.lt)]; exact h.box, h.at_.below hb (Nat.le_of_lt h.lt), by have := hb.size; have := h.lt; omega⟩
/-- One object of a list, whole. -/
theorem ObjsAt.one {W : World} {L U : Nat} {a : Option Addr} {n : Nat} {os : List LObj} (h : ObjsAt W L U a n os) {i : Nat} (hi : i < n) : ∃ b off x ka kc, a = some ⟨b, off, none⟩ ∧ os[i]? = some x ∧ W.cell? ⟨b, off + i * 4, none⟩ = some (.int .i64 x.kind) ∧ W.cell? ⟨b, off + i * 4 + 1, none⟩ = some (.int .i64 x.ver) ∧ W.cell? ⟨b, off + i * 4 + 2, none⟩ = some (.string x.text) ∧ W.cell? ⟨b, off + i * 4 + 3, none⟩ = some (.slice ka x.kids.length kc) ∧ EntsAt W L U ka x.kids.length x.kids := by
  obtain ⟨b, off, he, -, -, hc⟩ := h.at_ (by omega)
  obtain ⟨x, ka, kn, kc, h1, -, h2, h3, h6, h4, h5⟩ := hc i hi
  have hl := h5.len
  subst hl
  exact ⟨b, off, x, ka, kc, he, h1, h2, h3, h6, h4, h5⟩

/-- An object in a box. -/
structure OBx (W : World) (A : Nat) (x : LObj) (ka : Option Addr) (kc : Nat) : Prop where
  c0 : W.cell? ⟨A, 0, none⟩ = some (.int .i64 x.kind)
  c1 : W.cell? ⟨A, 1, none⟩ = some (.int .i64 x.ver)
  c2 : W.cell? ⟨A, 2, none⟩ = some (.string x.text)
  c3 : W.cell? ⟨A, 3, none⟩ = some (.slice ka x.kids.length kc)
  es : EntsAt W 0 A ka x.kids.length x.kids
  lt : A < W.heap.size
theorem OBx.next {W W' : World} {A : Nat} {x : LObj} {ka : Option Addr} {kc : Nat} (h : OBx W A x ka kc) (hb : Below W.heap.size W W') : OBx W' A x ka kc :=
  ⟨by rw [hb.cell (by simpa using h.lt)]; exact h.c0, by rw [hb.cell (by simpa using h.lt)]; exact h.c1, by rw [hb.cell (by simpa using h.lt)]; exact h.c2, by rw [hb.cell (by simpa using h.lt)]; exact h.c3, h.es.below hb (Nat.le_of_lt h.lt), by have := hb.size; have := h.lt; omega⟩
end Go.Proofs.YtnolbfijcnldjaaGreatDoor

/- A list that is done, all of it or nothing: the plain function, and what stands in the boxes of its two loops. -/
namespace Go.Proofs.YtnolbfijcnldjaaGreatDoor
open Go.RowKit

theorem ok_bd {os : List LObj} (hs : specOk os = true) : Bd os 1000000 := fun x hx => by
  obtain ⟨i, hi, rfl⟩ := List.getElem_of_mem hx
  have h9 : os[i]? = some os[i] := List.getElem?_eq_getElem hi
  have := ok_ver hs h9
  have := ok_kids hs h9
  exact ⟨by omega, by omega, by omega⟩
/-- What stands in the boxes of the loop, but for the tree. -/
structure LZ (w W : World) (T : Nat) (X : TypeId) (a : Option Addr) (n c b1 c1 : Nat) : Prop where
  below : Below w.heap.size w W
  t : W.cell? ⟨w.heap.size, 0, none⟩ = some (.slice a n c)
  r : ∃ f, W.rowIs (w.heap.size + 1) 25 1 f
  x : W.cell? ⟨T, 0, none⟩ = some (.slice (some ⟨b1, 0, none⟩) n c1)
  xr : ∃ f, W.rowIs T X 1 f
  lo : w.heap.size + 1 < T
  lt : T < W.heap.size
theorem LZ.of {w W W' : World} {T : Nat} {X : TypeId} {a : Option Addr} {n c b1 c1 : Nat} (h : LZ w W T X a n c b1 c1) (hb : Below (w.heap.size + 1 + 1) W W') (hT : W'.heap[T]? = W.heap[T]?) : LZ w W' T X a n c b1 c1 := by
  obtain ⟨f, hf⟩ := h.r
  obtain ⟨g, hg⟩ := h.xr
  exact ⟨h.below.trans (hb.mono (by omega)), by rw [hb.cell (by simp; omega)]; exact h.t, ⟨f, hf.of_block (hb.block _ (by omega))⟩, by rw [World.cell?_of_block (w := W) hT]; exact h.x, ⟨g, hg.of_block hT⟩, h.lo, by have := hb.size; have := h.lt; omega⟩
theorem LZ.next {w W W' : World} {T : Nat} {X : TypeId} {a : Option Addr} {n c b1 c1 : Nat} (h : LZ w W T X a n c b1 c1) (hb : Below W.heap.size W W') : LZ w W' T X a n c b1 c1 :=
  h.of (hb.mono (by have := h.lo; have := h.lt; omega)) (hb.block _ h.lt)
theorem LZ.but {w W W' : World} {T : Nat} {X : TypeId} {a : Option Addr} {n c b1 c1 q : Nat} (h : LZ w W T X a n c b1 c1) (hb : But q W W') (hq : T < q) : LZ w W' T X a n c b1 c1 :=
  h.of (hb.below.mono (by have := h.lo; omega)) (hb.below.block _ hq)
/-- The loop's box written over by what it holds. -/
theorem LZ.put {w W : World} {T : Nat} {X : TypeId} {a : Option Addr} {n c b1 c1 : Nat} (h : LZ w W T X a n c b1 c1) (_ : X ≠ 38) : LZ w (W.setCell ⟨T, 0, none⟩ (.slice (some ⟨b1, 0, none⟩) n c1)) T X a n c b1 c1 := by
  obtain ⟨f, hf⟩ := h.r
  obtain ⟨g, hg⟩ := h.xr
  have hb : ∀ q, q ≠ T → (W.setCell ⟨T, 0, none⟩ (.slice (some ⟨b1, 0, none⟩) n c1)).heap[q]? = W.heap[q]? := fun q hq => Below.heap_setCell W ⟨T, 0, none⟩ _ q hq
  exact ⟨h.below.setCell (by show _ ≤ T; have := h.lo; omega) _, by rw [World.cell?_of_block (w := W) (hb _ (by show w.heap.size ≠ T; have := h.lo; omega))]; exact h.t, ⟨f, hf.of_block (hb _ (by have := h.lo; omega))⟩, World.cell?_setCell_same _ _ _ h.x, ⟨_, hg.set 0 _⟩, h.lo, by simpa using h.lt⟩
end Go.Proofs.YtnolbfijcnldjaaGreatDoor

/- What stands in the boxes of the laws of what is done. -/
namespace Go.Proofs.YtnolbfijcnldjaaGreatDoor
open Go.RowKit

/-- Something to be done, in its box. -/
structure PB (W : World) (A : Nat) (o : LOp) : Prop where
  k0 : W.cell? ⟨A, 0, none⟩ = some (.int .i64 o.kind)
  k1 : W.cell? ⟨A, 1, none⟩ = some (.int .i64 o.dir)
  k2 : W.cell? ⟨A, 2, none⟩ = some (.string o.name)
  k3 : W.cell? ⟨A, 3, none⟩ = some (.int .i64 o.dir2)
  k4 : W.cell? ⟨A, 4, none⟩ = some (.string o.name2)
  k5 : W.cell? ⟨A, 5, none⟩ = some (.int .i64 o.id)
  k6 : W.cell? ⟨A, 6, none⟩ = some (.string o.text)
  lt : A < W.heap.size
theorem PB.next {W W' : World} {A : Nat} {o : LOp} (h : PB W A o) (hb : Below W.heap.size W W') : PB W' A o := by
  have hlt := h.lt
  have hc : ∀ j, W'.cell? ⟨A, j, none⟩ = W.cell? ⟨A, j, none⟩ := fun j => hb.cell (by simpa using hlt)
  exact ⟨by rw [hc]; exact h.k0, by rw [hc]; exact h.k1, by rw [hc]; exact h.k2, by rw [hc]; exact h.k3, by rw [hc]; exact h.k4, by rw [hc]; exact h.k5, by rw [hc]; exact h.k6, by have := hb.size; omega⟩
theorem DoAt.objsX {w w' : World} {r : List LObj × Int} {e : Ending} (h : DoAt w r e w') : ∃ x c, e = .returned (.tuple #[.agg #[.slice x r.1.length c], .int .i64 r.2]) ∧ (r.1 ≠ [] → ∃ b, x = some ⟨b, 0, none⟩) ∧ ObjsAt w' w.heap.size w'.heap.size x r.1.length r.1 ∧ Below w.heap.size w w' := by
  obtain ⟨⟨h0, rfl⟩ | ⟨b, c, vs, rfl, hO⟩, hb⟩ := h
  · exact ⟨none, 0, by rw [h0]; rfl, fun h => absurd h0 h, by rw [h0]; exact ⟨rfl, Nat.zero_le _, fun h => absurd rfl h⟩, hb⟩
  · exact ⟨_, c, rfl, fun _ => ⟨b, rfl⟩, hO.to_objs, hb⟩
theorem ok_sizes {os : List LObj} (hs : specOk os = true) : Sizes os 1048576 := fun o ho => by have := (ok_bd hs o ho).2.2; omega
theorem eEq_rfl (e : LEnt) : eEq e e = true := eEq_yes rfl rfl
theorem oSame_rfl (o : LObj) : oSame o o = true := by
  unfold oSame oLike
  have h1 : listEq eEq o.kids o.kids = true := listEq_yes rfl fun j a b ha hb => by rw [ha] at hb; cases hb; exact eEq_rfl a
  simp [h1, (sEq_iff _ _).2]
theorem oLike_rfl (o : LObj) : oLike o o = true := by
  have := oSame_rfl o
  unfold oSame at this
  simp only [Bool.and_eq_true] at this
  exact this.2
theorem actR_32 {os : List LObj} (hs : specOk os = true) (o : LOp) : (actR os o).1.length = 32 := by
  unfold actR
  rw [if_pos hs]
  split
  · rw [actDo_len, ok_len hs]
  · exact ok_len hs
theorem actR_ok {os : List LObj} (hs : specOk os = true) (o : LOp) : specOk (actR os o).1 = true := (fit_any hs (o := o) (rl := (actR os o).1) (rk := (actR os o).2) rfl).ok
theorem actR_fine {os : List LObj} {o : LOp} (h : (actR os o).2 = 0) : specOk os = true ∧ opOk o = true ∧ actR os o = actDo os o := by
  by_cases h1 : specOk os = true
  · by_cases h2 : opOk o = true
    · exact ⟨h1, h2, by unfold actR; rw [if_pos h1, if_pos h2]⟩
    · exfalso; unfold actR at h; rw [if_pos h1, if_neg h2] at h; simp at h
  · exfalso; unfold actR at h; rw [if_neg h1] at h; simp at h
theorem actR_do {os : List LObj} {o : LOp} (h1 : specOk os = true) (h2 : opOk o = true) : actR os o = actDo os o := by unfold actR; rw [if_pos h1, if_pos h2]
theorem list_ne {l : List LObj} (h : l.length = 32) : l ≠ [] := fun e => by rw [e] at h; simp at h
end Go.Proofs.YtnolbfijcnldjaaGreatDoor
