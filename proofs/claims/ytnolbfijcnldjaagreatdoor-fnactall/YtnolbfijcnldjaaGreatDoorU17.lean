/- Lemmas that the proofs of this seat share: ActOkC, Place. -/
import Derived.Test.YtnolbfijcnldjaaGreatDoorU16
import Derived.Test.YtnolbfijcnldjaaGreatDoorU14
import Derived.Lib.Bytealg
import Derived.Lib.Walk
/- What is done leaves a tree, third part: the four kinds. -/
namespace Go.Proofs.YtnolbfijcnldjaaGreatDoor

theorem id_in {o : LOp} (hk : opOk o = true) : o.id.toNat ∈ opIds o := by
  have h1 : o.id.toNat ∈ opIds1 o := by
    unfold opIds1
    split
    · simp
    · rw [mem_putI]; simp
  unfold opIds
  rw [if_pos hk]
  split
  · rw [mem_putI]; exact .inr h1
  · exact h1
theorem dir_in {o : LOp} (hk : opOk o = true) (h5 : o.kind ≠ 5) : o.dir.toNat ∈ opIds o := by
  have h1 : o.dir.toNat ∈ opIds1 o := by
    unfold opIds1
    rw [if_neg h5, mem_putI]; simp
  unfold opIds
  rw [if_pos hk]
  split
  · rw [mem_putI]; exact .inr h1
  · exact h1
theorem dir2_in {o : LOp} (hk : opOk o = true) (h4 : o.kind = 4) : o.dir2.toNat ∈ opIds o := by
  unfold opIds
  rw [if_pos hk, if_pos h4, mem_putI]
  simp
theorem op_word {o : LOp} (hk : opOk o = true) (h5 : o.kind ≠ 5) : word o.name.data.toList = true := by
  unfold opOk at hk
  split at hk
  · simp [opSlot] at hk; exact hk.1.1.2.2
  · split at hk
    · simp [opSlot] at hk; exact hk.1.1.2.2
    · simp at hk
theorem op_word2 {o : LOp} (hk : opOk o = true) (h4 : o.kind = 4) : word o.name2.data.toList = true := by
  unfold opOk at hk
  rw [if_neg (by omega), if_pos h4] at hk
  simp [opSlot2] at hk; exact hk.1.2.2
theorem op_body {o : LOp} (hk : opOk o = true) (h1 : ¬ (o.kind = 1 ∨ o.kind = 2)) (h3 : o.kind ≠ 3) (h4 : o.kind ≠ 4) : body o.text.data.toList = true := by
  unfold opOk at hk
  rw [if_neg (by omega), if_neg h4] at hk
  split at hk
  · simp at hk; exact hk.2
  · cases hk
theorem at_ {os : List LObj} {i : Int} (hl : os.length = 32) (h0 : 0 ≤ i) (h1 : i < 32) : ∃ o, os[i.toNat]? = some o := ⟨_, List.getElem?_eq_getElem (by omega)⟩
theorem ents_pos {os : List LObj} (hs : specOk os = true) {i : Nat} {o : LObj} (ho : os[i]? = some o) : ∀ e ∈ o.kids, 0 < e.id := fun _ he => (ok_ent hs ho he).1

theorem emp_nil : emp ⟨#[]⟩ = true := by unfold emp; rw [Go.ByteArray.toList_eq]; rfl
theorem new_ok {os : List LObj} {o : LOp} (hs : specOk os = true) (hk : opOk o = true) (hw : wornB os (opIds o) = false) (hkind : o.kind = 1 ∨ o.kind = 2) (hf : (actNew os o).2 = 0) : specOk (actNew os o).1 = true := by
  obtain ⟨i1, i2⟩ := opOk_id hk
  obtain ⟨d1, d2⟩ := opOk_dir hk
  have hl := ok_len hs
  have hDin := dir_in hk (by omega)
  have hwd := op_word hk (by omega)
  obtain ⟨d, hd⟩ := at_ (os := os) hl d1 d2
  obtain ⟨x, hx⟩ := at_ (os := os) hl (by omega) i2
  have hdv := worn_no hw hDin hd
  obtain ⟨I, hI⟩ : ∃ I : Nat, o.id.toNat = I := ⟨_, rfl⟩
  obtain ⟨D, hD⟩ : ∃ D : Nat, o.dir.toNat = D := ⟨_, rfl⟩
  unfold actNew at hf ⊢
  rw [hI] at hx
  rw [hD] at hd
  simp only [hI, hD, hd, hx] at hf ⊢
  have hid : o.id = (I : Int) := by omega
  by_cases g1 : d.kind ≠ 2
  · rw [if_pos g1] at hf; simp at hf
  by_cases g2 : 0 ≤ findV d.kids o.name
  · rw [if_neg g1, if_pos g2] at hf; simp at hf
  by_cases g3 : x.kind ≠ 0 ∨ 0 < x.ver
  · rw [if_neg g1, if_neg g2, if_pos g3] at hf; simp at hf
  rw [if_neg g1, if_neg g2, if_neg g3]
  clear hf
  have g1 : d.kind = 2 := by simpa using g1
  have g3 : x.kind = 0 := by omega
  have hne : D ≠ I := by
    rintro rfl
    rw [hd] at hx; cases hx; omega
  have hIl : I < os.length := by omega
  have hxk : x.kids = [] := none_kids (ok_obj hs hx) (by omega)
  obtain ⟨N, hN⟩ : ∃ N : LObj, N = ⟨if o.kind = 2 then 2 else 1, 1, ⟨#[]⟩, []⟩ := ⟨_, rfl⟩
  have hNk : N.kind ≠ 0 := by rw [hN]; dsimp only; split <;> omega
  have hNe : N.kids = [] := by rw [hN]
  have hNo : objB N = true := by
    rw [hN]
    rcases hkind with h | h
    · rw [h]; decide
    · rw [h, if_pos rfl]
      exact dir_ok rfl (by decide) (by decide) emp_nil rfl
  rw [← hN]
  have hd1 : (os.set I N)[D]? = some d := by rw [List.getElem?_set_ne (Ne.symm hne)]; exact hd
  obtain ⟨q1, q2, q3, q4⟩ := dir_parts (ok_obj hs hd) g1
  have hnm := find_no g2 (ents_pos hs hd)
  have hdo : objB { d with kids := putL ⟨o.name, o.id⟩ d.kids, ver := d.ver + 1 } = true :=
    dir_ok g1 (by show 1 ≤ d.ver + 1; omega) (by show d.ver + 1 ≤ _; omega) q3 (kidsB_put q4 (entB_yes hwd (by show 0 < o.id; omega) i2) hnm)
  obtain ⟨M, hM⟩ : ∃ M : LObj, M = { d with kids := putL ⟨o.name, o.id⟩ d.kids, ver := d.ver + 1 } := ⟨_, rfl⟩
  rw [← hM] at hdo ⊢
  have hMk : M.kind = d.kind := by rw [hM]
  have hMe : M.kids = putL ⟨o.name, o.id⟩ d.kids := by rw [hM]
  have hkd : ∀ i, kindOf ((os.set I N).set D M) i = if i = I then N.kind else kindOf os i := fun i => by
    rw [kindOf_same hd1 hMk, kindOf_set N hIl]
  have hct : ∀ i : Int, cnt (flat ((os.set I N).set D M)) i = cnt (flat os) i + (if (I : Int) = i then 1 else 0) := fun i => by
    have h1 := cnt_set hd1 M i
    have h2 := cnt_set hx N i
    rw [hxk, hNe] at h2
    rw [hMe, cntE_put] at h1
    simp only [hid] at h1
    omega
  have hm : ∀ a e, (a, e) ∈ flat os → (a, e) ∈ flat ((os.set I N).set D M) := by
    intro a e h
    obtain ⟨oo, p1, p2⟩ := mem_flatE.1 h
    rw [mem_flatE]
    by_cases ha : a = D
    · subst ha
      rw [hd] at p1; cases p1
      exact ⟨M, by rw [List.getElem?_set_self (by simp; omega)], by rw [hMe, mem_put]; exact .inr p2⟩
    · by_cases hb : a = I
      · subst hb
        rw [hx] at p1; cases p1
        rw [hxk] at p2; simp at p2
      · exact ⟨oo, by rw [List.getElem?_set_ne (Ne.symm ha), List.getElem?_set_ne (Ne.symm hb)]; exact p1, p2⟩
  have mi : (D, (⟨o.name, (I : Int)⟩ : LEnt)) ∈ flat ((os.set I N).set D M) := by
    rw [mem_flatE]
    exact ⟨M, by rw [List.getElem?_set_self (by simp; omega)], by rw [hMe, mem_put, hid]; exact .inl rfl⟩
  have hcn : ∀ i : Nat, 1 ≤ i → i < 32 → cnt (flat ((os.set I N).set D M)) i = if kindOf ((os.set I N).set D M) i = 0 then 0 else 1 := fun i h1 h2 => by
    rw [hct, hkd, ok_cnt hs h1 h2]
    by_cases e : i = I
    · subst e
      rw [if_pos (by rw [kindOf_at hx]; exact g3), if_pos rfl, if_pos rfl, if_neg hNk]
    · rw [if_neg (show ¬ ((I : Int) = i) by omega), if_neg e, Nat.add_zero]
  have hone : ∀ j : Nat, 1 ≤ j → j < 32 → cnt (flat ((os.set I N).set D M)) j ≤ 1 := fun j h1 h2 => by
    rw [hcn j h1 h2]; split <;> omega
  have keep : ∀ j : Nat, j < 32 ∧ kindOf os j ≠ 0 → Up ((os.set I N).set D M) j := fun j hj =>
    up_keep (fun j => j < 32 ∧ kindOf os j ≠ 0) (fun j hj h1 => by
      obtain ⟨a, e, m1, m2, m3, m4, m5⟩ := ok_home hs h1 hj.1 hj.2
      exact ⟨a, m3, by have := home_of (hm _ _ m1) (by rw [m2]; exact hone j h1 hj.1); rw [m2] at this; exact this, m4, by omega⟩) (ok_up hs hj.1 hj.2) j rfl hj
  refine specOk_of (by simp [hl]) ?_ (AllOb.set (AllOb.set (fun i o h => ok_obj hs h) hNo I) hdo D) hcn fun i h1 h2 hk => ?_
  · rw [hkd, if_neg (by omega)]; exact ok_top hs
  · by_cases e : i = I
    · subst e
      refine .step (by omega) ?_
      have := home_of mi (hone i h1 h2)
      rw [show ((⟨o.name, (i : Int)⟩ : LEnt)).id = (i : Int) from rfl] at this
      rw [this]
      exact keep D ⟨by omega, by rw [kindOf_at hd]; omega⟩
    · rw [hkd, if_neg e] at hk
      exact keep i ⟨h2, hk⟩

theorem gone_ok {os : List LObj} {o : LOp} (hs : specOk os = true) (hk : opOk o = true) (hw : wornB os (opIds o) = false) (hkind : o.kind = 3) (hf : (actGone os o).2 = 0) : specOk (actGone os o).1 = true := by
  obtain ⟨i1, i2⟩ := opOk_id hk
  obtain ⟨d1, d2⟩ := opOk_dir hk
  have hl := ok_len hs
  have hDin := dir_in hk (by omega)
  have hIin := id_in hk
  obtain ⟨d, hd⟩ := at_ (os := os) hl d1 d2
  obtain ⟨x, hx⟩ := at_ (os := os) hl (by omega) i2
  have hdv := worn_no hw hDin hd
  have hxv := worn_no hw hIin hx
  obtain ⟨I, hI⟩ : ∃ I : Nat, o.id.toNat = I := ⟨_, rfl⟩
  obtain ⟨D, hD⟩ : ∃ D : Nat, o.dir.toNat = D := ⟨_, rfl⟩
  unfold actGone at hf ⊢
  rw [hI] at hx
  rw [hD] at hd
  simp only [hI, hD, hd, hx] at hf ⊢
  have hid : o.id = (I : Int) := by omega
  by_cases g1 : d.kind ≠ 2
  · rw [if_pos g1] at hf; simp at hf
  by_cases g2 : findV d.kids o.name ≠ o.id
  · rw [if_neg g1, if_pos g2] at hf; simp at hf
  by_cases g3 : 0 < x.kids.length
  · rw [if_neg g1, if_neg g2, if_pos g3] at hf; simp at hf
  rw [if_neg g1, if_neg g2, if_neg g3]
  clear hf
  have g1 : d.kind = 2 := by simpa using g1
  have g2 : findV d.kids o.name = o.id := by simpa using g2
  have hxk : x.kids = [] := List.eq_nil_of_length_eq_zero (by omega)
  obtain ⟨e0, m0, n0, k0⟩ := find_name g2 (by omega)
  have hne : D ≠ I := by
    rintro rfl
    rw [hd] at hx; cases hx
    rw [hxk] at m0; simp at m0
  have hIl : I < os.length := by omega
  obtain ⟨q1, q2, q3, q4⟩ := dir_parts (ok_obj hs hd) g1
  have hdo : objB { d with kids := outL o.name d.kids, ver := d.ver + 1 } = true :=
    dir_ok g1 (by show 1 ≤ d.ver + 1; omega) (by show d.ver + 1 ≤ _; omega) q3 (kidsB_out q4 _)
  obtain ⟨M, hM⟩ : ∃ M : LObj, M = { d with kids := outL o.name d.kids, ver := d.ver + 1 } := ⟨_, rfl⟩
  rw [← hM] at hdo ⊢
  have hMk : M.kind = d.kind := by rw [hM]
  have hMe : M.kids = outL o.name d.kids := by rw [hM]
  have hxv0 := obj_ver (ok_obj hs hx)
  obtain ⟨N, hN⟩ : ∃ N : LObj, N = ⟨0, x.ver + 1, ⟨#[]⟩, []⟩ := ⟨_, rfl⟩
  have hNk : N.kind = 0 := by rw [hN]
  have hNe : N.kids = [] := by rw [hN]
  have hNo : objB N = true := by
    rw [hN]
    have h1 : verB 0 (x.ver + 1) = true := by simp [verB]; omega
    have h2 : partsB ⟨0, x.ver + 1, ⟨#[]⟩, []⟩ = true := by unfold partsB; rw [if_pos rfl, emp_nil]; rfl
    unfold objB
    rw [h2, h1]
    rfl
  rw [← hN]
  have hx1 : (os.set D M)[I]? = some x := by rw [List.getElem?_set_ne hne]; exact hx
  have hkd : ∀ i, kindOf ((os.set D M).set I N) i = if i = I then 0 else kindOf os i := fun i => by
    rw [kindOf_set N (by simp; omega), hNk, kindOf_same hd hMk]
  have hct : ∀ i : Int, cnt (flat ((os.set D M).set I N)) i + (if (I : Int) = i then 1 else 0) = cnt (flat os) i := fun i => by
    have h1 := cnt_set hx1 N i
    have h2 := cnt_set hd M i
    have h3 := cntE_out (ok_asc hs hd) m0 i
    rw [n0, k0, hid] at h3
    rw [hxk, hNe] at h1
    rw [hMe] at h2
    omega
  have hm : ∀ a e, (a, e) ∈ flat os → e.id ≠ (I : Int) → (a, e) ∈ flat ((os.set D M).set I N) := by
    intro a e h hei
    obtain ⟨oo, p1, p2⟩ := mem_flatE.1 h
    rw [mem_flatE]
    by_cases hb : a = I
    · subst hb
      rw [hx] at p1; cases p1
      rw [hxk] at p2; simp at p2
    · by_cases ha : a = D
      · subst ha
        rw [hd] at p1; cases p1
        refine ⟨M, by rw [List.getElem?_set_ne (Ne.symm hb), List.getElem?_set_self (by omega)], ?_⟩
        rw [hMe, mem_out]
        refine ⟨p2, fun hn => hei ?_⟩
        rw [asc_one (ok_asc hs hd) p2 m0 (by rw [hn, n0]), k0, hid]
      · exact ⟨oo, by rw [List.getElem?_set_ne (Ne.symm hb), List.getElem?_set_ne (Ne.symm ha)]; exact p1, p2⟩
  have hcn : ∀ i : Nat, 1 ≤ i → i < 32 → cnt (flat ((os.set D M).set I N)) i = if kindOf ((os.set D M).set I N) i = 0 then 0 else 1 := fun i h1 h2 => by
    have h3 := hct i
    rw [ok_cnt hs h1 h2] at h3
    rw [hkd]
    by_cases e : i = I
    · subst e
      rw [if_pos rfl] at h3
      rw [if_pos (show (if i = i then (0 : Int) else kindOf os i) = 0 from if_pos rfl)]
      split at h3 <;> omega
    · rw [if_neg (by omega)] at h3
      rw [if_neg e]
      exact h3
  have hone : ∀ j : Nat, 1 ≤ j → j < 32 → cnt (flat ((os.set D M).set I N)) j ≤ 1 := fun j h1 h2 => by
    rw [hcn j h1 h2]; split <;> omega
  have keep : ∀ j : Nat, j < 32 ∧ kindOf os j ≠ 0 ∧ j ≠ I → Up ((os.set D M).set I N) j := fun j hj =>
    up_keep (fun j => j < 32 ∧ kindOf os j ≠ 0 ∧ j ≠ I) (fun j hj h1 => by
      obtain ⟨a, e, m1, m2, m3, m4, m5⟩ := ok_home hs h1 hj.1 hj.2.1
      refine ⟨a, m3, by have := home_of (hm _ _ m1 (by rw [m2]; omega)) (by rw [m2]; exact hone j h1 hj.1); rw [m2] at this; exact this, m4, by omega, ?_⟩
      rintro rfl
      obtain ⟨oo, p1, p2⟩ := mem_flatE.1 m1
      rw [hx] at p1; cases p1
      rw [hxk] at p2; simp at p2) (ok_up hs hj.1 hj.2.1) j rfl hj
  refine specOk_of (by simp [hl]) ?_ (AllOb.set (AllOb.set (fun i o h => ok_obj hs h) hdo D) hNo I) hcn fun i h1 h2 hk => ?_
  · rw [hkd, if_neg (by omega)]; exact ok_top hs
  · rw [hkd] at hk
    by_cases e : i = I
    · rw [if_pos e] at hk; exact absurd rfl hk
    · rw [if_neg e] at hk
      exact keep i ⟨h2, hk, e⟩

theorem Up.congr {t t' : List LObj} (hf : flat t' = flat t) {i : Int} (h : Up t i) : Up t' i := by
  induction h with
  | top => exact .top
  | step h _ ih => exact .step h (by rw [hf]; exact ih)
theorem ok_like {t t' : List LObj} (hs : specOk t = true) (hl : t'.length = t.length) (hk : ∀ i, kindOf t' i = kindOf t i) (hf : flat t' = flat t) (ho : AllOb t') : specOk t' = true :=
  specOk_of (by rw [hl]; exact ok_len hs) (by rw [hk]; exact ok_top hs) ho (fun i h1 h2 => by rw [hf, hk]; exact ok_cnt hs h1 h2) (fun i _ h2 h3 => (ok_up hs h2 (by rw [← hk]; exact h3)).congr hf)
theorem text_ok {os : List LObj} {o : LOp} (hs : specOk os = true) (hk : opOk o = true) (hw : wornB os (opIds o) = false) (hb : body o.text.data.toList = true) (hf : (actText os o).2 = 0) : specOk (actText os o).1 = true := by
  obtain ⟨i1, i2⟩ := opOk_id hk
  have hl := ok_len hs
  obtain ⟨x, hx⟩ := at_ (os := os) hl (by omega) i2
  have hxv := worn_no hw (id_in hk) hx
  unfold actText at hf ⊢
  simp only [hx] at hf ⊢
  by_cases g1 : x.kind ≠ 1
  · rw [if_pos g1] at hf; simp at hf
  rw [if_neg g1]
  have g1 : x.kind = 1 := by simpa using g1
  obtain ⟨v1, v2, v3⟩ := file_parts (ok_obj hs hx) g1
  refine ok_like hs (by simp) (kindOf_same hx rfl) (flat_same hx _ rfl) (AllOb.set (fun i o h => ok_obj hs h) ?_ _)
  have h1 : verB 1 (x.ver + 1) = true := by simp [verB]; omega
  unfold objB partsB
  simp [g1, h1, hb, v3, nil?]
theorem turnL_flat (t : List LObj) (i : Nat) : flat (turnL t i) = flat t := by
  unfold turnL
  split
  · next o h => exact flat_same h _ rfl
  · rfl
theorem turnL_kind (t : List LObj) (i j : Nat) : kindOf (turnL t i) j = kindOf t j := by
  unfold turnL
  split
  · next o h => exact kindOf_same h (o' := { o with ver := o.ver + 1 }) rfl j
  · rfl
theorem turnL_ob {t : List LObj} (h : AllOb t) {i : Nat} (hv : ∀ o, t[i]? = some o → o.ver < 1000000) : AllOb (turnL t i) := by
  unfold turnL
  split
  · next o ho => exact h.set (turn_ob (h i o ho) (hv o ho)) i
  · exact h
theorem turnL_ne (t : List LObj) {i j : Nat} (h : i ≠ j) : (turnL t i)[j]? = t[j]? := by
  unfold turnL
  split
  · rw [List.getElem?_set_ne h]
  · rfl
theorem kidsL_get {t : List LObj} (i : Nat) (f : List LEnt → List LEnt) {j : Nat} {o : LObj} (h : t[j]? = some o) : (kidsL t i f)[j]? = some (if j = i then { o with kids := f o.kids } else o) := by
  unfold kidsL
  by_cases e : j = i
  · subst e
    simp only [h]
    rw [if_pos trivial, List.getElem?_set_self (List.getElem?_eq_some_iff.1 h).1]
  · rw [if_neg e]
    split
    · rw [List.getElem?_set_ne (Ne.symm e)]; exact h
    · exact h
theorem kidsL_cnt {t : List LObj} {i : Nat} (f : List LEnt → List LEnt) {o : LObj} (h : t[i]? = some o) (c : Int) : cnt (flat (kidsL t i f)) c + cntE o.kids c = cnt (flat t) c + cntE (f o.kids) c := by
  unfold kidsL
  simp only [h]
  exact cnt_set h _ c
theorem kidsL_kind (t : List LObj) (i : Nat) (f : List LEnt → List LEnt) (j : Nat) : kindOf (kidsL t i f) j = kindOf t j := by
  unfold kidsL
  split
  · next o h => exact kindOf_same h (o' := { o with kids := f o.kids }) rfl j
  · rfl
theorem kidsL_ob {t : List LObj} (ha : AllOb t) {i : Nat} {f : List LEnt → List LEnt} {o : LObj} (h : t[i]? = some o) (hk : o.kind = 2) (hf : kidsB (f o.kids) = true) : AllOb (kidsL t i f) := by
  unfold kidsL
  simp only [h]
  obtain ⟨q1, q2, q3, q4⟩ := dir_parts (ha i o h) hk
  exact ha.set (dir_ok (o := { o with kids := f o.kids }) hk q1 q2 q3 hf) i
theorem move_ok {os : List LObj} {o : LOp} (hs : specOk os = true) (hk : opOk o = true) (hw : wornB os (opIds o) = false) (hkind : o.kind = 4) (hf : (actMove os o).2 = 0) : specOk (actMove os o).1 = true := by
  obtain ⟨i1, i2⟩ := opOk_id hk
  obtain ⟨d1, d2⟩ := opOk_dir hk
  obtain ⟨b1, b2⟩ := opOk_dir2 hk
  have hl := ok_len hs
  have hDin := dir_in hk (by omega)
  have hEin := dir2_in hk hkind
  have hwd := op_word2 hk hkind
  obtain ⟨d, hd⟩ := at_ (os := os) hl d1 d2
  obtain ⟨x, hx⟩ := at_ (os := os) hl b1 b2
  have hdv := worn_no hw hDin hd
  have hxv := worn_no hw hEin hx
  obtain ⟨I, hI⟩ : ∃ I : Nat, o.id.toNat = I := ⟨_, rfl⟩
  obtain ⟨D, hD⟩ : ∃ D : Nat, o.dir.toNat = D := ⟨_, rfl⟩
  obtain ⟨E, hE⟩ : ∃ E : Nat, o.dir2.toNat = E := ⟨_, rfl⟩
  unfold actMove at hf ⊢
  rw [hE] at hx
  rw [hD] at hd
  simp only [hD, hE, hd, hx] at hf ⊢
  have hid : o.id = (I : Int) := by omega
  have hie : o.dir2 = (E : Int) := by omega
  by_cases g1 : d.kind ≠ 2 ∨ x.kind ≠ 2
  · rw [if_pos g1] at hf; simp at hf
  by_cases g2 : findV d.kids o.name ≠ o.id
  · rw [if_neg g1, if_pos g2] at hf; simp at hf
  by_cases g3 : 0 ≤ findV x.kids o.name2
  · rw [if_neg g1, if_neg g2, if_pos g3] at hf; simp at hf
  by_cases g4 : under os o.id 33 o.dir2 = true
  · rw [if_neg g1, if_neg g2, if_neg g3, if_pos g4] at hf; simp at hf
  rw [if_neg g1, if_neg g2, if_neg g3, if_neg g4]
  clear hf
  have g2 : findV d.kids o.name = o.id := by simpa using g2
  have k1 : d.kind = 2 := by omega
  have k2 : x.kind = 2 := by omega
  obtain ⟨e0, m0, n0, k0⟩ := find_name g2 (by omega)
  have hnm := find_no g3 (ents_pos hs hx)
  have hall : AllOb os := fun i o h => ok_obj hs h
  obtain ⟨q1, q2, q3, q4⟩ := dir_parts (ok_obj hs hd) k1
  obtain ⟨r1, r2, r3, r4⟩ := dir_parts (ok_obj hs hx) k2
  obtain ⟨t1, ht1⟩ : ∃ t1, t1 = kidsL os D (outL o.name) := ⟨_, rfl⟩
  have hx1 : t1[E]? = some (if E = D then { x with kids := outL o.name x.kids } else x) := by rw [ht1]; exact kidsL_get D _ hx
  obtain ⟨y, hy⟩ : ∃ y, y = if E = D then { x with kids := outL o.name x.kids } else x := ⟨_, rfl⟩
  rw [← hy] at hx1
  have yk : y.kind = 2 := by rw [hy]; split <;> exact k2
  have yv : y.ver = x.ver := by rw [hy]; split <;> rfl
  have ys : ∀ e ∈ y.kids, e ∈ x.kids := by
    rw [hy]
    split
    · intro e he; exact ((mem_out _ _ _).1 he).1
    · exact fun e he => he
  have yb : kidsB y.kids = true := by
    rw [hy]
    split
    · exact kidsB_out r4 _
    · exact r4
  have ha1 : AllOb t1 := by rw [ht1]; exact kidsL_ob hall hd k1 (kidsB_out q4 _)
  obtain ⟨t2, ht2⟩ : ∃ t2, t2 = kidsL t1 E (putL ⟨o.name2, o.id⟩) := ⟨_, rfl⟩
  have ha2 : AllOb t2 := by
    rw [ht2]
    exact kidsL_ob ha1 hx1 yk (kidsB_put yb (entB_yes hwd (by show 0 < o.id; omega) i2) (fun e he => hnm e (ys e he)))
  have hkt : ∀ i, kindOf t2 i = kindOf os i := fun i => by rw [ht2, kidsL_kind, ht1, kidsL_kind]
  have hlt : t2.length = 32 := by rw [ht2, kidsL_len, ht1, kidsL_len, hl]
  have hct : ∀ i : Int, cnt (flat t2) i = cnt (flat os) i := fun i => by
    have h1 := kidsL_cnt (outL o.name) hd i
    rw [← ht1] at h1
    have h2 := kidsL_cnt (putL ⟨o.name2, o.id⟩) hx1 i
    rw [← ht2, cntE_put] at h2
    have h3 := cntE_out (ok_asc hs hd) m0 i
    rw [n0, k0] at h3
    have h4 : ((⟨o.name2, o.id⟩ : LEnt)).id = o.id := rfl
    rw [h4] at h2
    omega
  have hm : ∀ a e, (a, e) ∈ flat os → e.id ≠ (I : Int) → (a, e) ∈ flat t2 := by
    intro a e h hei
    obtain ⟨oo, p1, p2⟩ := mem_flatE.1 h
    rw [mem_flatE]
    have c1 : t1[a]? = some (if a = D then { oo with kids := outL o.name oo.kids } else oo) := by rw [ht1]; exact kidsL_get D _ p1
    have c2 : ∃ z, t1[a]? = some z ∧ e ∈ z.kids := by
      refine ⟨_, c1, ?_⟩
      by_cases ha : a = D
      · rw [if_pos ha]
        subst ha
        rw [hd] at p1; cases p1
        show e ∈ outL o.name _
        rw [mem_out]
        refine ⟨p2, fun hn => hei ?_⟩
        rw [asc_one (ok_asc hs hd) p2 m0 (by rw [hn, n0]), k0, hid]
      · rw [if_neg ha]; exact p2
    obtain ⟨z, z1, z2⟩ := c2
    have c3 : t2[a]? = some (if a = E then { z with kids := putL ⟨o.name2, o.id⟩ z.kids } else z) := by rw [ht2]; exact kidsL_get E _ z1
    refine ⟨_, c3, ?_⟩
    split
    · exact (mem_put _ _ _).2 (.inr z2)
    · exact z2
  have mi : (E, (⟨o.name2, (I : Int)⟩ : LEnt)) ∈ flat t2 := by
    rw [mem_flatE]
    have c3 : t2[E]? = some (if E = E then { y with kids := putL ⟨o.name2, o.id⟩ y.kids } else y) := by rw [ht2]; exact kidsL_get E _ hx1
    rw [if_pos rfl] at c3
    exact ⟨_, c3, (mem_put _ _ _).2 (.inl (by rw [hid]))⟩
  have hcn : ∀ i : Nat, 1 ≤ i → i < 32 → cnt (flat t2) i = if kindOf t2 i = 0 then 0 else 1 := fun i h1 h2 => by
    rw [hct, hkt]; exact ok_cnt hs h1 h2
  have hone : ∀ j : Nat, 1 ≤ j → j < 32 → cnt (flat t2) j ≤ 1 := fun j h1 h2 => by
    rw [hcn j h1 h2]; split <;> omega
  have hEl : kindOf os E = 2 := by rw [kindOf_at hx]; exact k2
  have hstep : ∀ j : Nat, 1 ≤ j → j < 32 → kindOf os j ≠ 0 → j ≠ I → ∃ a : Nat, homeIn (flat os) j = a ∧ homeIn (flat t2) j = a ∧ a < 32 ∧ kindOf os a ≠ 0 := fun j h1 h2 h3 h4 => by
    obtain ⟨a, e, m1, m2, m3, m4, m5⟩ := ok_home hs h1 h2 h3
    exact ⟨a, m3, by have := home_of (hm _ _ m1 (by rw [m2]; omega)) (by rw [m2]; exact hone j h1 h2); rw [m2] at this; exact this, m4, by omega⟩
  have hring : ∀ j, it os j (E : Int) ≠ (I : Int) := by
    intro j hj
    obtain ⟨m, hm1, hm2⟩ := depth31 hs (id := (E : Int)) (by simp [hasB, hEl]; omega)
    have := it_end hs hm2 (j := j) (by omega)
    apply g4
    rw [hid, hie, under_iff hs]
    exact ⟨by omega, j, by omega, hj⟩
  have upE : Up t2 E :=
    up_keep (fun j => j < 32 ∧ kindOf os j ≠ 0 ∧ ∀ k, it os k (j : Int) ≠ (I : Int)) (fun j hj h1 => by
      obtain ⟨a, a1, a2, a3, a4⟩ := hstep j h1 hj.1 hj.2.1 (by rintro rfl; exact hj.2.2 0 rfl)
      refine ⟨a, a1, a2, a3, a4, fun k hk => hj.2.2 (k + 1) ?_⟩
      rw [it, a1]
      exact hk) (ok_up hs (by omega) (by omega)) E rfl ⟨by omega, by omega, hring⟩
  have upI : Up t2 (I : Int) := by
    refine .step (by omega) ?_
    have := home_of mi (hone I (by omega) (by omega))
    rw [show ((⟨o.name2, (I : Int)⟩ : LEnt)).id = (I : Int) from rfl] at this
    rw [this]
    exact upE
  have upA : ∀ {i : Int}, Up os i → ∀ j : Nat, i = j → j < 32 → kindOf os j ≠ 0 → Up t2 i := by
    intro i h
    induction h with
    | top => intro _ _ _ _; exact .top
    | @step i h u ih =>
      intro j hj h2 h3
      by_cases e : j = I
      · rw [hj, e]; exact upI
      · obtain ⟨a, a1, a2, a3, a4⟩ := hstep j (by omega) h2 h3 e
        refine .step h ?_
        have := ih a (by rw [hj]; exact a1) a3 a4
        rw [hj, a1] at this
        rw [hj, a2]
        exact this
  have h2ok : specOk t2 = true := specOk_of hlt (by rw [hkt]; exact ok_top hs) ha2 hcn fun i h1 h2 h3 => upA (ok_up hs h2 (by rw [← hkt]; exact h3)) i rfl h2 (by rw [← hkt]; exact h3)
  have hD2 : ∀ z, t2[D]? = some z → z.ver < 1000000 := by
    intro z hz
    have c1 : t1[D]? = some (if D = D then { d with kids := outL o.name d.kids } else d) := by rw [ht1]; exact kidsL_get D _ hd
    rw [if_pos rfl] at c1
    have c3 := kidsL_get E (putL ⟨o.name2, o.id⟩) c1
    rw [← ht2, hz] at c3
    have c4 := Option.some.inj c3
    rw [c4]
    split <;> exact hdv
  have hE2 : ∀ z, t2[E]? = some z → z.ver < 1000000 := by
    intro z hz
    have c3 := kidsL_get E (putL ⟨o.name2, o.id⟩) hx1
    rw [← ht2, hz, if_pos rfl] at c3
    have c4 := Option.some.inj c3
    rw [c4]
    show y.ver < _
    omega
  rw [← ht1, ← ht2]
  unfold turnM
  have ht := turnL_ob ha2 hD2
  split
  · exact ok_like h2ok (turnL_len _ _) (turnL_kind _ _) (turnL_flat _ _) ht
  · next hne =>
    refine ok_like h2ok (by rw [turnL_len, turnL_len]) (fun i => by rw [turnL_kind, turnL_kind]) (by rw [turnL_flat, turnL_flat]) (turnL_ob ht fun z hz => hE2 z ?_)
    rw [turnL_ne _ (fun h => hne h.symm)] at hz
    exact hz

/-- What is done leaves a tree. -/
theorem act_ok {os : List LObj} {o : LOp} (hs : specOk os = true) (hk : opOk o = true) (hf : (actDo os o).2 = 0) : specOk (actDo os o).1 = true := by
  unfold actDo at hf ⊢
  by_cases hw : wornB os (opIds o) = true
  · rw [if_pos hw] at hf; simp at hf
  rw [if_neg hw] at hf ⊢
  have hw : wornB os (opIds o) = false := by simpa using hw
  by_cases h1 : o.kind = 1 ∨ o.kind = 2
  · rw [if_pos h1] at hf ⊢; exact new_ok hs hk hw h1 hf
  rw [if_neg h1] at hf ⊢
  by_cases h3 : o.kind = 3
  · rw [if_pos h3] at hf ⊢; exact gone_ok hs hk hw h3 hf
  rw [if_neg h3] at hf ⊢
  by_cases h4 : o.kind = 4
  · rw [if_pos h4] at hf ⊢; exact move_ok hs hk hw h4 hf
  rw [if_neg h4] at hf ⊢
  exact text_ok hs hk hw (op_body hk h1 h3 h4) hf
end Go.Proofs.YtnolbfijcnldjaaGreatDoor

/- The place of a name in a directory, by the program. -/
namespace Go.Proofs.YtnolbfijcnldjaaGreatDoor
open Go.RowKit

set_option maxHeartbeats 1000000 in
set_option maxRecDepth 100000 in
theorem search2_any (a : Option Addr) (n c : Nat) (es : List LEnt) (L U : Nat) (name : ByteArray) (w : World) (hn : n ≤ 1048576) (ha : Asc es) (hU : U ≤ w.heap.size) (H : EntsAt w L U a n es) :
    Calls Tryz.prog 179 #[.slice a n c, .string name, .func (.func 180) #[] #[]] w fun e w' => PlaceEnd es name e ∧ Below w.heap.size w w' := by
  have HL : Hid (n = es.length) := H.len
  go_enter Tryz.func179, Tryz.ntmps179
  go_wp2_with fail
  go_loopg [9, 10] (n + 1) (fun g i j wr => ∃ x y : Nat, x ≤ y ∧ y ≤ n ∧ Hid (g = y - x + 1) ∧ i = .int .i64 x ∧ j = .int .i64 y ∧ Hid (Low es name x ∧ High es name y) ∧ Below w.heap.size w wr)
  case atStart => exact ⟨0, n, by omega, by omega, by show _ = _; omega, rfl, rfl, ⟨fun i hi => by omega, fun i hi e he => by have := (List.getElem?_eq_some_iff.1 he).1; have := HL.out; omega⟩, Below.refl _ _⟩
  case round =>
    obtain ⟨x, y, hxy, hy, hg, rfl, rfl, hq, hb⟩ := hrel
    by_cases hlt : x < y
    · have hlt' : (x : Int) < (y : Int) := by omega
      obtain ⟨h, hh⟩ : ∃ h : Nat, ((x : Int) + (y : Int)) / 2 = (h : Int) := ⟨(x + y) / 2, by omega⟩
      have hh1 : x ≤ h := by omega
      have hh2 : h < y := by omega
      obtain ⟨b, off, ha', hL, hbU, hc⟩ := H.at_ (by omega)
      subst ha'
      obtain ⟨e, he, hsz, hc0, hc1⟩ := hc h (by omega)
      rw [← hb.cell (by simp; omega)] at hc0 hc1
      have HE : Hid (es[h]? = some e) := he
      clear he hc
      have hhn : (h : Int) < (n : Int) := by omega
      have hh0 : (0 : Int) ≤ (h : Int) := by omega
      go_wp2_with fail
      refine (closure_any _ _ _ _).mono ?_
      rintro z w1 ⟨rfl, rfl⟩
      have hb1 : ∀ o, Below w.heap.size w (wr.alloc o) := fun o => hb.alloc hb.size _
      by_cases hcm : Lib.compareBytes e.name.data.toList name.data.toList < 0
      · have HC : Hid (Lib.compareBytes (nm e) name.data.toList < 0) := hcm
        go_wp2_with fail
        go_roundg (y - (h + 1) + 1)
        case measure => have := hg.out; omega
        case rel => exact ⟨h + 1, y, by omega, by omega, rfl, by go_num, rfl, ⟨low_up ha HE.out HC.out, hq.out.2⟩, hb1 _⟩
      · have HC : Hid (¬ Lib.compareBytes (nm e) name.data.toList < 0) := hcm
        go_wp2_with fail
        go_roundg (h - x + 1)
        case measure => have := hg.out; omega
        case rel => exact ⟨x, h, by omega, by omega, rfl, rfl, rfl, ⟨hq.out.1, high_down ha HE.out (by have := HC.out; omega)⟩, hb1 _⟩
    · have hxy' : x = y := by omega
      subst hxy'
      by_cases hxn : x < n
      · obtain ⟨b, off, ha', hL, hbU, hc⟩ := H.at_ (by omega)
        subst ha'
        obtain ⟨e, he, hsz, hc0, hc1⟩ := hc x hxn
        rw [← hb.cell (by simp; omega)] at hc0 hc1
        have HE : Hid (es[x]? = some e) := he
        clear he hc
        have hxn' : (x : Int) < (n : Int) := by omega
        have hx0 : (0 : Int) ≤ (x : Int) := by omega
        have hb1 : ∀ o, Below w.heap.size w (wr.alloc o) := fun o => hb.alloc hb.size _
        go_wp2_with fail
        refine (closure_any _ _ _ _).mono ?_
        rintro z w1 ⟨rfl, rfl⟩
        by_cases hcm : Lib.compareBytes e.name.data.toList name.data.toList = 0
        · have t1 : (Lib.compareBytes e.name.data.toList name.data.toList == 0) = true := by simpa using hcm
          clear hcm
          go_wp2_with fail
          go_ret2
          exact ⟨⟨x, true, rfl, by have := HL.out; omega, hq.out.1, hq.out.2⟩, hb1 _⟩
        · have t1 : (Lib.compareBytes e.name.data.toList name.data.toList == 0) = false := by simpa using hcm
          clear hcm
          go_wp2_with fail
          go_ret2
          exact ⟨⟨x, false, rfl, by have := HL.out; omega, hq.out.1, hq.out.2⟩, hb1 _⟩
      · have hxn' : ¬ (x : Int) < (n : Int) := by omega
        go_wp2_with fail
        go_ret2
        exact ⟨⟨x, false, rfl, by have := HL.out; omega, hq.out.1, hq.out.2⟩, hb⟩

set_option maxHeartbeats 400000 in
theorem place2_any (a : Option Addr) (n c : Nat) (es : List LEnt) (L U : Nat) (name : ByteArray) (w : World) (hn : n ≤ 1048576) (ha : Asc es) (hU : U ≤ w.heap.size) (H : EntsAt w L U a n es) :
    Calls Tryz.prog 137 #[.slice a n c, .string name] w fun e w' => PlaceEnd es name e ∧ Below w.heap.size w w' := by
  go_enter Tryz.func137, Tryz.ntmps137
  go_wp2_with fail
  refine (search2_any _ _ _ _ L U _ _ hn ha hU H).mono ?_
  rintro z w1 ⟨⟨x, b, rfl, hr⟩, hb⟩
  have HR : Hid (x ≤ es.length ∧ Low es name x ∧ High es name x) := hr
  clear hr
  go_wp2_with fail
  go_ret2
  exact ⟨⟨x, b, rfl, HR.out⟩, hb⟩

end Go.Proofs.YtnolbfijcnldjaaGreatDoor
