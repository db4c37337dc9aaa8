/- Lemmas that the proofs of this seat share: BackP, LongAll, LaidS. -/
import Derived.Test.YtnolbfijcnldjaaGreatDoorW22
import Derived.Test.YtnolbfijcnldjaaGreatDoorW16
import Derived.Test.YtnolbfijcnldjaaGreatDoorW12
import Derived.Test.YtnolbfijcnldjaaGreatDoorW13
import Derived.Deep.CutBlock
import Derived.Test.YtnolbfijcnldjaaGreatDoorW01
import Derived.Test.YtnolbfijcnldjaaGreatDoorW03
import Derived.OpenShut
import Derived.Test.YtnolbfijcnldjaaGreatDoorW21
import Derived.Test.YtnolbfijcnldjaaGreatDoorRows
import Derived.Test.YtnolbfijcnldjaaGreatDoorW17
import Derived.LaidLaws
import Derived.LaidSub
import Derived.Stop.LaidErr
import Derived.RowKitTokens
import Derived.ChangeReads
/- What is done can be undone: plain facts. -/
namespace Go.Proofs.YtnolbfijcnldjaaGreatDoor

/-! Names put in and taken out again. -/
theorem out_put {es : List LEnt} {x : LEnt} (h : ∀ e ∈ es, e.name ≠ x.name) : outL x.name (putL x es) = es := by
  have hk : ∀ l : List LEnt, (∀ e ∈ l, e ∈ es) → outL x.name l = l := fun l hl => by
    unfold outL
    refine List.filter_eq_self.2 fun e he => ?_
    have := h e (hl e he)
    simp only [Bool.not_eq_true', beq_eq_false_iff_ne]
    exact fun e2 => this (list_inj e2)
  have happ : ∀ a b : List LEnt, outL x.name (a ++ b) = outL x.name a ++ outL x.name b := fun a b => by unfold outL; exact List.filter_append a b
  have h1 : outL x.name [x] = [] := by unfold outL; simp
  unfold putL
  rw [happ, happ, h1, hk _ fun e he => List.mem_of_mem_take he, hk _ fun e he => List.mem_of_mem_drop he, List.append_nil, List.take_append_drop]
theorem asc_less {e : LEnt} {es : List LEnt} (h : Asc (e :: es)) : ∀ y ∈ es, Op.bytesLess (nm e) (nm y) = true := fun y hy => (List.pairwise_cons.1 (asc_pair h)).1 y hy
theorem putL_cons_lt {x y : LEnt} {es : List LEnt} (h : Op.bytesLess (nm y) (nm x) = true) : putL x (y :: es) = y :: putL x es := by
  have hl : lessN x.name y = true := by unfold lessN; rw [Go.ByteArray.toList_eq, Go.ByteArray.toList_eq]; exact h
  have hp : placeL x.name (y :: es) = placeL x.name es + 1 := by
    unfold placeL
    rw [List.takeWhile_cons, if_pos hl]
    rfl
  unfold putL
  rw [hp]
  simp
theorem putL_cons_ge {x y : LEnt} {es : List LEnt} (h : Op.bytesLess (nm y) (nm x) = false) : putL x (y :: es) = x :: y :: es := by
  have hl : lessN x.name y = false := by unfold lessN; rw [Go.ByteArray.toList_eq, Go.ByteArray.toList_eq]; exact h
  have hp : placeL x.name (y :: es) = 0 := by
    unfold placeL
    rw [List.takeWhile_cons, if_neg (by rw [hl]; simp)]
    rfl
  unfold putL
  rw [hp]
  simp
theorem asc_tail {y : LEnt} {es : List LEnt} (h : Asc (y :: es)) : Asc es := fun i j a b hij ha hb => h (i + 1) (j + 1) a b (by omega) (by simpa using ha) (by simpa using hb)
theorem out_none {es : List LEnt} {name : ByteArray} (h : ∀ e ∈ es, e.name ≠ name) : outL name es = es := by
  unfold outL
  refine List.filter_eq_self.2 fun e he => ?_
  have := h e he
  simp only [Bool.not_eq_true', beq_eq_false_iff_ne]
  exact fun e2 => this (list_inj e2)
theorem less_asym {a b : List UInt8} (h : Op.bytesLess a b = true) : Op.bytesLess b a = false := by
  have := less_tri a b
  rw [h, Bool.true_or] at this
  simpa using this.symm
theorem put_out : ∀ {es : List LEnt}, Asc es → ∀ e ∈ es, putL e (outL e.name es) = es
  | [], _, e, he => by simp at he
  | y :: es, h, e, he => by
    have hy := asc_less h
    by_cases hey : e.name = y.name
    · obtain rfl : e = y := asc_one h he (List.mem_cons_self ..) hey
      have h1 : ∀ z ∈ es, z.name ≠ e.name := fun z hz e2 => by
        have := hy z hz
        unfold nm at this
        rw [e2, less_irr] at this
        cases this
      have h2 : outL e.name (e :: es) = es := by
        have h3 : outL e.name (e :: es) = outL e.name es := by unfold outL; simp
        rw [h3, out_none h1]
      rw [h2]
      match es, hy with
      | [], _ => rfl
      | z :: r, hy => exact putL_cons_ge (less_asym (hy z (List.mem_cons_self ..)))
    · have her : e ∈ es := (List.mem_cons.1 he).resolve_left fun e2 => hey (by rw [e2])
      have h3 : outL e.name (y :: es) = y :: outL e.name es := by
        unfold outL
        rw [List.filter_cons, if_pos]
        simp only [Bool.not_eq_true', beq_eq_false_iff_ne]
        exact fun e2 => hey (list_inj e2).symm
      rw [h3, putL_cons_lt (hy e her), put_out (asc_tail h) e her]

/-! What is undone. -/
/-- No object that is named was turned all but as often as can be. -/
def Soft (os : List LObj) (o : LOp) : Prop := ∀ i ∈ opIds o, ∀ a, os[i]? = some a → a.ver ≤ 1000 ∨ 1000000 ≤ a.ver
theorem soft_ver {os : List LObj} {o : LOp} (h : Soft os o) (hw : ¬ wornB os (opIds o) = true) {i : Nat} (hi : i ∈ opIds o) {a : LObj} (ha : os[i]? = some a) : a.ver ≤ 1000 := by
  rcases h i hi a ha with h | h
  · exact h
  · have := worn_no (by simpa using hw) hi ha
    omega
theorem oLike_of {a b : LObj} (h1 : a.kind = b.kind) (h2 : a.text = b.text) (h3 : a.kids = b.kids) : oLike a b = true := by
  have h4 : listEq eEq a.kids b.kids = true := by rw [h3]; exact listEq_yes rfl fun j x y hx hy => by rw [hx] at hy; cases hy; exact eEq_rfl x
  unfold oLike
  rw [h1, h2, h4, (sEq_iff _ _).2 rfl]
  simp
theorem none_like {x : LObj} (h : objB x = true) (hk : x.kind = 0) (v : Int) : oLike ⟨0, v, ⟨#[]⟩, []⟩ x = true := by
  have h1 := none_kids h (by omega)
  have h2 : emp x.text = true := by
    simp [objB, verB, partsB, hk] at h
    exact h.2.1
  have h3 : sEq ⟨#[]⟩ x.text = true := by
    unfold emp at h2
    unfold sEq
    rw [List.isEmpty_iff.1 h2, Go.ByteArray.toList_eq]
    rfl
  unfold oLike
  rw [h1, h3, hk]
  rfl
theorem not_worn {os : List LObj} {o : LOp} (h : ∀ i ∈ opIds o, ∀ a, os[i]? = some a → a.ver < 1000000) : ¬ wornB os (opIds o) = true := fun hw => by
  unfold wornB at hw
  obtain ⟨i, hi, hb⟩ := List.any_eq_true.1 hw
  unfold oldB at hb
  split at hb
  · rename_i a ha
    have := h i hi a ha
    simp at hb; omega
  · cases hb
/-- What names alone the objects of another. -/
theorem ids_of {o : LOp} (hk : opOk o = true) {i : Nat} (hi : i ∈ opIds o) : i = o.id.toNat ∨ (o.kind ≠ 5 ∧ i = o.dir.toNat) ∨ (o.kind = 4 ∧ i = o.dir2.toNat) := by
  rw [opIds_set hk, setL, List.mem_filter] at hi
  have := hi.2
  unfold inSet at this
  simp at this
  rcases this with (h | h) | h
  · exact .inl h
  · exact .inr (.inl h)
  · exact .inr (.inr h)
structure BackNew (os : List LObj) (o : LOp) (x : List LObj) (g : LOp) : Prop where
  fine : (actR x g).2 = 0
  like : listEq oLike (actR x g).1 os = true
  stale : freshV (actR x g).1 o.id = false
  fresh : freshV os o.id = true
theorem back_new {os : List LObj} {o : LOp} (hsoft : Soft os o) (hk1 : o.kind = 1 ∨ o.kind = 2) (h0 : (actR os o).2 = 0) : BackNew os o (actR os o).1 ⟨3, o.dir, o.name, 0, ⟨#[]⟩, o.id, ⟨#[]⟩⟩ := by
  obtain ⟨hs, hk, hr⟩ := actR_fine h0
  have hs1 := actR_ok hs o
  obtain ⟨i1, i2⟩ := opOk_id hk
  obtain ⟨d1, d2⟩ := opOk_dir hk
  have hl := ok_len hs
  have hI := id_in hk
  have hD := dir_in hk (by omega)
  have hokg : opOk ⟨3, o.dir, o.name, 0, ⟨#[]⟩, o.id, ⟨#[]⟩⟩ = true := by
    unfold opOk at hk ⊢
    rw [if_pos (by rcases hk1 with h | h <;> simp [h])] at hk
    rw [if_pos (.inr (.inr rfl))]
    have hn : (⟨#[]⟩ : ByteArray).toList.isEmpty = true := by rw [Go.ByteArray.toList_eq]; rfl
    simp only [opId, opSlot, opNone2, Bool.and_eq_true] at hk ⊢
    exact ⟨⟨hk.1.1, by simp⟩, hn⟩
  have hw : ¬ wornB os (opIds o) = true := fun h => by
    rw [hr] at h0; unfold actDo at h0; rw [if_pos h] at h0; simp at h0
  obtain ⟨d, hd⟩ := at_ (os := os) hl d1 d2
  obtain ⟨x, hx⟩ := at_ (os := os) hl (by omega) i2
  obtain ⟨I, hII⟩ : ∃ I : Nat, o.id.toNat = I := ⟨_, rfl⟩
  obtain ⟨D, hDD⟩ : ∃ D : Nat, o.dir.toNat = D := ⟨_, rfl⟩
  have hdv := soft_ver hsoft hw hD hd
  have hxv0 := obj_ver (ok_obj hs hx)
  rw [hII] at hx
  rw [hDD] at hd
  have h0' := h0
  rw [hr] at h0'
  unfold actDo at h0'
  rw [if_neg hw, if_pos hk1] at h0'
  unfold actNew at h0'
  simp only [hII, hDD, hd, hx] at h0'
  by_cases g1 : d.kind ≠ 2
  · rw [if_pos g1] at h0'; simp at h0'
  by_cases g2 : 0 ≤ findV d.kids o.name
  · rw [if_neg g1, if_pos g2] at h0'; simp at h0'
  by_cases g3 : x.kind ≠ 0 ∨ 0 < x.ver
  · rw [if_neg g1, if_neg g2, if_pos g3] at h0'; simp at h0'
  have g1 : d.kind = 2 := by simpa using g1
  have hne : I ≠ D := by rintro rfl; rw [hx] at hd; cases hd; omega
  obtain ⟨e1, he1⟩ : ∃ e1 : LObj, e1 = { d with kids := putL ⟨o.name, o.id⟩ d.kids, ver := d.ver + 1 } := ⟨_, rfl⟩
  obtain ⟨x1, hx1⟩ : ∃ x1 : LObj, x1 = (⟨if o.kind = 2 then 2 else 1, 1, ⟨#[]⟩, []⟩ : LObj) := ⟨_, rfl⟩
  have hA : (actR os o).1 = (os.set I x1).set D e1 := by
    rw [hr]; unfold actDo; rw [if_neg hw, if_pos hk1]; unfold actNew
    simp only [hII, hDD, hd, hx]
    rw [if_neg (by simp [g1]), if_neg g2, if_neg g3, he1, hx1]
  obtain ⟨o1, ho1⟩ : ∃ o1, o1 = (os.set I x1).set D e1 := ⟨_, rfl⟩
  rw [hA, ← ho1] at hs1 ⊢
  have a0 : o1[D]? = some e1 := by rw [ho1]; exact set_self (by simp [hl]; omega)
  have aI : o1[I]? = some x1 := by rw [ho1, List.getElem?_set_ne (Ne.symm hne)]; exact set_self (by rw [hl]; omega)
  have hnm : ∀ e ∈ d.kids, e.name ≠ o.name := find_no g2 (ents_pos hs hd)
  have hfi : findV e1.kids o.name = o.id := by
    rw [he1]
    have hu : ∀ e ∈ putL ⟨o.name, o.id⟩ d.kids, e.name = o.name → e.id = o.id := fun e he hn => by
      rcases (mem_put _ _ _).1 he with rfl | he
      · rfl
      · exact absurd hn (hnm e he)
    unfold findV
    split
    · rename_i e he
      have h2 := List.find?_some he
      exact hu e (List.mem_of_find?_eq_some he) ((sEq_iff _ _).1 h2)
    · rename_i hn
      have := List.find?_eq_none.1 hn ⟨o.name, o.id⟩ ((mem_put _ _ _).2 (.inl rfl))
      exact absurd ((sEq_iff _ _).2 rfl) (by simpa using this)
  have hwg : ¬ wornB o1 (opIds ⟨3, o.dir, o.name, 0, ⟨#[]⟩, o.id, ⟨#[]⟩⟩) = true := not_worn fun i hi a ha => by
    rcases ids_of hokg hi with h | ⟨-, h⟩ | ⟨h, -⟩
    · have h : i = I := by rw [← hII]; exact h
      rw [h, aI] at ha; cases ha; rw [hx1]; show (1 : Int) < _; omega
    · have h : i = D := by rw [← hDD]; exact h
      rw [h, a0] at ha; cases ha; rw [he1]; show d.ver + 1 < _; omega
    · exact absurd h (by simp)
  obtain ⟨e2, he2⟩ : ∃ e2 : LObj, e2 = { e1 with kids := outL o.name e1.kids, ver := e1.ver + 1 } := ⟨_, rfl⟩
  obtain ⟨x2, hx2⟩ : ∃ x2 : LObj, x2 = (⟨0, x1.ver + 1, ⟨#[]⟩, []⟩ : LObj) := ⟨_, rfl⟩
  have hB : actR o1 ⟨3, o.dir, o.name, 0, ⟨#[]⟩, o.id, ⟨#[]⟩⟩ = ((o1.set D e2).set I x2, 0) := by
    rw [actR_do hs1 hokg]; unfold actDo; rw [if_neg hwg, if_neg (by simp), if_pos rfl]
    unfold actGone
    simp only [hII, hDD, a0, aI]
    rw [if_neg (by rw [he1]; simpa using g1), if_neg (by simpa using hfi), if_neg (by rw [hx1]; simp), he2, hx2]
  have hok2 := actR_ok hs1 ⟨3, o.dir, o.name, 0, ⟨#[]⟩, o.id, ⟨#[]⟩⟩
  have hl1 := ok_len hs1
  refine ⟨by rw [hB], ?_, ?_, ?_⟩
  · rw [hB]
    refine listEq_yes (by simp [hl1, hl]) fun j a b ha hb => ?_
    by_cases hjI : j = I
    · subst hjI
      rw [set_self (by simp [hl1]; omega)] at ha
      rw [hx] at hb
      cases ha; cases hb
      rw [hx2]
      exact none_like (ok_obj hs hx) (by omega) _
    · rw [List.getElem?_set_ne (Ne.symm hjI)] at ha
      by_cases hjD : j = D
      · subst hjD
        rw [set_self (by rw [hl1]; omega)] at ha
        rw [hd] at hb
        cases ha; cases hb
        rw [he2, he1]
        exact oLike_of rfl rfl (out_put (x := ⟨o.name, o.id⟩) hnm)
      · rw [List.getElem?_set_ne (Ne.symm hjD), ho1, List.getElem?_set_ne (Ne.symm hjD), List.getElem?_set_ne (Ne.symm hjI), hb] at ha
        cases ha
        exact oLike_rfl _
  · rw [hB]
    unfold freshV
    rw [hII, set_self (by simp [hl1]; omega), hx2, hx1]
    simp
  · unfold freshV idB
    rw [hs, hII, hx]
    have : x.kind = 0 := by omega
    have : x.ver = 0 := by omega
    simp [*]
    omega
structure BackText (x : List LObj) (o : LOp) : Prop where
  fine : (actR x o).2 = 0
  like : listEq oLike (actR x o).1 x = true
  text : ∃ a, x[o.id.toNat]? = some a ∧ a.text = o.text
theorem back_text {os : List LObj} {o : LOp} (hsoft : Soft os o) (hk5 : o.kind = 5) (h0 : (actR os o).2 = 0) : BackText (actR os o).1 o := by
  obtain ⟨hs, hk, hr⟩ := actR_fine h0
  have hs1 := actR_ok hs o
  obtain ⟨i1, i2⟩ := opOk_id hk
  have hl := ok_len hs
  have hI := id_in hk
  have hw : ¬ wornB os (opIds o) = true := fun h => by
    rw [hr] at h0; unfold actDo at h0; rw [if_pos h] at h0; simp at h0
  obtain ⟨x, hx⟩ := at_ (os := os) hl (by omega) i2
  have hxv := soft_ver hsoft hw hI hx
  obtain ⟨I, hII⟩ : ∃ I : Nat, o.id.toNat = I := ⟨_, rfl⟩
  rw [hII] at hx
  have n1 : ¬ (o.kind = 1 ∨ o.kind = 2) := by omega
  have n3 : ¬ o.kind = 3 := by omega
  have n4 : ¬ o.kind = 4 := by omega
  have hT : ∀ t y, t[I]? = some y → ¬ wornB t (opIds o) = true → actDo t o = if y.kind ≠ 1 then (t, 6) else (t.set I { y with text := o.text, ver := y.ver + 1 }, 0) := fun t y hy hwt => by
    unfold actDo; rw [if_neg hwt, if_neg n1, if_neg n3, if_neg n4]; unfold actText; simp only [hII, hy]
  have e0 := hT os x hx hw
  have g1 : x.kind = 1 := by
    by_cases g : x.kind ≠ 1
    · rw [if_pos g] at e0; rw [hr, e0] at h0; simp at h0
    · simpa using g
  rw [if_neg (by simp [g1])] at e0
  have hA : (actR os o).1 = os.set I { x with text := o.text, ver := x.ver + 1 } := by rw [hr, e0]
  obtain ⟨o1, ho1⟩ : ∃ o1, o1 = os.set I { x with text := o.text, ver := x.ver + 1 } := ⟨_, rfl⟩
  rw [hA, ← ho1] at hs1 ⊢
  have aI : o1[I]? = some { x with text := o.text, ver := x.ver + 1 } := by rw [ho1]; exact set_self (by rw [hl]; omega)
  have hw1 : ¬ wornB o1 (opIds o) = true := not_worn fun i hi a ha => by
    rcases ids_of hk hi with h | ⟨h, -⟩ | ⟨h, -⟩
    · rw [hII] at h
      rw [h, aI] at ha; cases ha; show x.ver + 1 < _; omega
    · exact absurd hk5 h
    · exact absurd h n4
  have e1 := hT o1 _ aI hw1
  rw [if_neg (by simp [g1])] at e1
  refine ⟨by rw [actR_do hs1 hk, e1], ?_, ⟨_, by rw [hII]; exact aI, rfl⟩⟩
  rw [actR_do hs1 hk, e1]
  refine listEq_yes (by simp) fun j a b ha hb => ?_
  by_cases hj : j = I
  · subst hj
    rw [set_self (by rw [ok_len hs1]; omega)] at ha
    rw [aI] at hb
    cases ha; cases hb
    exact oLike_of rfl rfl rfl
  · rw [List.getElem?_set_ne (Ne.symm hj), hb] at ha
    cases ha
    exact oLike_rfl _
structure BackGone (x : List LObj) (o : LOp) : Prop where
  code : (actR x o).2 = 2
  home : homeV x o.id = -1
  none : ∃ a, x[o.id.toNat]? = some a ∧ a.kind = 0
theorem back_gone {os : List LObj} {o : LOp} (hsoft : Soft os o) (hk3 : o.kind = 3) (h0 : (actR os o).2 = 0) : BackGone (actR os o).1 o := by
  obtain ⟨hs, hk, hr⟩ := actR_fine h0
  have hs1 := actR_ok hs o
  obtain ⟨i1, i2⟩ := opOk_id hk
  obtain ⟨d1, d2⟩ := opOk_dir hk
  have hl := ok_len hs
  have hI := id_in hk
  have hD := dir_in hk (by omega)
  have hw : ¬ wornB os (opIds o) = true := fun h => by
    rw [hr] at h0; unfold actDo at h0; rw [if_pos h] at h0; simp at h0
  obtain ⟨d, hd⟩ := at_ (os := os) hl d1 d2
  obtain ⟨x, hx⟩ := at_ (os := os) hl (by omega) i2
  have hdv := soft_ver hsoft hw hD hd
  have hxv := soft_ver hsoft hw hI hx
  obtain ⟨I, hII⟩ : ∃ I : Nat, o.id.toNat = I := ⟨_, rfl⟩
  obtain ⟨D, hDD⟩ : ∃ D : Nat, o.dir.toNat = D := ⟨_, rfl⟩
  rw [hII] at hx
  rw [hDD] at hd
  have n1 : ¬ (o.kind = 1 ∨ o.kind = 2) := by omega
  have hne : I ≠ D := fun e => actDo_gone hk (by rw [← hr]; exact h0) hk3 (by omega)
  have hT : ∀ t e y, t[D]? = some e → t[I]? = some y → ¬ wornB t (opIds o) = true → actDo t o = if e.kind ≠ 2 then (t, 1) else if findV e.kids o.name ≠ o.id then (t, 2) else if 0 < y.kids.length then (t, 4) else ((t.set D { e with kids := outL o.name e.kids, ver := e.ver + 1 }).set I ⟨0, y.ver + 1, ⟨#[]⟩, []⟩, 0) := fun t e y he hy hwt => by
    unfold actDo; rw [if_neg hwt, if_neg n1, if_pos hk3]; unfold actGone; simp only [hII, hDD, he, hy]
  have e0 := hT os d x hd hx hw
  have g1 : d.kind = 2 := by
    by_cases g : d.kind ≠ 2
    · rw [if_pos g] at e0; rw [hr, e0] at h0; simp at h0
    · simpa using g
  rw [if_neg (by simp [g1])] at e0
  by_cases g2 : findV d.kids o.name ≠ o.id
  · rw [if_pos g2] at e0; rw [hr, e0] at h0; simp at h0
  rw [if_neg g2] at e0
  by_cases g3 : 0 < x.kids.length
  · rw [if_pos g3] at e0; rw [hr, e0] at h0; simp at h0
  rw [if_neg g3] at e0
  obtain ⟨e1, he1⟩ : ∃ e1 : LObj, e1 = { d with kids := outL o.name d.kids, ver := d.ver + 1 } := ⟨_, rfl⟩
  obtain ⟨x1, hx1⟩ : ∃ x1 : LObj, x1 = (⟨0, x.ver + 1, ⟨#[]⟩, []⟩ : LObj) := ⟨_, rfl⟩
  rw [← he1, ← hx1] at e0
  have hA : (actR os o).1 = (os.set D e1).set I x1 := by rw [hr, e0]
  obtain ⟨o1, ho1⟩ : ∃ o1, o1 = (os.set D e1).set I x1 := ⟨_, rfl⟩
  rw [hA, ← ho1] at hs1 ⊢
  have aI : o1[I]? = some x1 := by rw [ho1]; exact set_self (by simp [hl]; omega)
  have a0 : o1[D]? = some e1 := by rw [ho1, List.getElem?_set_ne hne]; exact set_self (by rw [hl]; omega)
  have hw1 : ¬ wornB o1 (opIds o) = true := not_worn fun i hi a ha => by
    rcases ids_of hk hi with h | ⟨-, h⟩ | ⟨h, -⟩
    · rw [hII] at h
      rw [h, aI] at ha; cases ha; rw [hx1]; show x.ver + 1 < _; omega
    · rw [hDD] at h
      rw [h, a0] at ha; cases ha; rw [he1]; show d.ver + 1 < _; omega
    · omega
  have e2 := hT o1 _ _ a0 aI hw1
  have hfn : findV e1.kids o.name = -1 := by
    rw [he1]
    unfold findV
    split
    · rename_i e he
      have h2 := List.find?_some he
      exact absurd ((sEq_iff _ _).1 h2) ((mem_out _ _ _).1 (List.mem_of_find?_eq_some he)).2
    · rfl
  rw [if_neg (by rw [he1]; simp [g1]), if_pos (by rw [hfn]; omega)] at e2
  refine ⟨by rw [actR_do hs1 hk, e2], ?_, ⟨x1, by rw [hII]; exact aI, by rw [hx1]⟩⟩
  rw [homeV_yes hs1]
  refine dead_home hs1 ?_
  unfold hasB
  rw [hII, kindOf_at aI, hx1]
  simp

/-! Something is moved, and moved back. -/
def mvK (D E : Nat) (n1 : ByteArray) (x2 : LEnt) (j : Nat) (ks : List LEnt) : List LEnt := if j = E then putL x2 (if j = D then outL n1 ks else ks) else (if j = D then outL n1 ks else ks)
theorem mv_get {t : List LObj} {D E : Nat} {n1 : ByteArray} {x2 : LEnt} {j : Nat} {a : LObj} (h : t[j]? = some a) : ∃ b, (turnM (kidsL (kidsL t D (outL n1)) E (putL x2)) D E)[j]? = some b ∧ b.kind = a.kind ∧ b.text = a.text ∧ b.ver ≤ a.ver + 1 ∧ b.kids = mvK D E n1 x2 j a.kids := by
  have q2 := kidsL_get E (putL x2) (kidsL_get D (outL n1) h)
  unfold turnM mvK
  by_cases hED : E = D
  · rw [if_pos hED, turnL_get D q2]
    refine ⟨_, rfl, ?_⟩
    by_cases hj : j = D
    · subst hj; simp [hED]
    · have : j ≠ E := by omega
      simp [hj, this]; omega
  · rw [if_neg hED, turnL_get E (turnL_get D q2)]
    refine ⟨_, rfl, ?_⟩
    by_cases hj : j = D
    · subst hj
      have : j ≠ E := fun e => hED e.symm
      simp [this]
    · by_cases hj2 : j = E
      · subst hj2; simp [hj]
      · simp [hj, hj2]; omega
structure BackMove (os : List LObj) (o : LOp) (x : List LObj) (g : LOp) : Prop where
  fine : (actR x g).2 = 0
  like : listEq oLike (actR x g).1 os = true
  find : treeFindV x o.dir2 o.name2 = o.id
theorem findV_u {es : List LEnt} {x : LEnt} (hx : x ∈ es) (hu : ∀ e ∈ es, e.name = x.name → e.id = x.id) : findV es x.name = x.id := by
  unfold findV
  split
  · rename_i e he
    have h2 := List.find?_some he
    exact hu e (List.mem_of_find?_eq_some he) ((sEq_iff _ _).1 h2)
  · rename_i hn
    have := List.find?_eq_none.1 hn x hx
    exact absurd ((sEq_iff _ _).2 rfl) (by simpa using this)
theorem findV_n {es : List LEnt} {name : ByteArray} (h : ∀ e ∈ es, e.name ≠ name) : findV es name = -1 := by
  unfold findV
  split
  · rename_i e he
    have h2 := List.find?_some he
    exact absurd ((sEq_iff _ _).1 h2) (h e (List.mem_of_find?_eq_some he))
  · rfl
theorem back_move {os : List LObj} {o : LOp} (hsoft : Soft os o) (hk4 : o.kind = 4) (h0 : (actR os o).2 = 0) : BackMove os o (actR os o).1 ⟨4, o.dir2, o.name2, o.dir, o.name, o.id, ⟨#[]⟩⟩ := by
  obtain ⟨hs, hk, hr⟩ := actR_fine h0
  have hs1 := actR_ok hs o
  obtain ⟨i1, i2⟩ := opOk_id hk
  obtain ⟨d1, d2⟩ := opOk_dir hk
  obtain ⟨b1, b2⟩ := opOk_dir2 hk
  have hl := ok_len hs
  have hDi := dir_in hk (by omega)
  have hEi := dir2_in hk hk4
  have hokg : opOk ⟨4, o.dir2, o.name2, o.dir, o.name, o.id, ⟨#[]⟩⟩ = true := by
    unfold opOk at hk ⊢
    rw [if_neg (by omega), if_pos hk4] at hk
    rw [if_neg (by simp), if_pos rfl]
    have hn : (⟨#[]⟩ : ByteArray).toList.isEmpty = true := by rw [Go.ByteArray.toList_eq]; rfl
    simp only [opId, opSlot, opSlot2, Bool.and_eq_true] at hk ⊢
    exact ⟨⟨⟨hk.1.1.1, hk.1.2⟩, hk.1.1.2⟩, hn⟩
  have hw : ¬ wornB os (opIds o) = true := fun h => by
    rw [hr] at h0; unfold actDo at h0; rw [if_pos h] at h0; simp at h0
  obtain ⟨d, hd⟩ := at_ (os := os) hl d1 d2
  obtain ⟨y, hy⟩ := at_ (os := os) hl b1 b2
  have hdv := soft_ver hsoft hw hDi hd
  have hyv := soft_ver hsoft hw hEi hy
  obtain ⟨x, hx⟩ := at_ (os := os) hl (by omega) i2
  have hxv := soft_ver hsoft hw (id_in hk) hx
  obtain ⟨I, hII⟩ : ∃ I : Nat, o.id.toNat = I := ⟨_, rfl⟩
  obtain ⟨D, hDD⟩ : ∃ D : Nat, o.dir.toNat = D := ⟨_, rfl⟩
  obtain ⟨E, hEE⟩ : ∃ E : Nat, o.dir2.toNat = E := ⟨_, rfl⟩
  rw [hDD] at hd
  rw [hEE] at hy
  rw [hII] at hx
  have hid : o.id = (I : Int) := by omega
  have hdd : o.dir = (D : Int) := by omega
  have hde : o.dir2 = (E : Int) := by omega
  have n1 : ¬ (o.kind = 1 ∨ o.kind = 2) := by omega
  have n3 : ¬ o.kind = 3 := by omega
  have e0 : actDo os o = if d.kind ≠ 2 ∨ y.kind ≠ 2 then (os, 1) else if findV d.kids o.name ≠ o.id then (os, 2) else if 0 ≤ findV y.kids o.name2 then (os, 3) else if under os o.id 33 o.dir2 = true then (os, 5) else (turnM (kidsL (kidsL os D (outL o.name)) E (putL ⟨o.name2, o.id⟩)) D E, 0) := by
    unfold actDo; rw [if_neg hw, if_neg n1, if_neg n3, if_pos hk4]; unfold actMove; simp only [hDD, hEE, hd, hy]
  by_cases g1 : d.kind ≠ 2 ∨ y.kind ≠ 2
  · rw [if_pos g1] at e0; rw [hr, e0] at h0; simp at h0
  rw [if_neg g1] at e0
  by_cases g2 : findV d.kids o.name ≠ o.id
  · rw [if_pos g2] at e0; rw [hr, e0] at h0; simp at h0
  rw [if_neg g2] at e0
  by_cases g3 : 0 ≤ findV y.kids o.name2
  · rw [if_pos g3] at e0; rw [hr, e0] at h0; simp at h0
  rw [if_neg g3] at e0
  by_cases g4 : under os o.id 33 o.dir2 = true
  · rw [if_pos g4] at e0; rw [hr, e0] at h0; simp at h0
  rw [if_neg g4] at e0
  have g1 : d.kind = 2 ∧ y.kind = 2 := by omega
  have g2 : findV d.kids o.name = o.id := by simpa using g2
  obtain ⟨o1, ho1⟩ : ∃ o1, o1 = turnM (kidsL (kidsL os D (outL o.name)) E (putL ⟨o.name2, o.id⟩)) D E := ⟨_, rfl⟩
  have hA : (actR os o).1 = o1 := by rw [hr, e0, ho1]
  rw [hA] at hs1 ⊢
  have hget : ∀ {j : Nat} {a : LObj}, os[j]? = some a → ∃ b, o1[j]? = some b ∧ b.kind = a.kind ∧ b.text = a.text ∧ b.ver ≤ a.ver + 1 ∧ b.kids = mvK D E o.name ⟨o.name2, o.id⟩ j a.kids := fun h => by rw [ho1]; exact mv_get h
  obtain ⟨en, m0, nn0, k0⟩ := find_name g2 (by omega)
  obtain rfl : en = ⟨o.name, o.id⟩ := by cases en; simp_all
  have hnm := find_no g3 (ents_pos hs hy)
  have hasc : Asc d.kids := asc_of (dir_parts (ok_obj hs hd) g1.1).2.2.2
  obtain ⟨bD, hbD, kD, tD, vD, cD⟩ := hget hd
  obtain ⟨bE, hbE, kE, tE, vE, cE⟩ := hget hy
  have hnD : D = E → o.name ≠ o.name2 := fun e hn => by
    subst e
    rw [hd] at hy; cases hy
    exact hnm _ m0 hn
  have fE : findV bE.kids o.name2 = o.id := by
    rw [cE]
    unfold mvK
    rw [if_pos rfl]
    refine findV_u (x := ⟨o.name2, o.id⟩) ((mem_put _ _ _).2 (.inl rfl)) fun e he hn => ?_
    rcases (mem_put _ _ _).1 he with rfl | he
    · rfl
    · by_cases hED : E = D
      · rw [if_pos hED] at he
        exact absurd hn (hnm e ((mem_out _ _ _).1 he).1)
      · rw [if_neg hED] at he
        exact absurd hn (hnm e he)
  have fD : findV bD.kids o.name = -1 := by
    refine findV_n fun e he => ?_
    rw [cD] at he
    unfold mvK at he
    rw [if_pos rfl] at he
    by_cases hDE : D = E
    · rw [if_pos hDE] at he
      rcases (mem_put _ _ _).1 he with rfl | he
      · exact fun h => hnD hDE h.symm
      · exact ((mem_out _ _ _).1 he).2
    · rw [if_neg hDE] at he
      exact ((mem_out _ _ _).1 he).2
  -- the way up from where it was does not come by it
  have hkx : kindOf os I ≠ 0 := by
    have h5 := cnt_yes (mem_flatE.2 ⟨d, hd, m0⟩)
    rw [show (⟨o.name, o.id⟩ : LEnt).id = o.id from rfl, hid] at h5
    have h6 := ok_cnt hs (show 1 ≤ I by omega) (show I < 32 by omega)
    intro h7
    rw [if_pos h7] at h6
    omega
  have hlI : hasB os (I : Int) = true := by simp [hasB, hkx]; omega
  have hhome : homeIn (flat os) (I : Int) = (D : Int) := by
    have := (home_mem hs (mem_flatE.2 ⟨d, hd, m0⟩)).1
    rw [show (⟨o.name, o.id⟩ : LEnt).id = o.id from rfl, hid] at this
    exact this
  have hno : ∀ j, it os j (D : Int) ≠ (I : Int) := fun j hj => by
    have : it os (1 + j) (I : Int) = (I : Int) := by
      rw [it_add]
      show it os j (homeIn (flat os) (I : Int)) = _
      rw [hhome]; exact hj
    have := no_loop hs hlI this
    omega
  have hstep : ∀ i : Nat, 1 ≤ i → i < 32 → kindOf os i ≠ 0 → i ≠ I → ∃ a : Nat, homeIn (flat os) (i : Int) = a ∧ homeIn (flat o1) (i : Int) = a ∧ a < 32 ∧ kindOf os a ≠ 0 := fun i h1 h2 h3 h4 => by
    obtain ⟨a, e, m1, m2, m3, m4, m5⟩ := ok_home hs h1 h2 h3
    obtain ⟨p, hp, he⟩ := mem_flatE.1 m1
    obtain ⟨q, hq, -, -, -, cq⟩ := hget hp
    have he2 : e ∈ q.kids := by
      rw [cq]
      unfold mvK
      have he3 : e ∈ (if a = D then outL o.name p.kids else p.kids) := by
        by_cases haD : a = D
        · rw [if_pos haD]
          refine (mem_out _ _ _).2 ⟨he, fun hn => ?_⟩
          subst haD
          rw [hd] at hp; cases hp
          have := asc_one hasc he m0 hn
          rw [this] at m2
          have m2 : o.id = (i : Int) := m2
          omega
        · rw [if_neg haD]; exact he
      split
      · exact (mem_put _ _ _).2 (.inr he3)
      · exact he3
    have := (home_mem hs1 (mem_flatE.2 ⟨q, hq, he2⟩)).1
    rw [m2] at this
    exact ⟨a, m3, this, m4, by omega⟩
  have hsame : ∀ (j : Nat) (i : Int), (i ≤ 0 ∨ ∃ n : Nat, i = n ∧ 1 ≤ n ∧ n < 32 ∧ kindOf os n ≠ 0) → (∀ k, it os k i ≠ (I : Int)) → it o1 j i = it os j i := by
    intro j
    induction j with
    | zero => intro i _ _; rfl
    | succ j ih =>
      intro i hi hni
      show it o1 j (homeIn (flat o1) i) = it os j (homeIn (flat os) i)
      rcases hi with hi | ⟨nn, rfl, h1, h2, h3⟩
      · rw [home_neg hs hi, home_neg hs1 hi]
        exact ih (-1) (.inl (by omega)) fun k hk => hni (k + 1) (by show it os k (homeIn (flat os) i) = _; rw [home_neg hs hi]; exact hk)
      · obtain ⟨a, a1, a2, a3, a4⟩ := hstep nn h1 h2 h3 fun e => hni 0 (by rw [e]; rfl)
        rw [a1, a2]
        refine ih a ?_ fun k hk => hni (k + 1) (by show it os k (homeIn (flat os) (nn : Int)) = _; rw [a1]; exact hk)
        by_cases ha0 : a = 0
        · exact .inl (by omega)
        · exact .inr ⟨a, rfl, by omega, a3, a4⟩
  have hunder : ¬ under o1 o.id 33 o.dir = true := by
    rw [hid, hdd, under_iff hs1]
    rintro ⟨-, j, -, hj⟩
    have hDk : kindOf os D = 2 := by rw [kindOf_at hd]; exact g1.1
    rw [hsame j (D : Int) (by by_cases hD0 : D = 0; exact .inl (by omega); exact .inr ⟨D, rfl, by omega, by omega, by omega⟩) hno] at hj
    exact hno j hj
  have hwg : ¬ wornB o1 (opIds ⟨4, o.dir2, o.name2, o.dir, o.name, o.id, ⟨#[]⟩⟩) = true := not_worn fun i hi a ha => by
    rcases ids_of hokg hi with h | ⟨-, h⟩ | ⟨-, h⟩
    · have h : i = I := by rw [← hII]; exact h
      obtain ⟨q, hq, -, -, vq, -⟩ := hget hx
      rw [h, hq] at ha; cases ha; omega
    · have h : i = E := by rw [← hEE]; exact h
      rw [h, hbE] at ha; cases ha; omega
    · have h : i = D := by rw [← hDD]; exact h
      rw [h, hbD] at ha; cases ha; omega
  have hB : actR o1 ⟨4, o.dir2, o.name2, o.dir, o.name, o.id, ⟨#[]⟩⟩ = (turnM (kidsL (kidsL o1 E (outL o.name2)) D (putL ⟨o.name, o.id⟩)) E D, 0) := by
    rw [actR_do hs1 hokg]; unfold actDo; rw [if_neg hwg, if_neg (by simp), if_neg (by simp), if_pos rfl]
    unfold actMove
    simp only [hDD, hEE, hbD, hbE]
    rw [if_neg (by rw [kD, kE]; simp [g1]), if_neg (by simpa using fE), if_neg (by rw [fD]; omega), if_neg hunder]
  refine ⟨by rw [hB], ?_, ?_⟩
  · rw [hB]
    have hl2 : (turnM (kidsL (kidsL o1 E (outL o.name2)) D (putL ⟨o.name, o.id⟩)) E D).length = os.length := by
      rw [turnM_len, kidsL_len, kidsL_len, ok_len hs1, hl]
    refine listEq_yes hl2 fun j a b ha hb => ?_
    obtain ⟨q, hq, kq, tq, -, cq⟩ := hget hb
    obtain ⟨r, hr', kr, tr, -, cr⟩ := mv_get (D := E) (E := D) (n1 := o.name2) (x2 := ⟨o.name, o.id⟩) hq
    rw [hr'] at ha
    cases ha
    refine oLike_of (by rw [kr, kq]) (by rw [tr, tq]) ?_
    rw [cr, cq]
    unfold mvK
    by_cases hjD : j = D
    · subst hjD
      rw [hd] at hb; cases hb
      rw [if_pos rfl, if_pos rfl]
      by_cases hjE : j = E
      · rw [if_pos hjE, if_pos hjE]
        have : outL o.name2 (putL ⟨o.name2, o.id⟩ (outL o.name d.kids)) = outL o.name d.kids := out_put (x := ⟨o.name2, o.id⟩) fun e he => by
          subst hjE
          rw [hd] at hy; cases hy
          exact hnm e ((mem_out _ _ _).1 he).1
        rw [this]
        exact put_out hasc _ m0
      · rw [if_neg hjE, if_neg hjE]
        exact put_out hasc _ m0
    · rw [if_neg hjD, if_neg hjD]
      by_cases hjE : j = E
      · rw [if_pos hjE, if_pos hjE]
        subst hjE
        rw [hy] at hb; cases hb
        exact out_put (x := ⟨o.name2, o.id⟩) hnm
      · rw [if_neg hjE, if_neg hjE]
  · have := tf_yes hs1 (k := E) (by omega) hbE o.name2
    rw [hde, this, fE]
end Go.Proofs.YtnolbfijcnldjaaGreatDoor

/- A long list as it is drawn: what holds in the midst of it. -/
namespace Go.Proofs.YtnolbfijcnldjaaGreatDoor
open Go.RowKit

/-- In the midst of drawing: the reader, the boxes, the tree, what was done. -/
structure LS (w W : World) (rb P q2 q4 q5 b c K : Nat) (u : Value) (os : List LObj) (vs : Nat → Value) (out : List LOp) : Prop where
  lo : rb < w.heap.size
  but : But rb w W
  rd : RdTo W rb P
  r2 : ∃ f, W.rowIs q2 25 1 f
  r4 : ∃ a n c, W.rowIs q4 25 1 (fun _ => .slice a n c)
  r5 : W.rowIs q5 25 1 (fun _ => .slice (some ⟨b, 0, none⟩) 32 c)
  l2 : w.heap.size ≤ q2
  l4 : w.heap.size ≤ q4
  l5 : w.heap.size ≤ q5
  n25 : q2 ≠ q5
  n45 : q4 ≠ q5
  tree : OwnT W w.heap.size b c os vs
  len : os.length = 32
  sm : Sm os K
  list : OwnOps W w.heap.size u out
  lsm : ∀ o ∈ out, DoneOp o
section
variable {w W W' : World} {rb P P' q2 q4 q5 b c K : Nat} {u v : Value} {os : List LObj} {vs : Nat → Value} {out news : List LOp}
theorem LS.size (h : LS w W rb P q2 q4 q5 b c K u os vs out) : w.heap.size < W.heap.size := by have := h.r5.lt; have := h.l5; omega
end
section
variable {ops : Array Oper} {ac : Act} {K : Act → World → Prop} {Q : Exit → Act → World → Prop} {E : Prop} {ty : TypeId} {ps : String} {af : Array Edge}
end
end Go.Proofs.YtnolbfijcnldjaaGreatDoor


/- A long list as it is drawn: more steps. -/
namespace Go.Proofs.YtnolbfijcnldjaaGreatDoor
open Go.RowKit

section
variable {ops : Array Oper} {ac : Act} {K : Act → World → Prop} {Q : Exit → Act → World → Prop} {E : Prop} {ty : TypeId} {ps : String} {af : Array Edge}
end
end Go.Proofs.YtnolbfijcnldjaaGreatDoor


/- A long list as it is drawn. -/
namespace Go.Proofs.YtnolbfijcnldjaaGreatDoor
open Go.RowKit

end Go.Proofs.YtnolbfijcnldjaaGreatDoor

/- A list as it is drawn for the laws of shorter lists. -/
namespace Go.Proofs.YtnolbfijcnldjaaGreatDoor
open Go.RowKit

end Go.Proofs.YtnolbfijcnldjaaGreatDoor

/- A code that came in as an argument, opened. -/
namespace Go.Proofs.YtnolbfijcnldjaaGreatDoor
open Go.ChangeShapes Go.WideShapes Go.ChangeAt Go.RowKit
section
variable {H : Type} {enc : TypeId × Value → H} {w : World} {spare : Nat → Bool} {held : Bool}
set_option maxRecDepth 100000 in
theorem open_bytes {r : Reach} {b0 : Nat} {v : Value} {d : DataW H} {p : List MemPlace} (hv : Value.okWide Tryz.prog w r b0 22 v) (h : DataW.Trod enc Tryz.prog w 0 spare held 22 v d p) :
    ∃ a n c zs, v = .slice a n c ∧ n ≤ c ∧ n ≤ maxLen ∧ BytesAt w w.heap.size a n zs := by
  obtain ⟨a0, len0, cap0, rfl⟩ := okWide_slice Tryz.underlying22 hv
  obtain ⟨fuel, hf⟩ := h
  rcases open_ints Tryz.underlying22 Tryz.underlying5 (by kernel_rfl) hf with ⟨hcs, _⟩ | ⟨x, l, c, z0, hcs, _, hl, hm, hz, _, hcell, hwz⟩
  · simp [Value.cells] at hcs
    obtain ⟨rfl, rfl, rfl⟩ := hcs
    exact ⟨none, 0, 0, [], rfl, Nat.le_refl _, Nat.zero_le _, rfl, fun h => absurd rfl h⟩
  · simp [Value.cells] at hcs
    obtain ⟨rfl, rfl, rfl⟩ := hcs
    have hz' : len0 ≤ z0.length := by rw [hz]; split <;> omega
    refine ⟨some x, len0, cap0, z0.take len0, rfl, hl, by omega, by simp; omega, fun hn => ?_⟩
    obtain ⟨b, off, spot⟩ := x
    have hc0 := hcell 0 (by omega)
    have hspot : spot = none := by simpa [Addr.add] using World.cell?_spot hc0
    subst hspot
    refine ⟨b, off, rfl, by have := cell_lt hc0; simpa [Addr.add] using this, fun i hi => ?_⟩
    have hlt : i < z0.length := by omega
    refine ⟨z0[i], by rw [List.getElem?_take_of_lt hi]; exact List.getElem?_eq_getElem hlt, ?_, ?_, ?_⟩
    · have := hwz z0[i] (List.getElem_mem hlt); simp [Lit.wf, IntKind.min, IntKind.max, IntKind.signed, IntKind.bits] at this; omega
    · have := hwz z0[i] (List.getElem_mem hlt); simp [Lit.wf, IntKind.min, IntKind.max, IntKind.signed, IntKind.bits] at this; omega
    · have := hcell i hlt
      rw [addr_add] at this
      rw [this]
      simp [hlt]
end
end Go.Proofs.YtnolbfijcnldjaaGreatDoor


/- Lists that are made shorter: plain facts: once more is the same; what is left. -/
namespace Go.Proofs.YtnolbfijcnldjaaGreatDoor
open Go.RowKit

/-! Texts. -/
end Go.Proofs.YtnolbfijcnldjaaGreatDoor

/- What the laws of drawn lists ask. -/
namespace Go.Proofs.YtnolbfijcnldjaaGreatDoor
open Go.RowKit

end Go.Proofs.YtnolbfijcnldjaaGreatDoor

/- What the row's cell 'laid' gives: the eight errors stand in the first eight blocks, each a pointer of its own; and the named variables read behind the call as they read before. -/
namespace Go.Proofs.YtnolbfijcnldjaaGreatDoor
open Go.RowKit Go.ChangeShapes Go.WideShapes Go.ChangeAt

/-- All sentinels of a list that is laid: different pointers. -/
theorem laid_errs {P : Program} {nm : String} {W : World} {ti tp te ts : TypeId} {ms : Array (String × TypeId)} {f : Field}
    (hi : P.underlying ti = some (.interface ms)) (hrow : ∀ u, P.typeName? 3 u = some nm → u = tp)
    (hp : P.underlying tp = some (.pointer te)) (he : P.underlying te = some (.struct #[f])) (hft : f.type = ts) (hfo : f.offset = 0) (hs : P.underlying ts = some .string) (hc : P.cellsOf te = 1) (hcs : P.cellsOf ts = 1) :
    ∀ (l : List (String × List UInt8)) (ps : List MemPlace), DataW.LaidVars P W (l.map fun x => (x.1, DataW.iface nm (.ptr (.agg [.lit (.string x.2)])))) ps → ps.Nodup →
      (∀ b off, MemPlace.cell b off ∈ ps → (∃ c t, W.heap[b]? = some (.cells c t (0, 0))) ∧ ∀ u v, W.cell? ⟨b, off, none⟩ = some (.iface u v) → Value.okWide P W .any 0 u v) →
      (∀ x ∈ l, ∃ g, P.globalNamed x.1 = some g ∧ (P.globals[g]?).map (·.type) = some ti) →
      ∃ ad : List Addr, ad.length = l.length ∧ ad.Nodup ∧ (∀ a ∈ ad, MemPlace.cell a.block a.off ∈ ps) ∧ ∀ (i : Nat) x a, l[i]? = some x → ad[i]? = some a → W.var? P x.1 = some #[.iface tp (.pointer (some a))] ∧ ∃ c t, W.heap[a.block]? = some (.cells c t (0, 0))
  | [], ps, _, _, _, _ => ⟨[], rfl, List.nodup_nil, (fun a h => by simp at h), (fun i x a h => by simp at h)⟩
  | x :: l, ps, hv, hnd, hrows, hg => by
    obtain ⟨g0, t0, cs0, f0, p0, q0, hg0, ht0, hv0, hd0, hrest, e0⟩ := hv
    obtain ⟨g, hg1, hg2⟩ := hg x (by simp)
    obtain rfl := Option.some.inj (hg1.symm.trans hg0)
    obtain rfl := Option.some.inj (hg2.symm.trans ht0)
    subst e0
    obtain ⟨l0⟩ := cs0
    have ok0 : ∀ u v, l0 = [.iface u v] → Value.okWide P W .any 0 u v := fun u v e => by
      subst e
      exact (hrows g 0 (by simp [MemPlace.row])).2 u v (by simpa using World.var?_cell hg0 hv0 0)
    obtain ⟨a0, s0, rfl, hc0, hs0, hz0, rfl⟩ := errorString_of_trod hi hrow hp he hft hfo hs hc hcs hd0 ok0
    obtain ⟨ad, h1, h2, h3, h4⟩ := laid_errs hi hrow hp he hft hfo hs hc hcs l q0 hrest (List.Nodup.sublist (List.sublist_append_right _ _) hnd) (fun b off hm => hrows b off (List.mem_append_right _ hm)) (fun y hy => hg y (by simp [hy]))
    have hrow0 : MemPlace.row a0 1 = [MemPlace.cell a0.block a0.off] := by simp [MemPlace.row]
    refine ⟨a0 :: ad, by simp [h1], ?_, ?_, ?_⟩
    · refine List.nodup_cons.2 ⟨fun hm => ?_, h2⟩
      have h5 := h3 a0 hm
      rw [hrow0] at hnd
      have h6 := (List.nodup_append.1 hnd).2.2 (MemPlace.cell a0.block a0.off) (by simp) _ h5
      exact h6 rfl
    · intro a ha
      rcases List.mem_cons.1 ha with rfl | ha
      · rw [hrow0]; simp
      · exact List.mem_append_right _ (h3 a ha)
    · intro i y a hy ha
      cases i with
      | zero =>
        simp at hy ha
        subst hy ha
        exact ⟨hv0, (hrows a0.block a0.off (by rw [hrow0]; simp)).1⟩
      | succ i => exact h4 i y a (by simpa using hy) (by simpa using ha)

theorem row272 (u : TypeId) (h : Tryz.prog.typeName? 3 u = some "*errors.errorString") : u = 224 :=
  typeName_ptr_named (nm := "errors.errorString") (by rw [show "*" ++ "errors.errorString" = "*errors.errorString" by decide]; kernel_rfl) (by kernel_rfl) (by decide) u (by rw [show "*" ++ "errors.errorString" = "*errors.errorString" by decide]; exact h)
theorem gn0 : Tryz.prog.globalNamed "loop.example/shieling/impl.errForm" = some 0 := by kernel_rfl
theorem gt0 : (Tryz.prog.globals[0]?).map (·.type) = some 88 := by kernel_rfl
theorem gn1 : Tryz.prog.globalNamed "loop.example/shieling/impl.errDirs" = some 1 := by kernel_rfl
theorem gt1 : (Tryz.prog.globals[1]?).map (·.type) = some 88 := by kernel_rfl
theorem gn2 : Tryz.prog.globalNamed "loop.example/shieling/impl.errNone" = some 2 := by kernel_rfl
theorem gt2 : (Tryz.prog.globals[2]?).map (·.type) = some 88 := by kernel_rfl
theorem gn3 : Tryz.prog.globalNamed "loop.example/shieling/impl.errThere" = some 3 := by kernel_rfl
theorem gt3 : (Tryz.prog.globals[3]?).map (·.type) = some 88 := by kernel_rfl
theorem gn4 : Tryz.prog.globalNamed "loop.example/shieling/impl.errFull" = some 4 := by kernel_rfl
theorem gt4 : (Tryz.prog.globals[4]?).map (·.type) = some 88 := by kernel_rfl
theorem gn5 : Tryz.prog.globalNamed "loop.example/shieling/impl.errRing" = some 5 := by kernel_rfl
theorem gt5 : (Tryz.prog.globals[5]?).map (·.type) = some 88 := by kernel_rfl
theorem gn6 : Tryz.prog.globalNamed "loop.example/shieling/impl.errKind" = some 6 := by kernel_rfl
theorem gt6 : (Tryz.prog.globals[6]?).map (·.type) = some 88 := by kernel_rfl
theorem gn7 : Tryz.prog.globalNamed "loop.example/shieling/impl.errUsed" = some 7 := by kernel_rfl
theorem gt7 : (Tryz.prog.globals[7]?).map (·.type) = some 88 := by kernel_rfl
theorem u97 : ∃ ms, Tryz.prog.underlying 88 = some (.interface ms) := ⟨_, Tryz.underlying88⟩
/-- The texts of the eight, as the rows lay them. -/
def texts8 : List (List UInt8) := [[116, 104, 105, 115, 32, 105, 115, 32, 110, 111, 32, 100, 105, 114, 101, 99, 116, 111, 114, 121], [116, 104, 101, 32, 110, 97, 109, 101, 32, 100, 111, 101, 115, 32, 110, 111, 116, 32, 110, 97, 109, 101, 32, 105, 116, 32, 116, 104, 101, 114, 101], [116, 104, 101, 32, 110, 97, 109, 101, 32, 110, 97, 109, 101, 115, 32, 115, 111, 109, 101, 116, 104, 105, 110, 103, 32, 116, 104, 101, 114, 101, 32, 97, 108, 114, 101, 97, 100, 121], [105, 116, 32, 104, 97, 115, 32, 110, 97, 109, 101, 115], [105, 116, 32, 119, 111, 117, 108, 100, 32, 98, 101, 32, 117, 110, 100, 101, 114, 32, 105, 116, 115, 101, 108, 102], [116, 104, 105, 115, 32, 105, 115, 32, 110, 111, 32, 102, 105, 108, 101], [116, 104, 101, 32, 110, 117, 109, 98, 101, 114, 32, 105, 115, 32, 111, 114, 32, 119, 97, 115, 32, 115, 111, 109, 101, 98, 111, 100, 121, 39, 115], [116, 104, 105, 115, 32, 99, 97, 110, 32, 110, 111, 116, 32, 98, 101, 32, 100, 111, 110, 101, 32, 111, 102, 32, 97, 110, 121, 32, 116, 114, 101, 101, 44, 32, 111, 114, 32, 119, 97, 115, 32, 116, 117, 114, 110, 101, 100, 32, 116, 111, 111, 32, 111, 102, 116, 101, 110]]
def names8 : List String := ["loop.example/shieling/impl.errDirs", "loop.example/shieling/impl.errNone", "loop.example/shieling/impl.errThere", "loop.example/shieling/impl.errFull", "loop.example/shieling/impl.errRing", "loop.example/shieling/impl.errKind", "loop.example/shieling/impl.errUsed", "loop.example/shieling/impl.errForm"]
def laid8 : List (String × DataW Unit) := (names8.zip texts8).map fun x => (x.1, DataW.iface "*errors.errorString" (.ptr (.agg [.lit (.string x.2)])))
theorem block_lt_of_row {W : World} {b : Nat} {o : Obj} (h : W.heap[b]? = some o) : b < W.heap.size := (Array.getElem?_eq_some_iff.1 h).1
theorem sents_laid {W : World} (h : laidMet Tryz.prog laid8 W) : ∃ a : Nat → Addr, Sents W W.heap.size a ∧ W.var? Tryz.prog "loop.example/shieling/impl.errForm" = some #[.iface 224 (.pointer (some (a 0)))] ∧ W.var? Tryz.prog "loop.example/shieling/impl.errDirs" = some #[.iface 224 (.pointer (some (a 1)))] ∧ W.var? Tryz.prog "loop.example/shieling/impl.errNone" = some #[.iface 224 (.pointer (some (a 2)))] ∧ W.var? Tryz.prog "loop.example/shieling/impl.errThere" = some #[.iface 224 (.pointer (some (a 3)))] ∧ W.var? Tryz.prog "loop.example/shieling/impl.errFull" = some #[.iface 224 (.pointer (some (a 4)))] ∧ W.var? Tryz.prog "loop.example/shieling/impl.errRing" = some #[.iface 224 (.pointer (some (a 5)))] ∧ W.var? Tryz.prog "loop.example/shieling/impl.errKind" = some #[.iface 224 (.pointer (some (a 6)))] ∧ W.var? Tryz.prog "loop.example/shieling/impl.errUsed" = some #[.iface 224 (.pointer (some (a 7)))] := by
  obtain ⟨ps, hv, hnd, hrows⟩ := h
  obtain ⟨ms, hms⟩ := u97
  have hg : ∀ x ∈ names8.zip texts8, ∃ g, Tryz.prog.globalNamed x.1 = some g ∧ (Tryz.prog.globals[g]?).map (·.type) = some 88 := by
    intro x hx
    simp only [names8, texts8, List.zip_cons_cons, List.zip_nil_right, List.mem_cons, List.not_mem_nil, or_false] at hx
    rcases hx with rfl | rfl | rfl | rfl | rfl | rfl | rfl | rfl
    · exact ⟨_, gn1, gt1⟩
    · exact ⟨_, gn2, gt2⟩
    · exact ⟨_, gn3, gt3⟩
    · exact ⟨_, gn4, gt4⟩
    · exact ⟨_, gn5, gt5⟩
    · exact ⟨_, gn6, gt6⟩
    · exact ⟨_, gn7, gt7⟩
    · exact ⟨_, gn0, gt0⟩
  obtain ⟨ad, h1, h2, -, h4⟩ := laid_errs hms row272 Tryz.underlying224 Tryz.underlying258 rfl rfl Tryz.underlying9 (by kernel_rfl) (by kernel_rfl) (names8.zip texts8) ps hv hnd hrows hg
  have hlen : ad.length = 8 := by rw [h1]; rfl
  match ad, hlen with
  | [a1, a2, a3, a4, a5, a6, a7, a0], _ =>
    have k1 := h4 0 _ a1 rfl rfl
    have k2 := h4 1 _ a2 rfl rfl
    have k3 := h4 2 _ a3 rfl rfl
    have k4 := h4 3 _ a4 rfl rfl
    have k5 := h4 4 _ a5 rfl rfl
    have k6 := h4 5 _ a6 rfl rfl
    have k7 := h4 6 _ a7 rfl rfl
    have k0 := h4 7 _ a0 rfl rfl
    clear h4 hv hnd hrows hg h1
    dsimp only at k0 k1 k2 k3 k4 k5 k6 k7
    refine ⟨fun | 0 => a0 | 1 => a1 | 2 => a2 | 3 => a3 | 4 => a4 | 5 => a5 | 6 => a6 | _ => a7, ⟨?_, ?_, ?_, ?_⟩, k0.1, k1.1, k2.1, k3.1, k4.1, k5.1, k6.1, k7.1⟩
    · intro i hi
      match i, hi with
      | 0, _ => exact by simpa using World.var?_cell gn0 k0.1 0
      | 1, _ => exact by simpa using World.var?_cell gn1 k1.1 0
      | 2, _ => exact by simpa using World.var?_cell gn2 k2.1 0
      | 3, _ => exact by simpa using World.var?_cell gn3 k3.1 0
      | 4, _ => exact by simpa using World.var?_cell gn4 k4.1 0
      | 5, _ => exact by simpa using World.var?_cell gn5 k5.1 0
      | 6, _ => exact by simpa using World.var?_cell gn6 k6.1 0
      | 7, _ => exact by simpa using World.var?_cell gn7 k7.1 0
    · intro i hi
      match i, hi with
      | 0, _ => exact k0.2
      | 1, _ => exact k1.2
      | 2, _ => exact k2.2
      | 3, _ => exact k3.2
      | 4, _ => exact k4.2
      | 5, _ => exact k5.2
      | 6, _ => exact k6.2
      | 7, _ => exact k7.2
    · intro i j hi hj hij
      have hnd := h2
      simp only [List.nodup_cons, List.mem_cons, List.not_mem_nil, or_false, not_or] at hnd
      match i, hi, j, hj with
      | 0, _, 0, _ => exact absurd rfl hij
      | 0, _, 1, _ => intro e; simp_all
      | 0, _, 2, _ => intro e; simp_all
      | 0, _, 3, _ => intro e; simp_all
      | 0, _, 4, _ => intro e; simp_all
      | 0, _, 5, _ => intro e; simp_all
      | 0, _, 6, _ => intro e; simp_all
      | 0, _, 7, _ => intro e; simp_all
      | 1, _, 0, _ => intro e; simp_all
      | 1, _, 1, _ => exact absurd rfl hij
      | 1, _, 2, _ => intro e; simp_all
      | 1, _, 3, _ => intro e; simp_all
      | 1, _, 4, _ => intro e; simp_all
      | 1, _, 5, _ => intro e; simp_all
      | 1, _, 6, _ => intro e; simp_all
      | 1, _, 7, _ => intro e; simp_all
      | 2, _, 0, _ => intro e; simp_all
      | 2, _, 1, _ => intro e; simp_all
      | 2, _, 2, _ => exact absurd rfl hij
      | 2, _, 3, _ => intro e; simp_all
      | 2, _, 4, _ => intro e; simp_all
      | 2, _, 5, _ => intro e; simp_all
      | 2, _, 6, _ => intro e; simp_all
      | 2, _, 7, _ => intro e; simp_all
      | 3, _, 0, _ => intro e; simp_all
      | 3, _, 1, _ => intro e; simp_all
      | 3, _, 2, _ => intro e; simp_all
      | 3, _, 3, _ => exact absurd rfl hij
      | 3, _, 4, _ => intro e; simp_all
      | 3, _, 5, _ => intro e; simp_all
      | 3, _, 6, _ => intro e; simp_all
      | 3, _, 7, _ => intro e; simp_all
      | 4, _, 0, _ => intro e; simp_all
      | 4, _, 1, _ => intro e; simp_all
      | 4, _, 2, _ => intro e; simp_all
      | 4, _, 3, _ => intro e; simp_all
      | 4, _, 4, _ => exact absurd rfl hij
      | 4, _, 5, _ => intro e; simp_all
      | 4, _, 6, _ => intro e; simp_all
      | 4, _, 7, _ => intro e; simp_all
      | 5, _, 0, _ => intro e; simp_all
      | 5, _, 1, _ => intro e; simp_all
      | 5, _, 2, _ => intro e; simp_all
      | 5, _, 3, _ => intro e; simp_all
      | 5, _, 4, _ => intro e; simp_all
      | 5, _, 5, _ => exact absurd rfl hij
      | 5, _, 6, _ => intro e; simp_all
      | 5, _, 7, _ => intro e; simp_all
      | 6, _, 0, _ => intro e; simp_all
      | 6, _, 1, _ => intro e; simp_all
      | 6, _, 2, _ => intro e; simp_all
      | 6, _, 3, _ => intro e; simp_all
      | 6, _, 4, _ => intro e; simp_all
      | 6, _, 5, _ => intro e; simp_all
      | 6, _, 6, _ => exact absurd rfl hij
      | 6, _, 7, _ => intro e; simp_all
      | 7, _, 0, _ => intro e; simp_all
      | 7, _, 1, _ => intro e; simp_all
      | 7, _, 2, _ => intro e; simp_all
      | 7, _, 3, _ => intro e; simp_all
      | 7, _, 4, _ => intro e; simp_all
      | 7, _, 5, _ => intro e; simp_all
      | 7, _, 6, _ => intro e; simp_all
      | 7, _, 7, _ => exact absurd rfl hij
    · intro i hi
      match i, hi with
      | 0, _ => exact ⟨World.block_lt_of_cell? _ _ (by simpa using World.var?_cell gn0 k0.1 0), by obtain ⟨c, t, h⟩ := k0.2; exact block_lt_of_row h⟩
      | 1, _ => exact ⟨World.block_lt_of_cell? _ _ (by simpa using World.var?_cell gn1 k1.1 0), by obtain ⟨c, t, h⟩ := k1.2; exact block_lt_of_row h⟩
      | 2, _ => exact ⟨World.block_lt_of_cell? _ _ (by simpa using World.var?_cell gn2 k2.1 0), by obtain ⟨c, t, h⟩ := k2.2; exact block_lt_of_row h⟩
      | 3, _ => exact ⟨World.block_lt_of_cell? _ _ (by simpa using World.var?_cell gn3 k3.1 0), by obtain ⟨c, t, h⟩ := k3.2; exact block_lt_of_row h⟩
      | 4, _ => exact ⟨World.block_lt_of_cell? _ _ (by simpa using World.var?_cell gn4 k4.1 0), by obtain ⟨c, t, h⟩ := k4.2; exact block_lt_of_row h⟩
      | 5, _ => exact ⟨World.block_lt_of_cell? _ _ (by simpa using World.var?_cell gn5 k5.1 0), by obtain ⟨c, t, h⟩ := k5.2; exact block_lt_of_row h⟩
      | 6, _ => exact ⟨World.block_lt_of_cell? _ _ (by simpa using World.var?_cell gn6 k6.1 0), by obtain ⟨c, t, h⟩ := k6.2; exact block_lt_of_row h⟩
      | 7, _ => exact ⟨World.block_lt_of_cell? _ _ (by simpa using World.var?_cell gn7 k7.1 0), by obtain ⟨c, t, h⟩ := k7.2; exact block_lt_of_row h⟩

/-- A named variable holds behind the call what it held. -/
theorem var_below {W W' : World} {n : String} {cs : Array Value} (hb : Below W.heap.size W W') (h : W.var? Tryz.prog n = some cs) : W'.var? Tryz.prog n = some cs := by
  unfold World.var? at h ⊢
  cases hg : Tryz.prog.globalNamed n with
  | none => simp [hg] at h
  | some g =>
    simp only [hg, Option.bind_some] at h ⊢
    have hlt : g < W.heap.size := by
      rcases Nat.lt_or_ge g W.heap.size with h' | h'
      · exact h'
      · simp [Array.getElem?_eq_none h'] at h
    rw [hb.block g hlt]
    exact h
/-- Named variables of the error type, read as tokens. -/
theorem vars_readL {H : Type} (enc : TypeId × Value → H) {W : World} (sp : Nat → Bool) : ∀ (l : List (String × Nat × Value)), (∀ x ∈ l, Tryz.prog.globalNamed x.1 = some x.2.1 ∧ (Tryz.prog.globals[x.2.1]?).map (·.type) = some 88 ∧ W.var? Tryz.prog x.1 = some #[x.2.2] ∧ IsIface x.2.2) →
    DataW.TrodVars enc Tryz.prog W sp (l.map (·.1)) (l.map fun x => tok enc x.2.2) (l.map fun x => MemPlace.cell x.2.1 0)
  | [], _ => rfl
  | x :: l, h => by
    obtain ⟨h1, h2, h3, h4⟩ := h x (by simp)
    exact ⟨x.2.1, 88, #[x.2.2], 1, [], _, h1, h2, h3, trod_held Tryz.underlying88 h4 0, vars_readL enc sp l fun y hy => h y (by simp [hy]), by simp [MemPlace.row]⟩
/-- The eight, as the rows name them. -/
theorem vars8 {H : Type} (enc : TypeId × Value → H) {W : World} (sp : Nat → Bool) (a : Nat → Addr) (h : W.var? Tryz.prog "loop.example/shieling/impl.errForm" = some #[.iface 224 (.pointer (some (a 0)))] ∧ W.var? Tryz.prog "loop.example/shieling/impl.errDirs" = some #[.iface 224 (.pointer (some (a 1)))] ∧ W.var? Tryz.prog "loop.example/shieling/impl.errNone" = some #[.iface 224 (.pointer (some (a 2)))] ∧ W.var? Tryz.prog "loop.example/shieling/impl.errThere" = some #[.iface 224 (.pointer (some (a 3)))] ∧ W.var? Tryz.prog "loop.example/shieling/impl.errFull" = some #[.iface 224 (.pointer (some (a 4)))] ∧ W.var? Tryz.prog "loop.example/shieling/impl.errRing" = some #[.iface 224 (.pointer (some (a 5)))] ∧ W.var? Tryz.prog "loop.example/shieling/impl.errKind" = some #[.iface 224 (.pointer (some (a 6)))] ∧ W.var? Tryz.prog "loop.example/shieling/impl.errUsed" = some #[.iface 224 (.pointer (some (a 7)))]) :
    DataW.TrodVars enc Tryz.prog W sp ["loop.example/shieling/impl.errForm", "loop.example/shieling/impl.errDirs", "loop.example/shieling/impl.errNone", "loop.example/shieling/impl.errThere", "loop.example/shieling/impl.errFull", "loop.example/shieling/impl.errRing", "loop.example/shieling/impl.errKind", "loop.example/shieling/impl.errUsed"] [tok enc (.iface 224 (.pointer (some (a 0)))), tok enc (.iface 224 (.pointer (some (a 1)))), tok enc (.iface 224 (.pointer (some (a 2)))), tok enc (.iface 224 (.pointer (some (a 3)))), tok enc (.iface 224 (.pointer (some (a 4)))), tok enc (.iface 224 (.pointer (some (a 5)))), tok enc (.iface 224 (.pointer (some (a 6)))), tok enc (.iface 224 (.pointer (some (a 7))))] [.cell 0 0, .cell 1 0, .cell 2 0, .cell 3 0, .cell 4 0, .cell 5 0, .cell 6 0, .cell 7 0] := by
  obtain ⟨h0, h1, h2, h3, h4, h5, h6, h7⟩ := h
  exact vars_readL enc sp [("loop.example/shieling/impl.errForm", 0, .iface 224 (.pointer (some (a 0)))), ("loop.example/shieling/impl.errDirs", 1, .iface 224 (.pointer (some (a 1)))), ("loop.example/shieling/impl.errNone", 2, .iface 224 (.pointer (some (a 2)))), ("loop.example/shieling/impl.errThere", 3, .iface 224 (.pointer (some (a 3)))), ("loop.example/shieling/impl.errFull", 4, .iface 224 (.pointer (some (a 4)))), ("loop.example/shieling/impl.errRing", 5, .iface 224 (.pointer (some (a 5)))), ("loop.example/shieling/impl.errKind", 6, .iface 224 (.pointer (some (a 6)))), ("loop.example/shieling/impl.errUsed", 7, .iface 224 (.pointer (some (a 7))))] fun x hx => by
    simp only [List.mem_cons, List.not_mem_nil, or_false] at hx
    rcases hx with rfl | rfl | rfl | rfl | rfl | rfl | rfl | rfl
    · exact ⟨gn0, gt0, h0, trivial⟩
    · exact ⟨gn1, gt1, h1, trivial⟩
    · exact ⟨gn2, gt2, h2, trivial⟩
    · exact ⟨gn3, gt3, h3, trivial⟩
    · exact ⟨gn4, gt4, h4, trivial⟩
    · exact ⟨gn5, gt5, h5, trivial⟩
    · exact ⟨gn6, gt6, h6, trivial⟩
    · exact ⟨gn7, gt7, h7, trivial⟩
end Go.Proofs.YtnolbfijcnldjaaGreatDoor
