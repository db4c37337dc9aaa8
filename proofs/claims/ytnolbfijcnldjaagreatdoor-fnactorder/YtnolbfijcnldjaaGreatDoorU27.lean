/- Lemmas that the proofs of this seat share: ActCode, ActTurn. -/
import Derived.Test.YtnolbfijcnldjaaGreatDoorU26
import Derived.Test.YtnolbfijcnldjaaGreatDoorU18
import Derived.Test.YtnolbfijcnldjaaGreatDoorU22
/- Every refusal has a true reason: plain facts about the code of what is done. -/
namespace Go.Proofs.YtnolbfijcnldjaaGreatDoor

def dirB (os : List LObj) (o : LOp) : Bool := (o.kind == 5) || (kindOf os o.dir.toNat == 2)
def dir2B (os : List LObj) (o : LOp) : Bool := (o.kind != 4) || (kindOf os o.dir2.toNat == 2)
/-- What a code says of the tree and of what was to be done. -/
structure CodeP (os : List LObj) (o : LOp) (k : Nat) : Prop where
  le : k ≤ 8
  c0 : k = 0 → dirB os o = true ∧ dir2B os o = true
  c1 : k = 1 → dirB os o = false ∨ dir2B os o = false
  c2 : k = 2 → treeFindV os o.dir o.name ≠ o.id
  c3 : k = 3 → (o.kind = 4 ∧ 0 ≤ treeFindV os o.dir2 o.name2) ∨ (o.kind ≠ 4 ∧ 0 ≤ treeFindV os o.dir o.name)
  c4 : k = 4 → ∃ x, os[o.id.toNat]? = some x ∧ 0 < x.kids.length
  c5 : k = 5 → underV os o.dir2 o.id = true
  c6 : k = 6 → kindOf os o.id.toNat ≠ 1
  c7 : k = 7 → freshV os o.id = false
  c8 : k = 8 → ∃ i ∈ opIds o, ∃ x, os[i]? = some x ∧ x.ver = 1000000
theorem find_eq {os : List LObj} (hs : specOk os = true) {dir : Int} (h0 : 0 ≤ dir) (h1 : dir < 32) {d : LObj} (hd : os[dir.toNat]? = some d) (name : ByteArray) : treeFindV os dir name = findV d.kids name := by
  unfold treeFindV
  rw [if_pos ⟨hs, h0, h1⟩]
  unfold kidsOf
  rw [hd]
theorem op_kinds {o : LOp} (h : opOk o = true) : o.kind = 1 ∨ o.kind = 2 ∨ o.kind = 3 ∨ o.kind = 4 ∨ o.kind = 5 := by
  unfold opOk at h
  split at h
  · omega
  · split at h
    · omega
    · split at h
      · omega
      · cases h
theorem code_any {os : List LObj} {o : LOp} (hs : specOk os = true) (hk : opOk o = true) : ∃ k : Nat, (actDo os o).2 = (k : Int) ∧ CodeP os o k := by
  obtain ⟨i1, i2⟩ := opOk_id hk
  obtain ⟨d1, d2⟩ := opOk_dir hk
  obtain ⟨e1, e2⟩ := opOk_dir2 hk
  have hl := ok_len hs
  obtain ⟨d, hd⟩ := at_ (os := os) hl d1 d2
  obtain ⟨d', hd'⟩ := at_ (os := os) hl e1 e2
  obtain ⟨x, hx⟩ := at_ (os := os) hl (by omega) i2
  have hkd := kindOf_at hd
  have hkd' := kindOf_at hd'
  have hkx := kindOf_at hx
  have hfd := fun nm => find_eq hs d1 d2 hd nm
  have hfd' := fun nm => find_eq hs e1 e2 hd' nm
  unfold actDo
  by_cases hw : wornB os (opIds o) = true
  · rw [if_pos hw]
    refine ⟨8, rfl, ⟨by omega, by omega, by omega, by omega, by omega, by omega, by omega, by omega, by omega, fun _ => ?_⟩⟩
    unfold wornB at hw
    rw [List.any_eq_true] at hw
    obtain ⟨i, hi, ho⟩ := hw
    unfold oldB at ho
    split at ho
    · next y hy =>
      have := (ok_ver hs hy).2
      exact ⟨i, hi, y, hy, by simp at ho; omega⟩
    · cases ho
  rw [if_neg hw]
  have hks := op_kinds hk
  by_cases h1 : o.kind = 1 ∨ o.kind = 2
  · rw [if_pos h1]
    have hd2 : dir2B os o = true := by unfold dir2B; simp; omega
    unfold actNew
    simp only [hd, hx]
    by_cases g1 : d.kind ≠ 2
    · rw [if_pos g1]
      exact ⟨1, rfl, ⟨by omega, by omega, fun _ => .inl (by unfold dirB; rw [hkd]; simp; omega), by omega, by omega, by omega, by omega, by omega, by omega, by omega⟩⟩
    rw [if_neg g1]
    by_cases g2 : 0 ≤ findV d.kids o.name
    · rw [if_pos g2]
      exact ⟨3, rfl, ⟨by omega, by omega, by omega, by omega, fun _ => .inr ⟨by omega, by rw [hfd]; exact g2⟩, by omega, by omega, by omega, by omega, by omega⟩⟩
    rw [if_neg g2]
    by_cases g3 : x.kind ≠ 0 ∨ 0 < x.ver
    · rw [if_pos g3]
      refine ⟨7, rfl, ⟨by omega, by omega, by omega, by omega, by omega, by omega, by omega, by omega, fun _ => ?_, by omega⟩⟩
      unfold freshV
      rw [hx]
      have : (decide (x.kind = 0) && decide (x.ver = 0)) = false := by
        rcases g3 with g | g
        · simp [g]
        · simp; omega
      simp only [this, Bool.and_false]
    rw [if_neg g3]
    exact ⟨0, rfl, ⟨by omega, fun _ => ⟨by unfold dirB; rw [hkd]; simp; omega, hd2⟩, by omega, by omega, by omega, by omega, by omega, by omega, by omega, by omega⟩⟩
  rw [if_neg h1]
  by_cases h3 : o.kind = 3
  · rw [if_pos h3]
    have hd2 : dir2B os o = true := by unfold dir2B; simp; omega
    unfold actGone
    simp only [hd, hx]
    by_cases g1 : d.kind ≠ 2
    · rw [if_pos g1]
      exact ⟨1, rfl, ⟨by omega, by omega, fun _ => .inl (by unfold dirB; rw [hkd]; simp; omega), by omega, by omega, by omega, by omega, by omega, by omega, by omega⟩⟩
    rw [if_neg g1]
    by_cases g2 : findV d.kids o.name ≠ o.id
    · rw [if_pos g2]
      exact ⟨2, rfl, ⟨by omega, by omega, by omega, fun _ => by rw [hfd]; exact g2, by omega, by omega, by omega, by omega, by omega, by omega⟩⟩
    rw [if_neg g2]
    by_cases g3 : 0 < x.kids.length
    · rw [if_pos g3]
      exact ⟨4, rfl, ⟨by omega, by omega, by omega, by omega, by omega, fun _ => ⟨x, hx, g3⟩, by omega, by omega, by omega, by omega⟩⟩
    rw [if_neg g3]
    exact ⟨0, rfl, ⟨by omega, fun _ => ⟨by unfold dirB; rw [hkd]; simp; omega, hd2⟩, by omega, by omega, by omega, by omega, by omega, by omega, by omega, by omega⟩⟩
  rw [if_neg h3]
  by_cases h4 : o.kind = 4
  · rw [if_pos h4]
    unfold actMove
    simp only [hd, hd']
    by_cases g1 : d.kind ≠ 2 ∨ d'.kind ≠ 2
    · rw [if_pos g1]
      refine ⟨1, rfl, ⟨by omega, by omega, fun _ => ?_, by omega, by omega, by omega, by omega, by omega, by omega, by omega⟩⟩
      rcases g1 with g | g
      · exact .inl (by unfold dirB; rw [hkd]; simp; omega)
      · exact .inr (by unfold dir2B; rw [hkd']; simp; omega)
    rw [if_neg g1]
    by_cases g2 : findV d.kids o.name ≠ o.id
    · rw [if_pos g2]
      exact ⟨2, rfl, ⟨by omega, by omega, by omega, fun _ => by rw [hfd]; exact g2, by omega, by omega, by omega, by omega, by omega, by omega⟩⟩
    rw [if_neg g2]
    by_cases g3 : 0 ≤ findV d'.kids o.name2
    · rw [if_pos g3]
      exact ⟨3, rfl, ⟨by omega, by omega, by omega, by omega, fun _ => .inl ⟨h4, by rw [hfd']; exact g3⟩, by omega, by omega, by omega, by omega, by omega⟩⟩
    rw [if_neg g3]
    by_cases g4 : under os o.id 33 o.dir2 = true
    · rw [if_pos g4]
      refine ⟨5, rfl, ⟨by omega, by omega, by omega, by omega, by omega, by omega, fun _ => ?_, by omega, by omega, by omega⟩⟩
      have hb : hasB os o.dir2 = true := by simp [hasB, e1, e2, hkd']; omega
      rw [underV_yes hs hb]
      exact g4
    rw [if_neg g4]
    exact ⟨0, rfl, ⟨by omega, fun _ => ⟨by unfold dirB; rw [hkd]; simp; omega, by unfold dir2B; rw [hkd']; simp; omega⟩, by omega, by omega, by omega, by omega, by omega, by omega, by omega, by omega⟩⟩
  rw [if_neg h4]
  have h5 : o.kind = 5 := by omega
  have hd1 : dirB os o = true := by unfold dirB; simp [h5]
  have hd2 : dir2B os o = true := by unfold dir2B; simp; omega
  unfold actText
  simp only [hx]
  by_cases g1 : x.kind ≠ 1
  · rw [if_pos g1]
    exact ⟨6, rfl, ⟨by omega, by omega, by omega, by omega, by omega, by omega, by omega, fun _ => by rw [hkx]; exact g1, by omega, by omega⟩⟩
  rw [if_neg g1]
  exact ⟨0, rfl, ⟨by omega, fun _ => ⟨hd1, hd2⟩, by omega, by omega, by omega, by omega, by omega, by omega, by omega, by omega⟩⟩
end Go.Proofs.YtnolbfijcnldjaaGreatDoor

/- What is done turns what it changes, and nothing else: plain facts. -/
namespace Go.Proofs.YtnolbfijcnldjaaGreatDoor

/-- What becomes of an object: nothing, or its number of turns is one more, it is named, and it is another one (or a text was written). -/
def TurnP (o : LOp) (i : Nat) (a b : LObj) : Prop :=
  b = a ∨ (b.ver = a.ver + 1 ∧ i ∈ opIds o ∧ (o.kind = 5 ∨ b.kind ≠ a.kind ∨ b.kids ≠ a.kids))
theorem cnt_yes {t : List LObj} {d : Nat} {e : LEnt} (h : (d, e) ∈ flat t) : 0 < cnt (flat t) e.id := by
  unfold cnt
  exact List.countP_pos_iff.2 ⟨(d, e), h, by simp⟩
theorem put_ne {x : LEnt} {es : List LEnt} (h : ∀ e ∈ es, e.name ≠ x.name) (es' : List LEnt) : putL x es' ≠ es := fun hh => by
  have : x ∈ es := by rw [← hh, mem_put]; exact .inl rfl
  exact h x this rfl
theorem out_ne {name : ByteArray} {es : List LEnt} {e : LEnt} (he : e ∈ es) (hn : e.name = name) : outL name es ≠ es := fun hh => by
  rw [← hh, mem_out] at he
  exact he.2 hn
theorem set_cases {os : List LObj} {k i : Nat} {o b : LObj} (h : (os.set k o)[i]? = some b) : (i = k ∧ b = o) ∨ (i ≠ k ∧ os[i]? = some b) := by
  by_cases e : k = i
  · subst e
    have hl := (List.getElem?_eq_some_iff.1 h).1
    rw [List.getElem?_set_self (by simpa using hl)] at h
    cases h
    exact .inl ⟨rfl, rfl⟩
  · rw [List.getElem?_set_ne e] at h
    exact .inr ⟨Ne.symm e, h⟩
theorem turnL_get {t : List LObj} (i : Nat) {j : Nat} {o : LObj} (h : t[j]? = some o) : (turnL t i)[j]? = some (if j = i then { o with ver := o.ver + 1 } else o) := by
  unfold turnL
  by_cases e : j = i
  · subst e
    rw [if_pos rfl]
    simp only [h]
    rw [List.getElem?_set_self (by have := (List.getElem?_eq_some_iff.1 h).1; omega)]
  · rw [if_neg e]
    split
    · rw [List.getElem?_set_ne (Ne.symm e)]; exact h
    · exact h
theorem same_turn {os : List LObj} {o : LOp} {i : Nat} {a b : LObj} (ha : os[i]? = some a) (hb : os[i]? = some b) : TurnP o i a b := by
  rw [ha] at hb; cases hb; exact .inl rfl
theorem turnP_any {os : List LObj} {o : LOp} (hs : specOk os = true) (hk : opOk o = true) {i : Nat} {a b : LObj} (ha : os[i]? = some a) (hb : (actDo os o).1[i]? = some b) : TurnP o i a b := by
  obtain ⟨i1, i2⟩ := opOk_id hk
  obtain ⟨d1, d2⟩ := opOk_dir hk
  obtain ⟨e1, e2⟩ := opOk_dir2 hk
  have hl := ok_len hs
  obtain ⟨d, hd⟩ := at_ (os := os) hl d1 d2
  obtain ⟨x, hx⟩ := at_ (os := os) hl (by omega) i2
  obtain ⟨y, hy⟩ := at_ (os := os) hl e1 e2
  have hIin := id_in hk
  have hDin := fun h => dir_in hk h
  have hEin := fun h => dir2_in hk h
  obtain ⟨I, hI⟩ : ∃ I : Nat, o.id.toNat = I := ⟨_, rfl⟩
  obtain ⟨D, hD⟩ : ∃ D : Nat, o.dir.toNat = D := ⟨_, rfl⟩
  obtain ⟨E, hE⟩ : ∃ E : Nat, o.dir2.toNat = E := ⟨_, rfl⟩
  rw [hD] at hd hDin
  rw [hI] at hx hIin
  rw [hE] at hy hEin
  have hid : o.id = (I : Int) := by omega
  unfold actDo at hb
  by_cases hw : wornB os (opIds o) = true
  · rw [if_pos hw] at hb; exact same_turn ha hb
  rw [if_neg hw] at hb
  by_cases h1 : o.kind = 1 ∨ o.kind = 2
  · rw [if_pos h1] at hb
    unfold actNew at hb
    simp only [hI, hD, hd, hx] at hb
    by_cases g1 : d.kind ≠ 2
    · rw [if_pos g1] at hb; exact same_turn ha hb
    by_cases g2 : 0 ≤ findV d.kids o.name
    · rw [if_neg g1, if_pos g2] at hb; exact same_turn ha hb
    by_cases g3 : x.kind ≠ 0 ∨ 0 < x.ver
    · rw [if_neg g1, if_neg g2, if_pos g3] at hb; exact same_turn ha hb
    rw [if_neg g1, if_neg g2, if_neg g3] at hb
    have hxv := obj_ver (ok_obj hs hx)
    rcases set_cases hb with ⟨rfl, rfl⟩ | ⟨hne, hb⟩
    · rw [hd] at ha; cases ha
      exact .inr ⟨rfl, hDin (by omega), .inr (.inr (put_ne (find_no g2 (ents_pos hs hd)) _))⟩
    · rcases set_cases hb with ⟨rfl, rfl⟩ | ⟨hne2, hb⟩
      · rw [hx] at ha; cases ha
        refine .inr ⟨?_, hIin, .inr (.inl ?_)⟩
        · show (1 : Int) = _ + 1; omega
        · dsimp only; split <;> omega
      · exact same_turn ha hb
  rw [if_neg h1] at hb
  by_cases h3 : o.kind = 3
  · rw [if_pos h3] at hb
    unfold actGone at hb
    simp only [hI, hD, hd, hx] at hb
    by_cases g1 : d.kind ≠ 2
    · rw [if_pos g1] at hb; exact same_turn ha hb
    by_cases g2 : findV d.kids o.name ≠ o.id
    · rw [if_neg g1, if_pos g2] at hb; exact same_turn ha hb
    by_cases g3 : 0 < x.kids.length
    · rw [if_neg g1, if_neg g2, if_pos g3] at hb; exact same_turn ha hb
    rw [if_neg g1, if_neg g2, if_neg g3] at hb
    have g2 : findV d.kids o.name = o.id := by simpa using g2
    obtain ⟨e0, m0, n0, k0⟩ := find_name g2 (by omega)
    have hkx : x.kind ≠ 0 := by
      have h5 := cnt_yes (mem_flatE.2 ⟨d, hd, m0⟩)
      rw [k0, hid] at h5
      have h6 := ok_cnt hs (show 1 ≤ I by omega) (show I < 32 by omega)
      rw [kindOf_at hx] at h6
      intro h7
      rw [if_pos h7] at h6
      omega
    rcases set_cases hb with ⟨rfl, rfl⟩ | ⟨hne, hb⟩
    · rw [hx] at ha; cases ha
      exact .inr ⟨rfl, hIin, .inr (.inl (Ne.symm hkx))⟩
    · rcases set_cases hb with ⟨rfl, rfl⟩ | ⟨hne2, hb⟩
      · rw [hd] at ha; cases ha
        exact .inr ⟨rfl, hDin (by omega), .inr (.inr (out_ne m0 n0))⟩
      · exact same_turn ha hb
  rw [if_neg h3] at hb
  by_cases h4 : o.kind = 4
  · rw [if_pos h4] at hb
    unfold actMove at hb
    simp only [hD, hE, hd, hy] at hb
    by_cases g1 : d.kind ≠ 2 ∨ y.kind ≠ 2
    · rw [if_pos g1] at hb; exact same_turn ha hb
    by_cases g2 : findV d.kids o.name ≠ o.id
    · rw [if_neg g1, if_pos g2] at hb; exact same_turn ha hb
    by_cases g3 : 0 ≤ findV y.kids o.name2
    · rw [if_neg g1, if_neg g2, if_pos g3] at hb; exact same_turn ha hb
    by_cases g4 : under os o.id 33 o.dir2 = true
    · rw [if_neg g1, if_neg g2, if_neg g3, if_pos g4] at hb; exact same_turn ha hb
    rw [if_neg g1, if_neg g2, if_neg g3, if_neg g4] at hb
    have g2 : findV d.kids o.name = o.id := by simpa using g2
    obtain ⟨e0, m0, n0, k0⟩ := find_name g2 (by omega)
    have hnm := find_no g3 (ents_pos hs hy)
    have hDi := hDin (by omega)
    have hEi := hEin h4
    have q1 := kidsL_get D (outL o.name) ha
    have q2 := kidsL_get E (putL ⟨o.name2, o.id⟩) q1
    unfold turnM at hb
    by_cases hED : E = D
    · subst hED
      rw [hd] at hy; cases hy
      rw [if_pos rfl, turnL_get E q2] at hb
      cases hb
      by_cases hiE : i = E
      · subst hiE
        rw [hd] at ha; cases ha
        refine .inr ⟨by simp, hEi, .inr (.inr ?_)⟩
        simp only [if_pos]
        exact put_ne hnm _
      · exact .inl (by simp [hiE])
    · rw [if_neg hED, turnL_get E (turnL_get D q2)] at hb
      cases hb
      by_cases hiE : i = E
      · subst hiE
        rw [hy] at ha; cases ha
        refine .inr ⟨by simp [hED], hEi, .inr (.inr ?_)⟩
        simp only [if_pos, if_neg hED]
        exact put_ne hnm _
      · by_cases hiD : i = D
        · subst hiD
          rw [hd] at ha; cases ha
          refine .inr ⟨by simp [hiE], hDi, .inr (.inr ?_)⟩
          simp only [if_pos, if_neg hiE]
          exact out_ne m0 n0
        · exact .inl (by simp [hiE, hiD])
  rw [if_neg h4] at hb
  have h5 : o.kind = 5 := by have := op_kinds hk; omega
  unfold actText at hb
  simp only [hI, hx] at hb
  by_cases g1 : x.kind ≠ 1
  · rw [if_pos g1] at hb; exact same_turn ha hb
  rw [if_neg g1] at hb
  rcases set_cases hb with ⟨rfl, rfl⟩ | ⟨hne, hb⟩
  · rw [hx] at ha; cases ha
    exact .inr ⟨rfl, hIin, .inl h5⟩
  · exact same_turn ha hb
theorem set_self {os : List LObj} {k : Nat} {o : LObj} (h : k < os.length) : (os.set k o)[k]? = some o := by
  rw [List.getElem?_set_self h]
/-- What went well turned something. -/
theorem turn_some {os : List LObj} {o : LOp} (hs : specOk os = true) (hk : opOk o = true) (h0 : (actDo os o).2 = 0) : ∃ (i : Nat) (a b : LObj), os[i]? = some a ∧ (actDo os o).1[i]? = some b ∧ b.ver = a.ver + 1 := by
  obtain ⟨i1, i2⟩ := opOk_id hk
  obtain ⟨d1, d2⟩ := opOk_dir hk
  obtain ⟨e1, e2⟩ := opOk_dir2 hk
  have hl := ok_len hs
  obtain ⟨d, hd⟩ := at_ (os := os) hl d1 d2
  obtain ⟨x, hx⟩ := at_ (os := os) hl (by omega) i2
  obtain ⟨y, hy⟩ := at_ (os := os) hl e1 e2
  obtain ⟨I, hI⟩ : ∃ I : Nat, o.id.toNat = I := ⟨_, rfl⟩
  obtain ⟨D, hD⟩ : ∃ D : Nat, o.dir.toNat = D := ⟨_, rfl⟩
  obtain ⟨E, hE⟩ : ∃ E : Nat, o.dir2.toNat = E := ⟨_, rfl⟩
  rw [hD] at hd
  rw [hI] at hx
  rw [hE] at hy
  have lI : I < os.length := by omega
  have lD : D < os.length := by omega
  unfold actDo at h0 ⊢
  by_cases hw : wornB os (opIds o) = true
  · rw [if_pos hw] at h0; simp at h0
  rw [if_neg hw] at h0 ⊢
  by_cases h1 : o.kind = 1 ∨ o.kind = 2
  · rw [if_pos h1] at h0 ⊢
    unfold actNew at h0 ⊢
    simp only [hI, hD, hd, hx] at h0 ⊢
    by_cases g1 : d.kind ≠ 2
    · rw [if_pos g1] at h0; simp at h0
    by_cases g2 : 0 ≤ findV d.kids o.name
    · rw [if_neg g1, if_pos g2] at h0; simp at h0
    by_cases g3 : x.kind ≠ 0 ∨ 0 < x.ver
    · rw [if_neg g1, if_neg g2, if_pos g3] at h0; simp at h0
    rw [if_neg g1, if_neg g2, if_neg g3]
    exact ⟨D, d, _, hd, set_self (by simpa using lD), rfl⟩
  rw [if_neg h1] at h0 ⊢
  by_cases h3 : o.kind = 3
  · rw [if_pos h3] at h0 ⊢
    unfold actGone at h0 ⊢
    simp only [hI, hD, hd, hx] at h0 ⊢
    by_cases g1 : d.kind ≠ 2
    · rw [if_pos g1] at h0; simp at h0
    by_cases g2 : findV d.kids o.name ≠ o.id
    · rw [if_neg g1, if_pos g2] at h0; simp at h0
    by_cases g3 : 0 < x.kids.length
    · rw [if_neg g1, if_neg g2, if_pos g3] at h0; simp at h0
    rw [if_neg g1, if_neg g2, if_neg g3]
    exact ⟨I, x, _, hx, set_self (by simpa using lI), rfl⟩
  rw [if_neg h3] at h0 ⊢
  by_cases h4 : o.kind = 4
  · rw [if_pos h4] at h0 ⊢
    unfold actMove at h0 ⊢
    simp only [hD, hE, hd, hy] at h0 ⊢
    by_cases g1 : d.kind ≠ 2 ∨ y.kind ≠ 2
    · rw [if_pos g1] at h0; simp at h0
    by_cases g2 : findV d.kids o.name ≠ o.id
    · rw [if_neg g1, if_pos g2] at h0; simp at h0
    by_cases g3 : 0 ≤ findV y.kids o.name2
    · rw [if_neg g1, if_neg g2, if_pos g3] at h0; simp at h0
    by_cases g4 : under os o.id 33 o.dir2 = true
    · rw [if_neg g1, if_neg g2, if_neg g3, if_pos g4] at h0; simp at h0
    rw [if_neg g1, if_neg g2, if_neg g3, if_neg g4]
    have q2 := kidsL_get E (putL ⟨o.name2, o.id⟩) (kidsL_get D (outL o.name) hy)
    unfold turnM
    by_cases hED : E = D
    · rw [if_pos hED]
      exact ⟨E, y, _, hy, turnL_get D q2, by simp [hED]⟩
    · rw [if_neg hED]
      exact ⟨E, y, _, hy, turnL_get E (turnL_get D q2), by simp [hED]⟩
  rw [if_neg h4] at h0 ⊢
  unfold actText at h0 ⊢
  simp only [hI, hx] at h0 ⊢
  by_cases g1 : x.kind ≠ 1
  · rw [if_pos g1] at h0; simp at h0
  rw [if_neg g1]
  exact ⟨I, x, _, hx, set_self lI, rfl⟩
end Go.Proofs.YtnolbfijcnldjaaGreatDoor
