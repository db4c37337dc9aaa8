/- Lemmas that the proofs of this seat share: ActTurn. -/
import Derived.Test.YtcdfdodipdmdkaaGreatDoorU19
/- What is done turns what it changes, and nothing else: plain facts. -/
namespace Go.Proofs.YtcdfdodipdmdkaaGreatDoor

def eEq (a b : LEnt) : Bool := sEq a.name b.name && a.id == b.id
theorem eEq_yes {a b : LEnt} (h : a.name = b.name) (k : a.id = b.id) : eEq a b = true := by
  unfold eEq; rw [(sEq_iff _ _).2 h, k]; simp

/-- What becomes of an object: nothing, or its number of turns is one more, it is named, and it is another one (or a text was written). -/
def TurnP (o : LOp) (i : Nat) (a b : LObj) : Prop :=
  b = a ∨ (b.ver = a.ver + 1 ∧ i ∈ opIds o ∧ (o.kind = 5 ∨ b.kind ≠ a.kind ∨ b.kids ≠ a.kids))
theorem cnt_yes {t : List LObj} {d : Nat} {e : LEnt} (h : (d, e) ∈ flat t) : 0 < cnt (flat t) e.id := by
  unfold cnt
  exact List.countP_pos_iff.2 ⟨(d, e), h, by simp⟩
theorem put_ne {x : LEnt} {es : List LEnt} (h : ∀ e ∈ es, e.name ≠ x.name) (es' : List LEnt) : putL x es' ≠ es := fun hh => by
  have : x ∈ es := by rw [← hh, mem_put]; exact .inl rfl
  exact h x this rfl
theorem out_ne {name : ByteArray} {es : List LEnt} {e : LEnt} (he : e ∈ es) (hn : e.name = name) : outL name es ≠ es := fun hh => by
  rw [← hh, mem_out] at he
  exact he.2 hn
theorem set_cases {os : List LObj} {k i : Nat} {o b : LObj} (h : (os.set k o)[i]? = some b) : (i = k ∧ b = o) ∨ (i ≠ k ∧ os[i]? = some b) := by
  by_cases e : k = i
  · subst e
    have hl := (List.getElem?_eq_some_iff.1 h).1
    rw [List.getElem?_set_self (by simpa using hl)] at h
    cases h
    exact .inl ⟨rfl, rfl⟩
  · rw [List.getElem?_set_ne e] at h
    exact .inr ⟨Ne.symm e, h⟩
theorem turnL_get {t : List LObj} (i : Nat) {j : Nat} {o : LObj} (h : t[j]? = some o) : (turnL t i)[j]? = some (if j = i then { o with ver := o.ver + 1 } else o) := by
  unfold turnL
  by_cases e : j = i
  · subst e
    rw [if_pos rfl]
    simp only [h]
    rw [List.getElem?_set_self (by have := (List.getElem?_eq_some_iff.1 h).1; omega)]
  · rw [if_neg e]
    split
    · rw [List.getElem?_set_ne (Ne.symm e)]; exact h
    · exact h
theorem same_turn {os : List LObj} {o : LOp} {i : Nat} {a b : LObj} (ha : os[i]? = some a) (hb : os[i]? = some b) : TurnP o i a b := by
  rw [ha] at hb; cases hb; exact .inl rfl
theorem turnP_any {os : List LObj} {o : LOp} (hs : specOk os = true) (hk : opOk o = true) {i : Nat} {a b : LObj} (ha : os[i]? = some a) (hb : (actDo os o).1[i]? = some b) : TurnP o i a b := by
  obtain ⟨i1, i2⟩ := opOk_id hk
  obtain ⟨d1, d2⟩ := opOk_dir hk
  obtain ⟨e1, e2⟩ := opOk_dir2 hk
  have hl := ok_len hs
  obtain ⟨d, hd⟩ := at_ (os := os) hl d1 d2
  obtain ⟨x, hx⟩ := at_ (os := os) hl (by omega) i2
  obtain ⟨y, hy⟩ := at_ (os := os) hl e1 e2
  have hIin := id_in hk
  have hDin := fun h => dir_in hk h
  have hEin := fun h => dir2_in hk h
  obtain ⟨I, hI⟩ : ∃ I : Nat, o.id.toNat = I := ⟨_, rfl⟩
  obtain ⟨D, hD⟩ : ∃ D : Nat, o.dir.toNat = D := ⟨_, rfl⟩
  obtain ⟨E, hE⟩ : ∃ E : Nat, o.dir2.toNat = E := ⟨_, rfl⟩
  rw [hD] at hd hDin
  rw [hI] at hx hIin
  rw [hE] at hy hEin
  have hid : o.id = (I : Int) := by omega
  unfold actDo at hb
  by_cases hw : wornB os (opIds o) = true
  · rw [if_pos hw] at hb; exact same_turn ha hb
  rw [if_neg hw] at hb
  by_cases h1 : o.kind = 1 ∨ o.kind = 2
  · rw [if_pos h1] at hb
    unfold actNew at hb
    simp only [hI, hD, hd, hx] at hb
    by_cases g1 : d.kind ≠ 2
    · rw [if_pos g1] at hb; exact same_turn ha hb
    by_cases g2 : 0 ≤ findV d.kids o.name
    · rw [if_neg g1, if_pos g2] at hb; exact same_turn ha hb
    by_cases g3 : x.kind ≠ 0 ∨ 0 < x.ver
    · rw [if_neg g1, if_neg g2, if_pos g3] at hb; exact same_turn ha hb
    rw [if_neg g1, if_neg g2, if_neg g3] at hb
    have hxv := obj_ver (ok_obj hs hx)
    rcases set_cases hb with ⟨rfl, rfl⟩ | ⟨hne, hb⟩
    · rw [hd] at ha; cases ha
      exact .inr ⟨rfl, hDin (by omega), .inr (.inr (put_ne (find_no g2 (ents_pos hs hd)) _))⟩
    · rcases set_cases hb with ⟨rfl, rfl⟩ | ⟨hne2, hb⟩
      · rw [hx] at ha; cases ha
        refine .inr ⟨?_, hIin, .inr (.inl ?_)⟩
        · show (1 : Int) = _ + 1; omega
        · dsimp only; split <;> omega
      · exact same_turn ha hb
  rw [if_neg h1] at hb
  by_cases h3 : o.kind = 3
  · rw [if_pos h3] at hb
    unfold actGone at hb
    simp only [hI, hD, hd, hx] at hb
    by_cases g1 : d.kind ≠ 2
    · rw [if_pos g1] at hb; exact same_turn ha hb
    by_cases g2 : findV d.kids o.name ≠ o.id
    · rw [if_neg g1, if_pos g2] at hb; exact same_turn ha hb
    by_cases g3 : 0 < x.kids.length
    · rw [if_neg g1, if_neg g2, if_pos g3] at hb; exact same_turn ha hb
    rw [if_neg g1, if_neg g2, if_neg g3] at hb
    have g2 : findV d.kids o.name = o.id := by simpa using g2
    obtain ⟨e0, m0, n0, k0⟩ := find_name g2 (by omega)
    have hkx : x.kind ≠ 0 := by
      have h5 := cnt_yes (mem_flatE.2 ⟨d, hd, m0⟩)
      rw [k0, hid] at h5
      have h6 := ok_cnt hs (show 1 ≤ I by omega) (show I < 32 by omega)
      rw [kindOf_at hx] at h6
      intro h7
      rw [if_pos h7] at h6
      omega
    rcases set_cases hb with ⟨rfl, rfl⟩ | ⟨hne, hb⟩
    · rw [hx] at ha; cases ha
      exact .inr ⟨rfl, hIin, .inr (.inl (Ne.symm hkx))⟩
    · rcases set_cases hb with ⟨rfl, rfl⟩ | ⟨hne2, hb⟩
      · rw [hd] at ha; cases ha
        exact .inr ⟨rfl, hDin (by omega), .inr (.inr (out_ne m0 n0))⟩
      · exact same_turn ha hb
  rw [if_neg h3] at hb
  by_cases h4 : o.kind = 4
  · rw [if_pos h4] at hb
    unfold actMove at hb
    simp only [hD, hE, hd, hy] at hb
    by_cases g1 : d.kind ≠ 2 ∨ y.kind ≠ 2
    · rw [if_pos g1] at hb; exact same_turn ha hb
    by_cases g2 : findV d.kids o.name ≠ o.id
    · rw [if_neg g1, if_pos g2] at hb; exact same_turn ha hb
    by_cases g3 : 0 ≤ findV y.kids o.name2
    · rw [if_neg g1, if_neg g2, if_pos g3] at hb; exact same_turn ha hb
    by_cases g4 : under os o.id 33 o.dir2 = true
    · rw [if_neg g1, if_neg g2, if_neg g3, if_pos g4] at hb; exact same_turn ha hb
    rw [if_neg g1, if_neg g2, if_neg g3, if_neg g4] at hb
    have g2 : findV d.kids o.name = o.id := by simpa using g2
    obtain ⟨e0, m0, n0, k0⟩ := find_name g2 (by omega)
    have hnm := find_no g3 (ents_pos hs hy)
    have hDi := hDin (by omega)
    have hEi := hEin h4
    have q1 := kidsL_get D (outL o.name) ha
    have q2 := kidsL_get E (putL ⟨o.name2, o.id⟩) q1
    unfold turnM at hb
    by_cases hED : E = D
    · subst hED
      rw [hd] at hy; cases hy
      rw [if_pos rfl, turnL_get E q2] at hb
      cases hb
      by_cases hiE : i = E
      · subst hiE
        rw [hd] at ha; cases ha
        refine .inr ⟨by simp, hEi, .inr (.inr ?_)⟩
        simp only [if_pos]
        exact put_ne hnm _
      · exact .inl (by simp [hiE])
    · rw [if_neg hED, turnL_get E (turnL_get D q2)] at hb
      cases hb
      by_cases hiE : i = E
      · subst hiE
        rw [hy] at ha; cases ha
        refine .inr ⟨by simp [hED], hEi, .inr (.inr ?_)⟩
        simp only [if_pos, if_neg hED]
        exact put_ne hnm _
      · by_cases hiD : i = D
        · subst hiD
          rw [hd] at ha; cases ha
          refine .inr ⟨by simp [hiE], hDi, .inr (.inr ?_)⟩
          simp only [if_pos, if_neg hiE]
          exact out_ne m0 n0
        · exact .inl (by simp [hiE, hiD])
  rw [if_neg h4] at hb
  have h5 : o.kind = 5 := by have := op_kinds hk; omega
  unfold actText at hb
  simp only [hI, hx] at hb
  by_cases g1 : x.kind ≠ 1
  · rw [if_pos g1] at hb; exact same_turn ha hb
  rw [if_neg g1] at hb
  rcases set_cases hb with ⟨rfl, rfl⟩ | ⟨hne, hb⟩
  · rw [hx] at ha; cases ha
    exact .inr ⟨rfl, hIin, .inl h5⟩
  · exact same_turn ha hb
end Go.Proofs.YtcdfdodipdmdkaaGreatDoor
