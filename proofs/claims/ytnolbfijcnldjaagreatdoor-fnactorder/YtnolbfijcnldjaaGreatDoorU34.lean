/- Lemmas that the proofs of this seat share: OrderP. -/
import Derived.Test.YtnolbfijcnldjaaGreatDoorU31
/- What touches other objects can be done in either order: plain facts. -/
namespace Go.Proofs.YtnolbfijcnldjaaGreatDoor

/-- Objects put into their places, one behind the other. -/
def setsL (os : List LObj) : List (Nat × LObj) → List LObj
  | [] => os
  | p :: f => setsL (os.set p.1 p.2) f
theorem setsL_get : ∀ (f : List (Nat × LObj)) (os : List LObj) (j : Nat), (∀ p ∈ f, p.1 ≠ j) → (setsL os f)[j]? = os[j]?
  | [], _, _, _ => rfl
  | p :: f, os, j, h => by
    unfold setsL
    rw [setsL_get f _ j fun q hq => h q (List.mem_cons_of_mem _ hq), List.getElem?_set_ne (h p (List.mem_cons_self ..))]
theorem setsL_congr : ∀ (f : List (Nat × LObj)) (os os' : List LObj) (j : Nat), os[j]? = os'[j]? → (setsL os f)[j]? = (setsL os' f)[j]?
  | [], _, _, _, h => h
  | p :: f, os, os', j, h => by
    unfold setsL
    refine setsL_congr f _ _ j ?_
    by_cases e : p.1 = j
    · subst e
      by_cases hl : p.1 < os.length
      · have hl' : p.1 < os'.length := by
          rw [List.getElem?_eq_getElem hl] at h
          exact (List.getElem?_eq_some_iff.1 h.symm).1
        rw [List.getElem?_set_self hl, List.getElem?_set_self hl']
      · have hl' : ¬ p.1 < os'.length := fun h2 => by
          rw [List.getElem?_eq_getElem h2] at h
          exact hl (List.getElem?_eq_some_iff.1 h).1
        rw [List.getElem?_eq_none (by simp; omega), List.getElem?_eq_none (by simp; omega)]
    · rw [List.getElem?_set_ne e, List.getElem?_set_ne e]; exact h
theorem setsL_comm (os : List LObj) (f g : List (Nat × LObj)) (h : ∀ p ∈ f, ∀ q ∈ g, p.1 ≠ q.1) : setsL (setsL os f) g = setsL (setsL os g) f := by
  apply List.ext_getElem?
  intro j
  by_cases hj : ∃ p ∈ f, p.1 = j
  · obtain ⟨p, hp, rfl⟩ := hj
    have hg : ∀ q ∈ g, q.1 ≠ p.1 := fun q hq => (h p hp q hq).symm
    rw [setsL_get g _ _ hg]
    exact setsL_congr f _ _ _ (setsL_get g os _ hg).symm
  · have hf : ∀ p ∈ f, p.1 ≠ j := fun p hp e => hj ⟨p, hp, e⟩
    rw [setsL_get f _ _ hf]
    exact setsL_congr g _ _ _ (setsL_get f os _ hf)
theorem worn_congr {os os' : List LObj} {l : List Nat} (h : ∀ i ∈ l, os'[i]? = os[i]?) : wornB os' l = wornB os l := by
  unfold wornB
  induction l with
  | nil => rfl
  | cons a r ih =>
    simp only [List.any_cons]
    rw [ih fun i hi => h i (List.mem_cons_of_mem _ hi)]
    unfold oldB
    rw [h a (List.mem_cons_self ..)]
/-- What is made, goes or is written reads and turns what it names alone. -/
theorem do_local {os : List LObj} {o : LOp} (hk : opOk o = true) (h4 : o.kind ≠ 4) (h0 : (actDo os o).2 = 0) : ∃ f : List (Nat × LObj), (∀ p ∈ f, p.1 ∈ opIds o) ∧ ∀ os', (∀ i ∈ opIds o, os'[i]? = os[i]?) → actDo os' o = (setsL os' f, 0) := by
  have hI := id_in hk
  have hD := fun h5 => dir_in hk h5
  by_cases hw : wornB os (opIds o) = true
  · unfold actDo at h0; rw [if_pos hw] at h0; simp at h0
  have hw' : ∀ os', (∀ i ∈ opIds o, os'[i]? = os[i]?) → ¬ wornB os' (opIds o) = true := fun os' h => by rw [worn_congr h]; exact hw
  by_cases h1 : o.kind = 1 ∨ o.kind = 2
  · have hDi := hD (by omega)
    unfold actDo at h0
    rw [if_neg hw, if_pos h1] at h0
    unfold actNew at h0
    split at h0
    · rename_i d x hd hx
      by_cases g1 : d.kind ≠ 2
      · rw [if_pos g1] at h0; simp at h0
      by_cases g2 : 0 ≤ findV d.kids o.name
      · rw [if_neg g1, if_pos g2] at h0; simp at h0
      by_cases g3 : x.kind ≠ 0 ∨ 0 < x.ver
      · rw [if_neg g1, if_neg g2, if_pos g3] at h0; simp at h0
      refine ⟨[(o.id.toNat, ⟨if o.kind = 2 then 2 else 1, 1, ⟨#[]⟩, []⟩), (o.dir.toNat, { d with kids := putL ⟨o.name, o.id⟩ d.kids, ver := d.ver + 1 })], ?_, fun os' h => ?_⟩
      · intro p hp
        simp only [List.mem_cons, List.not_mem_nil, or_false] at hp
        rcases hp with rfl | rfl
        · exact hI
        · exact hDi
      · unfold actDo
        rw [if_neg (hw' os' h), if_pos h1]
        unfold actNew
        rw [h _ hDi, h _ hI, hd, hx]
        dsimp only
        rw [if_neg g1, if_neg g2, if_neg g3]
        rfl
    · simp at h0
  by_cases h3 : o.kind = 3
  · have hDi := hD (by omega)
    unfold actDo at h0
    rw [if_neg hw, if_neg h1, if_pos h3] at h0
    unfold actGone at h0
    split at h0
    · rename_i d x hd hx
      by_cases g1 : d.kind ≠ 2
      · rw [if_pos g1] at h0; simp at h0
      by_cases g2 : findV d.kids o.name ≠ o.id
      · rw [if_neg g1, if_pos g2] at h0; simp at h0
      by_cases g3 : 0 < x.kids.length
      · rw [if_neg g1, if_neg g2, if_pos g3] at h0; simp at h0
      refine ⟨[(o.dir.toNat, { d with kids := outL o.name d.kids, ver := d.ver + 1 }), (o.id.toNat, ⟨0, x.ver + 1, ⟨#[]⟩, []⟩)], ?_, fun os' h => ?_⟩
      · intro p hp
        simp only [List.mem_cons, List.not_mem_nil, or_false] at hp
        rcases hp with rfl | rfl
        · exact hDi
        · exact hI
      · unfold actDo
        rw [if_neg (hw' os' h), if_neg h1, if_pos h3]
        unfold actGone
        rw [h _ hDi, h _ hI, hd, hx]
        dsimp only
        rw [if_neg g1, if_neg g2, if_neg g3]
        rfl
    · simp at h0
  unfold actDo at h0
  rw [if_neg hw, if_neg h1, if_neg h3, if_neg h4] at h0
  unfold actText at h0
  split at h0
  · rename_i x hx
    by_cases g1 : x.kind ≠ 1
    · rw [if_pos g1] at h0; simp at h0
    refine ⟨[(o.id.toNat, { x with text := o.text, ver := x.ver + 1 })], ?_, fun os' h => ?_⟩
    · intro p hp
      simp only [List.mem_cons, List.not_mem_nil, or_false] at hp
      rw [hp]; exact hI
    · unfold actDo
      rw [if_neg (hw' os' h), if_neg h1, if_neg h3, if_neg h4]
      unfold actText
      rw [h _ hI, hx]
      dsimp only
      rw [if_neg g1]
      rfl
  · simp at h0
structure OrderP (os : List LObj) (a b : LOp) : Prop where
  c3 : (actR (actR os a).1 b).2 = 0
  c4 : (actR (actR os b).1 a).2 = 0
  same : (actR (actR os a).1 b).1 = (actR (actR os b).1 a).1
theorem order_any {os : List LObj} {a b : LOp} (ha : (actR os a).2 = 0) (hb : (actR os b).2 = 0) (h4 : a.kind ≠ 4) (h4' : b.kind ≠ 4) (hd : ∀ i ∈ opIds a, i ∉ opIds b) : OrderP os a b := by
  obtain ⟨hs, hka, ea⟩ := actR_fine ha
  obtain ⟨-, hkb, eb⟩ := actR_fine hb
  have hsa := actR_ok hs a
  have hsb := actR_ok hs b
  obtain ⟨fa, hfa, ga⟩ := do_local hka h4 (by rw [← ea]; exact ha)
  obtain ⟨fb, hfb, gb⟩ := do_local hkb h4' (by rw [← eb]; exact hb)
  have xa : (actR os a).1 = setsL os fa := by rw [ea, ga os fun _ _ => rfl]
  have xb : (actR os b).1 = setsL os fb := by rw [eb, gb os fun _ _ => rfl]
  have e3 : actR (actR os a).1 b = (setsL (setsL os fa) fb, 0) := by
    have h := gb (setsL os fa) fun i hi => setsL_get fa os i fun p hp e => hd p.1 (hfa p hp) (by rw [e]; exact hi)
    rw [actR_do hsa hkb, xa, h]
  have e4 : actR (actR os b).1 a = (setsL (setsL os fb) fa, 0) := by
    have h := ga (setsL os fb) fun i hi => setsL_get fb os i fun p hp e => hd i hi (by rw [← e]; exact hfb p hp)
    rw [actR_do hsb hka, xb, h]
  refine ⟨by rw [e3], by rw [e4], ?_⟩
  rw [e3, e4]
  exact setsL_comm os fa fb fun p hp q hq e => hd p.1 (hfa p hp) (by rw [e]; exact hfb q hq)
end Go.Proofs.YtnolbfijcnldjaaGreatDoor
