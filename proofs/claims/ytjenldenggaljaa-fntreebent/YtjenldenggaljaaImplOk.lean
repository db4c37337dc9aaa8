/- What the program asks of a tree is what the specification asks. -/
import Derived.Test.YtjenldenggaljaaCome
namespace Go.Proofs.Ytjenldenggaljaa

theorem pigeon : ∀ (n : Nat) (f : Nat → Nat), (∀ k, k ≤ n → 1 ≤ f k ∧ f k ≤ n) → ∃ a b, a < b ∧ b ≤ n ∧ f a = f b
  | 0, f, h => by have := h 0 (Nat.le_refl _); omega
  | n + 1, f, h => by
    by_cases hk : ∃ k, k ≤ n ∧ f k = f (n + 1)
    · obtain ⟨k, hk, e⟩ := hk
      exact ⟨k, n + 1, by omega, Nat.le_refl _, e⟩
    · have hne : ∀ k, k ≤ n → f k ≠ f (n + 1) := fun k hk' e => hk ⟨k, hk', e⟩
      have hv := h (n + 1) (Nat.le_refl _)
      obtain ⟨a, b, h1, h2, h3⟩ := pigeon n (fun k => if f (n + 1) < f k then f k - 1 else f k) (fun k hk' => by
        have h1 := h k (by omega)
        have h2 := hne k hk'
        by_cases hlt : f (n + 1) < f k
        · rw [if_pos hlt]; omega
        · rw [if_neg hlt]; omega)
      refine ⟨a, b, h1, by omega, ?_⟩
      have ha := hne a (by omega)
      have hb := hne b (by omega)
      by_cases la : f (n + 1) < f a
      · rw [if_pos la] at h3
        by_cases lb : f (n + 1) < f b
        · rw [if_pos lb] at h3; omega
        · rw [if_neg lb] at h3; omega
      · rw [if_neg la] at h3
        by_cases lb : f (n + 1) < f b
        · rw [if_pos lb] at h3; omega
        · rw [if_neg lb] at h3; omega

theorem climb_add (t : List LObj) (r : Nat) : ∀ (k : Nat) (id : Int), climb t (k + r) id = climb t r (climb t k id)
  | 0, id => by rw [Nat.zero_add]; rfl
  | k + 1, id => by
    by_cases h : 0 < id
    · rw [show k + 1 + r = k + r + 1 by omega, climb_step t (k + r) h, climb_step t k h]
      exact climb_add t r k _
    · rw [climb_stop t (k + 1 + r) h, climb_stop t (k + 1) h, climb_stop t r h]

theorem climb_short {t : List LObj} (hlen : t.length = 32) (hall : ∀ (i : Nat) o, t[i]? = some o → objB o = true) (hn : Named t) {i : Nat} (hi : i < 32) (hl : kindOf t i ≠ 0) (h : climb t 32 i = 0) : climb t 31 i = 0 := by
  apply Classical.byContradiction
  intro h31
  have hd : ∀ k, climb t k i = ((climb t k i).toNat : Nat) ∧ (climb t k i).toNat < 32 := fun k => by
    obtain ⟨d, h1, h2, _⟩ := climb_in hlen hall hn hi hl k
    rw [h1]; simpa using h2
  have hnz : ∀ k, k ≤ 31 → climb t k i ≠ 0 := fun k hk e => h31 (climb_zero e 31 hk)
  obtain ⟨a, b, h1, h2, h3⟩ := pigeon 31 (fun k => (climb t k i).toNat) (fun k hk => by
    have q1 := hd k
    have q2 := hnz k hk
    omega)
  have e : climb t a i = climb t b i := by rw [(hd a).1, (hd b).1]; rw [h3]
  have h4 := climb_add t (32 - b) b i
  rw [← e, ← climb_add, show b + (32 - b) = 32 by omega, h] at h4
  exact h31 (climb_zero h4.symm 31 (by omega))

theorem cnt_zero {p : List (Nat × LEnt)} {id : Int} : cnt p id = 0 ↔ Off p id := by
  unfold cnt Off
  rw [List.countP_eq_zero]
  constructor
  · intro h x hx; have := h x hx; simpa using this
  · intro h x hx; have := h x hx; simpa using this
theorem split_first {p : List (Nat × LEnt)} {id : Int} (h : ¬ Off p id) : ∃ pre x post, p = pre ++ x :: post ∧ Off pre id ∧ x.2.id = id := by
  induction p with
  | nil => exact absurd (off_nil id) h
  | cons y l ih =>
    by_cases hy : y.2.id = id
    · exact ⟨[], y, l, rfl, off_nil id, hy⟩
    · have : ¬ Off l id := fun hl => h (by
        have := off_append.2 ⟨off_one.2 hy, hl⟩
        simpa using this)
      obtain ⟨pre, x, post, rfl, h1, h2⟩ := ih this
      exact ⟨y :: pre, x, post, rfl, by have := off_append.2 ⟨off_one.2 hy, h1⟩; simpa using this, h2⟩
theorem cnt_uniq {p : List (Nat × LEnt)} {id : Int} (hu : Uniq p) (h : ¬ Off p id) : cnt p id = 1 := by
  obtain ⟨pre, x, post, rfl, h1, h2⟩ := split_first h
  have h3 : Off post id := by
    apply Classical.byContradiction
    intro hn
    obtain ⟨pre', y, post', rfl, h4, h5⟩ := split_first hn
    have := hu (pre ++ x :: pre') y post' (by simp)
    exact this x (by simp) (by rw [h2, h5])
  rw [show pre ++ x :: post = pre ++ ([x] ++ post) by simp, cnt_append, cnt_append, cnt_one, if_pos h2, cnt_zero.2 h1, cnt_zero.2 h3]
theorem uniq_cnt {p : List (Nat × LEnt)} (h : ∀ x ∈ p, cnt p x.2.id ≤ 1) : Uniq p := by
  intro pre x post e
  apply Classical.byContradiction
  intro hn
  have h1 := h x (by rw [e]; simp)
  have h2 : cnt pre x.2.id ≠ 0 := fun h0 => hn (cnt_zero.1 h0)
  rw [e, show pre ++ x :: post = pre ++ ([x] ++ post) by simp, cnt_append, cnt_append, cnt_one, if_pos rfl] at h1
  omega

/-- What the program asks of a tree. -/
def ImplOk (t : List LObj) : Prop := t.length = 32 ∧ (∀ (i : Nat) o, t[i]? = some o → objB o = true) ∧ kindOf t 0 = 2 ∧ Named t ∧ Comes t
theorem flat_ids {t : List LObj} (hi : IdsIn t) {x : Nat × LEnt} (hx : x ∈ flat t) : ∃ k : Nat, x.2.id = k ∧ 1 ≤ k ∧ k < 32 := by
  obtain ⟨i, o, k, h1, h2, _⟩ := mem_flatFrom hx
  have := hi o (List.mem_of_getElem? h1) x.2 (List.mem_of_getElem? h2)
  exact ⟨x.2.id.toNat, by omega, by omega, by omega⟩
theorem specOk_iff (t : List LObj) : specOk t = true ↔ ImplOk t := by
  constructor
  · intro h
    unfold specOk at h
    rw [Bool.and_eq_true, Bool.and_eq_true, Bool.and_eq_true, decide_eq_true_eq, decide_eq_true_eq, List.all_eq_true, List.all_eq_true] at h
    obtain ⟨⟨⟨h1, h2⟩, h3⟩, h4⟩ := h
    have hall : ∀ (i : Nat) o, t[i]? = some o → objB o = true := fun i o ho => h3 o (List.mem_of_getElem? ho)
    have hat : ∀ i, 1 ≤ i → i < 32 → specAt t i = true := fun i h0 hi => by
      have := h4 (i - 1) (by simp; omega)
      rwa [show i - 1 + 1 = i by omega] at this
    have hids := ids_of_ok hall
    have hcl : ∀ i : Nat, 1 ≤ i → i < 32 → kindOf t i ≠ 0 → cnt (flat t) i = 1 ∧ topB t i = true := fun i h0 hi hk => by
      have := hat i h0 hi
      rw [specAt_live hk, Bool.and_eq_true, decide_eq_true_eq] at this
      exact this
    have hlive : Live t (flat t) := fun x hx => by
      obtain ⟨k, e, k1, k2⟩ := flat_ids hids hx
      rw [e, Int.toNat_natCast]
      intro hk
      have := hat k k1 k2
      rw [specAt_none hk, decide_eq_true_eq] at this
      exact cnt_zero.1 this x hx e
    have hn : Named t := ⟨hlive, uniq_cnt (fun x hx => by
      obtain ⟨k, e, k1, k2⟩ := flat_ids hids hx
      have := hlive x hx
      rw [e, Int.toNat_natCast] at this
      rw [e, (hcl k k1 k2 this).1]
      exact Nat.le_refl _), fun i h0 hi hk ho => by
        have := (hcl i h0 hi hk).1
        rw [cnt_zero.2 ho] at this
        cases this⟩
    refine ⟨h1, hall, h2, hn, fun i hi hk => ?_⟩
    by_cases h0 : i = 0
    · subst h0
      exact climb_stop t 31 (by simp)
    · have := (hcl i (by omega) hi hk).2
      unfold topB at this
      exact climb_short h1 hall hn hi hk (by simpa using this)
  · rintro ⟨h1, h2, h3, h4, h5⟩
    refine specOk_yes h1 h3 h2 (fun i h0 hi => ?_)
    by_cases hk : kindOf t i = 0
    · rw [specAt_none hk, decide_eq_true_eq]
      rw [cnt_zero]
      intro x hx e
      have := h4.1 x hx
      rw [e, Int.toNat_natCast] at this
      exact this hk
    · rw [specAt_live hk, Bool.and_eq_true, decide_eq_true_eq]
      refine ⟨cnt_uniq h4.2.1 (h4.2.2 i h0 hi hk), ?_⟩
      unfold topB
      have := climb_zero (h5 i hi hk) 32 (by omega)
      simpa using this
theorem specOk_no {t : List LObj} (h : ¬ ImplOk t) : specOk t = false := by
  cases hs : specOk t
  · rfl
  · exact absurd ((specOk_iff t).1 hs) h
end Go.Proofs.Ytjenldenggaljaa
