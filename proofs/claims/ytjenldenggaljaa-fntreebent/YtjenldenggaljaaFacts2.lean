import Derived.Test.YtjenldenggaljaaPath
import Derived.Test.YtjenldenggaljaaFind
/- Plain facts about trees that are ok: going up again and again. -/
namespace Go.Proofs.Ytjenldenggaljaa
open Go.RowKit

/-- Going up so many times. -/
def it (os : List LObj) : Nat → Int → Int
  | 0, id => id
  | k + 1, id => it os k (homeIn (flat os) id)
theorem it_add (os : List LObj) : ∀ (j k : Nat) (id : Int), it os (j + k) id = it os k (it os j id)
  | 0, k, id => by simp [it]
  | j + 1, k, id => by
    have : j + 1 + k = (j + k) + 1 := by omega
    rw [this, it, it, it_add os j k]
theorem home_neg {os : List LObj} (hs : specOk os = true) {id : Int} (h : id ≤ 0) : homeIn (flat os) id = -1 := by
  have hi := (specOk_iff os).1 hs
  refine homeIn_off fun x hx e => ?_
  obtain ⟨k, e1, k1, k2⟩ := flat_ids (ids_of_ok hi.2.1) hx
  omega
theorem it_neg {os : List LObj} (hs : specOk os = true) : ∀ (k : Nat) {id : Int}, id < 0 → it os k id < 0
  | 0, _, h => h
  | k + 1, id, h => by
    rw [it, home_neg hs (by omega)]
    exact it_neg hs k (by omega)
theorem it_pre {os : List LObj} (hs : specOk os = true) {j i : Nat} {id : Int} (h : 0 ≤ it os j id) (hi : i ≤ j) : 0 ≤ it os i id := by
  apply Classical.byContradiction
  intro hn
  obtain ⟨k, rfl⟩ : ∃ k, j = i + k := ⟨j - i, by omega⟩
  rw [it_add] at h
  have := it_neg hs k (id := it os i id) (by omega)
  omega
theorem under_iff {os : List LObj} (hs : specOk os = true) (dir : Int) : ∀ (k : Nat) (id : Int), under os dir k id = true ↔ 0 ≤ dir ∧ ∃ j, j < k ∧ it os j id = dir
  | 0, id => by simp [under]
  | k + 1, id => by
    unfold under
    by_cases h0 : 0 ≤ id
    · rw [if_pos h0]
      by_cases he : id = dir
      · rw [if_pos he]
        simp
        exact ⟨by omega, 0, by omega, he⟩
      · rw [if_neg he, under_iff hs dir k]
        constructor
        · rintro ⟨h1, j, h2, h3⟩
          exact ⟨h1, j + 1, by omega, h3⟩
        · rintro ⟨h1, j, h2, h3⟩
          cases j with
          | zero => exact absurd h3 he
          | succ j => exact ⟨h1, j, by omega, h3⟩
    · rw [if_neg h0]
      simp
      intro h1 j _ h3
      have := it_neg hs j (id := id) (by omega)
      omega
theorem climb_it (os : List LObj) : ∀ (k : Nat) (id : Int), climb os k id = 0 → ∃ m, m ≤ k ∧ it os m id = 0
  | 0, id, h => ⟨0, Nat.le_refl _, h⟩
  | k + 1, id, h => by
    by_cases h0 : 0 < id
    · rw [climb_step os k h0] at h
      obtain ⟨m, hm, e⟩ := climb_it os k _ h
      exact ⟨m + 1, by omega, e⟩
    · rw [climb_stop os (k + 1) h0] at h
      exact ⟨0, by omega, h⟩
/-- From each object that is there one comes to the top. -/
theorem depth {os : List LObj} (hs : specOk os = true) {id : Int} (h : hasB os id = true) : ∃ m, m ≤ 32 ∧ it os m id = 0 := by
  have hi := (specOk_iff os).1 hs
  simp [hasB] at h
  have hc := hi.2.2.2.2 id.toNat (by omega) h.2
  have e : ((id.toNat : Nat) : Int) = id := by omega
  rw [e] at hc
  obtain ⟨m, hm, e⟩ := climb_it os 31 id hc
  exact ⟨m, by omega, e⟩
theorem depth31 {os : List LObj} (hs : specOk os = true) {id : Int} (h : hasB os id = true) : ∃ m, m ≤ 31 ∧ it os m id = 0 := by
  have hi := (specOk_iff os).1 hs
  simp [hasB] at h
  have hc := hi.2.2.2.2 id.toNat (by omega) h.2
  have e : ((id.toNat : Nat) : Int) = id := by omega
  rw [e] at hc
  exact climb_it os 31 id hc
theorem it_end {os : List LObj} (hs : specOk os = true) {id : Int} {m j : Nat} (hm : it os m id = 0) (hj : 0 ≤ it os j id) : j ≤ m := by
  apply Classical.byContradiction
  intro hn
  obtain ⟨k, rfl⟩ : ∃ k, j = m + (k + 1) := ⟨j - m - 1, by omega⟩
  rw [it_add, hm, it, home_neg hs (by omega)] at hj
  have := it_neg hs k (id := -1) (by omega)
  omega
theorem underV_iff {os : List LObj} (hs : specOk os = true) {id : Int} (h : hasB os id = true) (dir : Int) : underV os id dir = true ↔ 0 ≤ dir ∧ ∃ j, it os j id = dir := by
  rw [underV_yes hs h, under_iff hs]
  constructor
  · rintro ⟨h1, j, _, h3⟩; exact ⟨h1, j, h3⟩
  · rintro ⟨h1, j, h3⟩
    obtain ⟨m, hm, e⟩ := depth hs h
    have := it_end hs e (j := j) (by omega)
    exact ⟨h1, j, by omega, h3⟩
theorem underV_true {os : List LObj} {id dir : Int} (h : underV os id dir = true) : specOk os = true ∧ hasB os id = true := by
  simp [underV] at h
  exact ⟨h.1.1, h.1.2⟩
theorem underV_trans {os : List LObj} {a b c : Int} (h1 : underV os a b = true) (h2 : underV os b c = true) : underV os a c = true := by
  obtain ⟨hs, ha⟩ := underV_true h1
  obtain ⟨_, hb⟩ := underV_true h2
  obtain ⟨_, j, e1⟩ := (underV_iff hs ha b).1 h1
  obtain ⟨h0, k, e2⟩ := (underV_iff hs hb c).1 h2
  exact (underV_iff hs ha c).2 ⟨h0, j + k, by rw [it_add, e1, e2]⟩
theorem it_loop (os : List LObj) {n : Nat} {a : Int} (h : it os n a = a) : ∀ k, it os (k * n) a = a
  | 0 => by simp [it]
  | k + 1 => by rw [Nat.succ_mul, it_add, it_loop os h k, h]
theorem no_loop {os : List LObj} (hs : specOk os = true) {a : Int} (ha : hasB os a = true) {n : Nat} (h : it os n a = a) : n = 0 := by
  obtain ⟨m, hm, e⟩ := depth hs ha
  have ha0 : 0 ≤ a := by simp [hasB] at ha; omega
  have := it_end hs e (j := 33 * n) (by rw [it_loop os h]; exact ha0)
  omega
theorem underV_anti {os : List LObj} {a b : Int} (h1 : underV os a b = true) (h2 : underV os b a = true) : a = b := by
  obtain ⟨hs, ha⟩ := underV_true h1
  obtain ⟨_, hb⟩ := underV_true h2
  obtain ⟨_, j, e1⟩ := (underV_iff hs ha b).1 h1
  obtain ⟨_, k, e2⟩ := (underV_iff hs hb a).1 h2
  have := no_loop hs ha (n := j + k) (by rw [it_add, e1, e2])
  obtain rfl : j = 0 := by omega
  exact e1
theorem has_iff (os : List LObj) (id : Int) : hasB os id = true ↔ 0 ≤ id ∧ id < 32 ∧ kindOf os id.toNat ≠ 0 := by
  simp [hasB]; omega
/-- Where something is, and by which name. -/
theorem home_mem {os : List LObj} (hs : specOk os = true) {d : Nat} {e : LEnt} (h : (d, e) ∈ flat os) : homeIn (flat os) e.id = d ∧ nameIn (flat os) e.id = e.name := by
  have hi := (specOk_iff os).1 hs
  have hu : Uniq (flat os) := hi.2.2.2.1.2.1
  cases hf : (flat os).find? (fun x => x.2.id == e.id) with
  | none =>
    have := List.find?_eq_none.1 hf (d, e) h
    simp at this
  | some x =>
    have hx := List.mem_of_find?_eq_some hf
    have hxi : x.2.id = e.id := by simpa using List.find?_some hf
    obtain rfl := uniq_mem hu hx h hxi
    exact ⟨by unfold homeIn; rw [hf], by unfold nameIn; rw [hf]⟩
/-- What has names is a directory. -/
theorem kids_dir {o : LObj} (h : objB o = true) (hk : o.kids ≠ []) : o.kind = 2 ∧ kidsB o.kids = true := by
  unfold objB at h
  rw [Bool.and_eq_true] at h
  have h2 := h.2
  have hn : ¬ nil? o.kids.length = true := by
    unfold nil?
    simp
    exact hk
  unfold partsB at h2
  split at h2
  · rw [Bool.and_eq_true] at h2; exact absurd h2.2 hn
  · split at h2
    · rw [Bool.and_eq_true] at h2; exact absurd h2.2 hn
    · split at h2
      · next h3 => rw [Bool.and_eq_true] at h2; exact ⟨h3, h2.2⟩
      · cases h2
/-- An object that is there, but the top, is named once, in a directory that is there. -/
theorem live_home {os : List LObj} (hs : specOk os = true) {id : Int} (h : hasB os id = true) (h0 : 0 < id) :
    ∃ (d k : Nat) (o : LObj) (e : LEnt), os[d]? = some o ∧ o.kids[k]? = some e ∧ e.id = id ∧ homeIn (flat os) id = d ∧ nameIn (flat os) id = e.name ∧ hasB os d = true ∧ o.kind = 2 ∧ kidsB o.kids = true := by
  have hi := (specOk_iff os).1 hs
  obtain ⟨a1, a2, a3⟩ := (has_iff os id).1 h
  have hoff := hi.2.2.2.1.2.2 id.toNat (by omega) (by omega) a3
  have e0 : ((id.toNat : Nat) : Int) = id := by omega
  rw [e0] at hoff
  obtain ⟨x, hx, hxi⟩ : ∃ x ∈ flat os, x.2.id = id := by
    apply Classical.byContradiction
    intro hn
    exact hoff fun x hx e => hn ⟨x, hx, e⟩
  obtain ⟨d, o, k, h1, h2, h3⟩ := mem_flatFrom hx
  have hd : x.1 = d := by omega
  have hx' : (d, x.2) ∈ flat os := by rw [← hd]; exact hx
  obtain ⟨b1, b2⟩ := home_mem hs hx'
  rw [hxi] at b1 b2
  have hob := hi.2.1 d o h1
  obtain ⟨c1, c2⟩ := kids_dir hob (by intro e; rw [e] at h2; simp at h2)
  have hd32 : d < 32 := by have := (List.getElem?_eq_some_iff.1 h1).1; have := hi.1; omega
  exact ⟨d, k, o, x.2, h1, h2, hxi, b1, b2, (has_iff os d).2 ⟨by omega, by omega, by rw [Int.toNat_natCast, kindOf_at h1]; omega⟩, c1, c2⟩
/-- What is nothing is named nowhere. -/
theorem dead_home {os : List LObj} (hs : specOk os = true) {id : Int} (h : hasB os id = false) : homeIn (flat os) id = -1 := by
  have hi := (specOk_iff os).1 hs
  refine homeIn_off fun x hx e => ?_
  obtain ⟨k, e1, k1, k2⟩ := flat_ids (ids_of_ok hi.2.1) hx
  have hl := hi.2.2.2.1.1 x hx
  have : hasB os id = true := (has_iff os id).2 ⟨by omega, by omega, by rw [← e]; exact hl⟩
  rw [this] at h
  cases h
theorem top_live {os : List LObj} (hs : specOk os = true) : hasB os 0 = true := by
  have hi := (specOk_iff os).1 hs
  exact (has_iff os 0).2 ⟨by omega, by omega, by have := hi.2.2.1; simp; omega⟩
theorem homeV_iff {os : List LObj} (hs : specOk os = true) (id : Int) : 0 ≤ homeV os id ↔ hasB os id = true ∧ 0 < id := by
  rw [homeV_yes hs]
  constructor
  · intro h
    cases hb : hasB os id with
    | false => rw [dead_home hs hb] at h; omega
    | true =>
      refine ⟨rfl, ?_⟩
      apply Classical.byContradiction
      intro hn
      rw [home_neg hs (by omega)] at h
      omega
  · rintro ⟨h1, h2⟩
    obtain ⟨d, k, o, e, _, _, _, h3, _⟩ := live_home hs h1 h2
    omega
theorem underV_top {os : List LObj} (hs : specOk os = true) (id : Int) : underV os id 0 = hasB os id := by
  cases hb : hasB os id with
  | false => exact underV_has hb 0
  | true =>
    obtain ⟨m, _, e⟩ := depth hs hb
    exact (underV_iff hs hb 0).2 ⟨by omega, m, e⟩
/-- What is found in a directory is at home there. -/
theorem find_home {os : List LObj} {dir : Int} {name : ByteArray} (h : 0 ≤ treeFindV os dir name) :
    specOk os = true ∧ hasB os (treeFindV os dir name) = true ∧ 0 < treeFindV os dir name ∧ homeIn (flat os) (treeFindV os dir name) = dir ∧ hasB os dir = true := by
  have hc : specOk os = true ∧ 0 ≤ dir ∧ dir < 32 := by
    apply Classical.byContradiction
    intro hn
    unfold treeFindV at h
    rw [if_neg hn] at h
    omega
  obtain ⟨hs, h0, h1⟩ := hc
  have hi := (specOk_iff os).1 hs
  obtain ⟨d, rfl⟩ := Int.eq_ofNat_of_zero_le h0
  obtain ⟨o, ho⟩ : ∃ o, os[d]? = some o := ⟨os[d]'(by have := hi.1; omega), by simp⟩
  have hd : d < 32 := by omega
  rw [tf_yes hs hd ho name] at h ⊢
  unfold findV at h ⊢
  cases hf : o.kids.find? (fun e => sEq e.name name) with
  | none => rw [hf] at h; simp at h
  | some e =>
    simp only
    have he := List.mem_of_find?_eq_some hf
    obtain ⟨k, hk⟩ := List.mem_iff_getElem?.1 he
    have hm := mem_flat ho hk
    obtain ⟨b1, _⟩ := home_mem hs hm
    obtain ⟨q, e1, k1, k2⟩ := flat_ids (ids_of_ok hi.2.1) hm
    have hl := hi.2.2.2.1.1 _ hm
    obtain ⟨c1, c2⟩ := kids_dir (hi.2.1 d o ho) (by intro e; rw [e] at hk; simp at hk)
    refine ⟨hs, (has_iff os e.id).2 ⟨?_, ?_, hl⟩, ?_, b1, (has_iff os d).2 ⟨by omega, by omega, by rw [Int.toNat_natCast, kindOf_at ho]; omega⟩⟩ <;> simp at e1 <;> omega
theorem find_under {os : List LObj} {dir : Int} {name : ByteArray} (h : 0 ≤ treeFindV os dir name) :
    homeV os (treeFindV os dir name) = dir ∧ underV os (treeFindV os dir name) dir = true ∧ underV os dir (treeFindV os dir name) = false := by
  obtain ⟨hs, h1, h2, h3, h4⟩ := find_home h
  generalize treeFindV os dir name = id at *
  have hu : underV os id dir = true := (underV_iff hs h1 dir).2 ⟨by have := (has_iff os dir).1 h4; omega, 1, by simpa [it] using h3⟩
  refine ⟨by rw [homeV_yes hs]; exact h3, hu, ?_⟩
  cases hq : underV os dir id with
  | false => rfl
  | true =>
    have := underV_anti hu hq
    have := no_loop hs h1 (n := 1) (by simp [it]; omega)
    omega
end Go.Proofs.Ytjenldenggaljaa

/- Plain facts about paths of trees that are ok. -/
namespace Go.Proofs.Ytjenldenggaljaa
open Go.RowKit

/-- The way from the top, as bytes. -/
def pl (os : List LObj) : Nat → Int → List UInt8
  | 0, _ => []
  | k + 1, id => if 0 < id then pl os k (homeIn (flat os) id) ++ 47 :: (nameIn (flat os) id).data.toList else []
theorem bytes_cat (a b : ByteArray) : (a ++ b).data.toList = a.data.toList ++ b.data.toList := by
  simp [ByteArray.data_append]
theorem path_pl (os : List LObj) : ∀ (k : Nat) (id : Int) (s : ByteArray), (path os k id s).data.toList = pl os k id ++ s.data.toList
  | 0, id, s => by simp [path, pl]
  | k + 1, id, s => by
    unfold path pl
    by_cases h : 0 < id
    · rw [if_pos h, if_pos h, path_pl os k, bytes_cat, bytes_cat]
      simp
    · rw [if_neg h, if_neg h]; rfl
theorem pl_zero (os : List LObj) (k : Nat) {id : Int} (h : ¬ 0 < id) : pl os k id = [] := by
  cases k with
  | zero => rfl
  | succ k => unfold pl; rw [if_neg h]
theorem pl_fuel (os : List LObj) : ∀ (m k : Nat) (id : Int), it os m id = 0 → m ≤ k → pl os k id = pl os m id
  | 0, k, id, h, _ => by
    have : id = 0 := h
    rw [pl_zero os k (by omega), pl_zero os 0 (by omega)]
  | m + 1, k, id, h, hk => by
    obtain ⟨k, rfl⟩ : ∃ j, k = j + 1 := ⟨k - 1, by omega⟩
    unfold pl
    by_cases h0 : 0 < id
    · rw [if_pos h0, if_pos h0, pl_fuel os m k _ h (by omega)]
    · rw [if_neg h0, if_neg h0]
theorem pl_step {os : List LObj} (hs : specOk os = true) {id : Int} {d : Nat} (h0 : 0 < id) (hd : homeIn (flat os) id = d) (hb : hasB os d = true) : pl os 32 id = pl os 32 d ++ 47 :: (nameIn (flat os) id).data.toList := by
  obtain ⟨m, hm, e⟩ := depth31 hs hb
  have h1 := pl_fuel os m 31 d e hm
  have h2 := pl_fuel os m 32 d e (by omega)
  rw [pl, if_pos h0, hd, h1, h2]
theorem split_last {a a' n n' : List UInt8} {c : UInt8} (h : a ++ c :: n = a' ++ c :: n') (hn : c ∉ n) (hn' : c ∉ n') : a = a' ∧ n = n' := by
  rcases List.append_eq_append_iff.1 h with ⟨ts, h1, h2⟩ | ⟨ts, h1, h2⟩
  · cases ts with
    | nil => simp at h1 h2; exact ⟨h1.symm, h2⟩
    | cons x t =>
      simp at h2
      exact absurd (by rw [h2.2]; simp) hn
  · cases ts with
    | nil => simp at h1 h2; exact ⟨h1, h2.symm⟩
    | cons x t =>
      simp at h2
      exact absurd (by rw [h2.2]; simp) hn'
theorem word_slash {l : List UInt8} (h : word l = true) : (47 : UInt8) ∉ l ∧ l ≠ [] := by
  unfold word allB at h
  simp at h
  refine ⟨fun hm => ?_, ?_⟩
  · have := h.1.1 47 hm
    simp [ltr] at this
  · intro e; rw [e] at h; simp at h
theorem ent_word {o : LObj} (h : objB o = true) {e : LEnt} (he : e ∈ o.kids) : word e.name.data.toList = true := by
  have := kids_of_ok h e he
  unfold entB at this
  simp at this
  exact this.1.1
theorem less_self (l : List UInt8) : Op.bytesLess l l = false := by
  induction l with
  | nil => simp [Op.bytesLess]
  | cons x t ih => simp [Op.bytesLess, ih]
/-- In a directory a name is there once. -/
theorem name_once {es : List LEnt} (ha : Asc es) {i j : Nat} {x y : LEnt} (hx : es[i]? = some x) (hy : es[j]? = some y) (h : x.name = y.name) : i = j := by
  rcases Nat.lt_trichotomy i j with h1 | h1 | h1
  · have := ha i j x y h1 hx hy
    unfold nm at this
    rw [h, less_self] at this
    cases this
  · exact h1
  · have := ha j i y x h1 hy hx
    unfold nm at this
    rw [h, less_self] at this
    cases this
theorem pl_pos {os : List LObj} (hs : specOk os = true) {id : Int} (h : hasB os id = true) (h0 : 0 < id) : 2 ≤ (pl os 32 id).length := by
  obtain ⟨d, k, o, e, h1, h2, h3, h4, h5, h6, h7, h8⟩ := live_home hs h h0
  have hi := (specOk_iff os).1 hs
  rw [pl_step hs h0 h4 h6, h5]
  have := (word_slash (ent_word (hi.2.1 d o h1) (List.mem_of_getElem? h2))).2
  have := List.length_pos_iff.mpr this
  simp only [List.length_append, List.length_cons]
  omega
theorem pl_inj {os : List LObj} (hs : specOk os = true) : ∀ (m : Nat) (i k : Int), hasB os i = true → hasB os k = true → it os m i = 0 → pl os 32 i = pl os 32 k → i = k
  | m, i, k, hi, hk, hm, he => by
    have i0 := (has_iff os i).1 hi
    have k0 := (has_iff os k).1 hk
    by_cases hi0 : 0 < i
    · by_cases hk0 : 0 < k
      · cases m with
        | zero => have : i = 0 := hm
                  omega
        | succ m =>
          have hok := (specOk_iff os).1 hs
          obtain ⟨d, x, o, e, h1, h2, h3, h4, h5, h6, h7, h8⟩ := live_home hs hi hi0
          obtain ⟨d', x', o', e', g1, g2, g3, g4, g5, g6, g7, g8⟩ := live_home hs hk hk0
          rw [pl_step hs hi0 h4 h6, pl_step hs hk0 g4 g6, h5, g5] at he
          obtain ⟨q1, q2⟩ := split_last he (word_slash (ent_word (hok.2.1 d o h1) (List.mem_of_getElem? h2))).1 (word_slash (ent_word (hok.2.1 d' o' g1) (List.mem_of_getElem? g2))).1
          have hd := pl_inj hs m d d' h6 g6 (by rw [it, h4] at hm; exact hm) q1
          have hd' : d = d' := by omega
          subst hd'
          rw [h1] at g1
          obtain rfl : o = o' := by simpa using g1
          have hn : e.name = e'.name := by
            have : e.name.data = e'.name.data := Array.toList_inj.1 q2
            cases hn1 : e.name; cases hn2 : e'.name
            rw [hn1, hn2] at this
            simp at this
            rw [this]
          have hx := name_once (asc_of h8) h2 g2 hn
          subst hx
          rw [h2] at g2
          obtain rfl : e = e' := by simpa using g2
          omega
      · have := pl_pos hs hi hi0
        rw [he, pl_zero os 32 hk0] at this
        simp at this
    · by_cases hk0 : 0 < k
      · have := pl_pos hs hk hk0
        rw [← he, pl_zero os 32 hi0] at this
        simp at this
      · omega
theorem pathV_pl {os : List LObj} (hs : specOk os = true) {id : Int} (h : hasB os id = true) (h0 : 0 < id) : (pathV os id).data.toList = pl os 32 id := by
  rw [pathV_yes hs h (by omega), path_pl]; simp
theorem pathV_empty {os : List LObj} (hs : specOk os = true) (id : Int) : (pathV os id).data.toList = [] ↔ hasB os id = false := by
  cases hb : hasB os id with
  | false => simp [pathV_has hb]
  | true =>
    have h0 := (has_iff os id).1 hb
    by_cases hz : 0 < id
    · rw [pathV_pl hs hb hz]
      have := pl_pos hs hb hz
      constructor
      · intro e; rw [e] at this; simp at this
      · intro e; cases e
    · obtain rfl : id = 0 := by omega
      rw [pathV_top hs hb]
      simp
theorem pathV_inj {os : List LObj} (hs : specOk os = true) {i k : Int} (hi : hasB os i = true) (hk : k < i) (hk0 : 0 ≤ k) : pathV os k ≠ pathV os i := by
  intro e
  have hi0 : 0 < i := by omega
  have e1 : (pathV os k).data.toList = pl os 32 i := by rw [e, pathV_pl hs hi hi0]
  have hp := pl_pos hs hi hi0
  cases hb : hasB os k with
  | false =>
    rw [(pathV_empty hs k).2 hb] at e1
    rw [← e1] at hp
    simp at hp
  | true =>
    by_cases hz : 0 < k
    · rw [pathV_pl hs hb hz] at e1
      obtain ⟨m, _, em⟩ := depth hs hb
      have := pl_inj hs m k i hb hi em e1
      omega
    · obtain rfl : k = 0 := by omega
      rw [pathV_top hs hb] at e1
      rw [← e1] at hp
      simp at hp
end Go.Proofs.Ytjenldenggaljaa
