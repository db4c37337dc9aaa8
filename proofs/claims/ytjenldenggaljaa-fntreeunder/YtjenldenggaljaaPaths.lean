/- Plain facts about paths of trees that are ok. -/
import Derived.Test.YtjenldenggaljaaPlain
namespace Go.Proofs.Ytjenldenggaljaa
open Go.RowKit

/-- The way from the top, as bytes. -/
def pl (os : List LObj) : Nat → Int → List UInt8
  | 0, _ => []
  | k + 1, id => if 0 < id then pl os k (homeIn (flat os) id) ++ 47 :: (nameIn (flat os) id).data.toList else []
theorem bytes_cat (a b : ByteArray) : (a ++ b).data.toList = a.data.toList ++ b.data.toList := by
  simp [ByteArray.data_append]
theorem path_pl (os : List LObj) : ∀ (k : Nat) (id : Int) (s : ByteArray), (path os k id s).data.toList = pl os k id ++ s.data.toList
  | 0, id, s => by simp [path, pl]
  | k + 1, id, s => by
    unfold path pl
    by_cases h : 0 < id
    · rw [if_pos h, if_pos h, path_pl os k, bytes_cat, bytes_cat]
      simp
    · rw [if_neg h, if_neg h]; rfl
theorem pl_zero (os : List LObj) (k : Nat) {id : Int} (h : ¬ 0 < id) : pl os k id = [] := by
  cases k with
  | zero => rfl
  | succ k => unfold pl; rw [if_neg h]
theorem pl_fuel (os : List LObj) : ∀ (m k : Nat) (id : Int), it os m id = 0 → m ≤ k → pl os k id = pl os m id
  | 0, k, id, h, _ => by
    have : id = 0 := h
    rw [pl_zero os k (by omega), pl_zero os 0 (by omega)]
  | m + 1, k, id, h, hk => by
    obtain ⟨k, rfl⟩ : ∃ j, k = j + 1 := ⟨k - 1, by omega⟩
    unfold pl
    by_cases h0 : 0 < id
    · rw [if_pos h0, if_pos h0, pl_fuel os m k _ h (by omega)]
    · rw [if_neg h0, if_neg h0]
theorem pl_step {os : List LObj} (hs : specOk os = true) {id : Int} {d : Nat} (h0 : 0 < id) (hd : homeIn (flat os) id = d) (hb : hasB os d = true) : pl os 32 id = pl os 32 d ++ 47 :: (nameIn (flat os) id).data.toList := by
  obtain ⟨m, hm, e⟩ := depth31 hs hb
  have h1 := pl_fuel os m 31 d e hm
  have h2 := pl_fuel os m 32 d e (by omega)
  rw [pl, if_pos h0, hd, h1, h2]
theorem split_last {a a' n n' : List UInt8} {c : UInt8} (h : a ++ c :: n = a' ++ c :: n') (hn : c ∉ n) (hn' : c ∉ n') : a = a' ∧ n = n' := by
  rcases List.append_eq_append_iff.1 h with ⟨ts, h1, h2⟩ | ⟨ts, h1, h2⟩
  · cases ts with
    | nil => simp at h1 h2; exact ⟨h1.symm, h2⟩
    | cons x t =>
      simp at h2
      exact absurd (by rw [h2.2]; simp) hn
  · cases ts with
    | nil => simp at h1 h2; exact ⟨h1, h2.symm⟩
    | cons x t =>
      simp at h2
      exact absurd (by rw [h2.2]; simp) hn'
theorem word_slash {l : List UInt8} (h : word l = true) : (47 : UInt8) ∉ l ∧ l ≠ [] := by
  unfold word allB at h
  simp at h
  refine ⟨fun hm => ?_, ?_⟩
  · have := h.1.1 47 hm
    simp [ltr] at this
  · intro e; rw [e] at h; simp at h
theorem ent_word {o : LObj} (h : objB o = true) {e : LEnt} (he : e ∈ o.kids) : word e.name.data.toList = true := by
  have := kids_of_ok h e he
  unfold entB at this
  simp at this
  exact this.1.1
theorem less_self (l : List UInt8) : Op.bytesLess l l = false := by
  induction l with
  | nil => simp [Op.bytesLess]
  | cons x t ih => simp [Op.bytesLess, ih]
/-- In a directory a name is there once. -/
theorem name_once {es : List LEnt} (ha : Asc es) {i j : Nat} {x y : LEnt} (hx : es[i]? = some x) (hy : es[j]? = some y) (h : x.name = y.name) : i = j := by
  rcases Nat.lt_trichotomy i j with h1 | h1 | h1
  · have := ha i j x y h1 hx hy
    unfold nm at this
    rw [h, less_self] at this
    cases this
  · exact h1
  · have := ha j i y x h1 hy hx
    unfold nm at this
    rw [h, less_self] at this
    cases this
theorem pl_pos {os : List LObj} (hs : specOk os = true) {id : Int} (h : hasB os id = true) (h0 : 0 < id) : 2 ≤ (pl os 32 id).length := by
  obtain ⟨d, k, o, e, h1, h2, h3, h4, h5, h6, h7, h8⟩ := live_home hs h h0
  have hi := (specOk_iff os).1 hs
  rw [pl_step hs h0 h4 h6, h5]
  have := (word_slash (ent_word (hi.2.1 d o h1) (List.mem_of_getElem? h2))).2
  have := List.length_pos_iff.mpr this
  simp only [List.length_append, List.length_cons]
  omega
theorem pl_inj {os : List LObj} (hs : specOk os = true) : ∀ (m : Nat) (i k : Int), hasB os i = true → hasB os k = true → it os m i = 0 → pl os 32 i = pl os 32 k → i = k
  | m, i, k, hi, hk, hm, he => by
    have i0 := (has_iff os i).1 hi
    have k0 := (has_iff os k).1 hk
    by_cases hi0 : 0 < i
    · by_cases hk0 : 0 < k
      · cases m with
        | zero => have : i = 0 := hm
                  omega
        | succ m =>
          have hok := (specOk_iff os).1 hs
          obtain ⟨d, x, o, e, h1, h2, h3, h4, h5, h6, h7, h8⟩ := live_home hs hi hi0
          obtain ⟨d', x', o', e', g1, g2, g3, g4, g5, g6, g7, g8⟩ := live_home hs hk hk0
          rw [pl_step hs hi0 h4 h6, pl_step hs hk0 g4 g6, h5, g5] at he
          obtain ⟨q1, q2⟩ := split_last he (word_slash (ent_word (hok.2.1 d o h1) (List.mem_of_getElem? h2))).1 (word_slash (ent_word (hok.2.1 d' o' g1) (List.mem_of_getElem? g2))).1
          have hd := pl_inj hs m d d' h6 g6 (by rw [it, h4] at hm; exact hm) q1
          have hd' : d = d' := by omega
          subst hd'
          rw [h1] at g1
          obtain rfl : o = o' := by simpa using g1
          have hn : e.name = e'.name := by
            have : e.name.data = e'.name.data := Array.toList_inj.1 q2
            cases hn1 : e.name; cases hn2 : e'.name
            rw [hn1, hn2] at this
            simp at this
            rw [this]
          have hx := name_once (asc_of h8) h2 g2 hn
          subst hx
          rw [h2] at g2
          obtain rfl : e = e' := by simpa using g2
          omega
      · have := pl_pos hs hi hi0
        rw [he, pl_zero os 32 hk0] at this
        simp at this
    · by_cases hk0 : 0 < k
      · have := pl_pos hs hk hk0
        rw [← he, pl_zero os 32 hi0] at this
        simp at this
      · omega
theorem pathV_pl {os : List LObj} (hs : specOk os = true) {id : Int} (h : hasB os id = true) (h0 : 0 < id) : (pathV os id).data.toList = pl os 32 id := by
  rw [pathV_yes hs h (by omega), path_pl]; simp
theorem pathV_empty {os : List LObj} (hs : specOk os = true) (id : Int) : (pathV os id).data.toList = [] ↔ hasB os id = false := by
  cases hb : hasB os id with
  | false => simp [pathV_has hb]
  | true =>
    have h0 := (has_iff os id).1 hb
    by_cases hz : 0 < id
    · rw [pathV_pl hs hb hz]
      have := pl_pos hs hb hz
      constructor
      · intro e; rw [e] at this; simp at this
      · intro e; cases e
    · obtain rfl : id = 0 := by omega
      rw [pathV_top hs hb]
      simp
theorem pathV_inj {os : List LObj} (hs : specOk os = true) {i k : Int} (hi : hasB os i = true) (hk : k < i) (hk0 : 0 ≤ k) : pathV os k ≠ pathV os i := by
  intro e
  have hi0 : 0 < i := by omega
  have e1 : (pathV os k).data.toList = pl os 32 i := by rw [e, pathV_pl hs hi hi0]
  have hp := pl_pos hs hi hi0
  cases hb : hasB os k with
  | false =>
    rw [(pathV_empty hs k).2 hb] at e1
    rw [← e1] at hp
    simp at hp
  | true =>
    by_cases hz : 0 < k
    · rw [pathV_pl hs hb hz] at e1
      obtain ⟨m, _, em⟩ := depth hs hb
      have := pl_inj hs m k i hb hi em e1
      omega
    · obtain rfl : k = 0 := by omega
      rw [pathV_top hs hb] at e1
      rw [← e1] at hp
      simp at hp
end Go.Proofs.Ytjenldenggaljaa
