/- Lemmas that the proofs of this seat share: Word, Mem, Reader, Eq, Mark, Drawers. -/
import Derived.Test.YtnolbfijcnldjaaGreatDoorChecked
import GoSem.Claim
import GoSem.ClaimJoined
import GoSem.ClaimMapViews
import Derived.JoinedTies
import Derived.KernelRfl
import Derived.RowKit
import Derived.WalkKit
import Derived.ProofKit
import Derived.WalkSpells
import Derived.WalkLawsBesides
import Derived.Below
import Derived.Deep.QuietTactic
import Derived.BigQuiet
import Derived.Deep.RegionWith
import Derived.Deep.LoopGhost
import Derived.Deep.OwnRows
import Derived.Outline
import Derived.Laws.BitsAllLaws
import Derived.Deep.DeepCutAuto
import Derived.Laws.IdiomStrings
import Derived.OwnWalk
import Derived.Deep.AppendLies
import Derived.Deep.Onto
/- Contracts of isLetter, isFigure, TreeWord and TreeBody, of the program and of the specification: each returns the same plain function of the text, at every text. -/
namespace Go.Proofs.YtnolbfijcnldjaaGreatDoor
open Go.RowKit

def ltr (c : Int) : Bool := decide (97 ≤ c) && decide (c ≤ 122)
def fig (c : Int) : Bool := decide (48 ≤ c) && decide (c ≤ 57)
def allB (p : Int → Bool) (l : List UInt8) : Bool := l.all fun c => p c.toNat
def word (l : List UInt8) : Bool := allB ltr l && decide (0 < l.length) && decide (l.length ≤ 4)
def ltrFig (c : Int) : Bool := ltr c || fig c
def body (l : List UInt8) : Bool := allB ltrFig l && decide (l.length ≤ 12)

theorem ltr_yes {c : Int} (h1 : 97 ≤ c) (h2 : c ≤ 122) : ltr c = true := by simp [ltr, h1, h2]
theorem ltr_lo {c : Int} (h1 : ¬ 97 ≤ c) : ltr c = false := by simp [ltr, h1]
theorem ltr_hi {c : Int} (h2 : ¬ c ≤ 122) : ltr c = false := by simp [ltr, h2]
theorem fig_yes {c : Int} (h1 : 48 ≤ c) (h2 : c ≤ 57) : fig c = true := by simp [fig, h1, h2]
theorem fig_lo {c : Int} (h1 : ¬ 48 ≤ c) : fig c = false := by simp [fig, h1]
theorem fig_hi {c : Int} (h2 : ¬ c ≤ 57) : fig c = false := by simp [fig, h2]

theorem take_snoc (s : ByteArray) (k : Nat) (h : k < s.size) : s.data.toList.take (k + 1) = s.data.toList.take k ++ [s[k]] := by
  rw [List.take_succ_eq_append_getElem (by simpa using h)]; rfl

theorem allB_take (p : Int → Bool) (s : ByteArray) (k : Nat) (h : k < s.size) : allB p (s.data.toList.take (k + 1)) = (allB p (s.data.toList.take k) && p s[k].toNat) := by
  rw [take_snoc s k h]; simp [allB]

theorem allB_no (p : Int → Bool) (s : ByteArray) (k : Nat) (h : k < s.size) (hp : p s[k].toNat = false) : allB p s.data.toList = false := by
  have : s.data.toList = s.data.toList.take (k + 1) ++ s.data.toList.drop (k + 1) := (List.take_append_drop _ _).symm
  rw [this]
  have h1 := allB_take p s k h
  rw [hp, Bool.and_false] at h1
  unfold allB at h1 ⊢
  rw [List.all_append, h1, Bool.false_and]

theorem allB_full (p : Int → Bool) (s : ByteArray) (k : Nat) (h : ¬ k < s.size) (hp : allB p (s.data.toList.take k) = true) : allB p s.data.toList = true := by
  rwa [List.take_of_length_le (by simp; omega)] at hp

theorem isLetter_any (c : Int) (w : World) : Calls Tryz.prog 197 #[.int .u8 c] w fun e w' => e = .returned (.bool (ltr c)) ∧ w' = w := by
  by_cases h1 : 97 ≤ c
  · by_cases h2 : c ≤ 122
    · rw [ltr_yes h1 h2]
      go_enter Tryz.func197, Tryz.ntmps197
      go_wp2
      go_ret
      exact ⟨rfl, rfl⟩
    · rw [ltr_hi h2]
      go_enter Tryz.func197, Tryz.ntmps197
      go_wp2
      go_ret
      exact ⟨rfl, rfl⟩
  · rw [ltr_lo h1]
    go_enter Tryz.func197, Tryz.ntmps197
    go_wp2
    go_ret
    exact ⟨rfl, rfl⟩

theorem isFigure_any (c : Int) (w : World) : Calls Tryz.prog 198 #[.int .u8 c] w fun e w' => e = .returned (.bool (fig c)) ∧ w' = w := by
  by_cases h1 : 48 ≤ c
  · by_cases h2 : c ≤ 57
    · rw [fig_yes h1 h2]
      go_enter Tryz.func198, Tryz.ntmps198
      go_wp2
      go_ret
      exact ⟨rfl, rfl⟩
    · rw [fig_hi h2]
      go_enter Tryz.func198, Tryz.ntmps198
      go_wp2
      go_ret
      exact ⟨rfl, rfl⟩
  · rw [fig_lo h1]
    go_enter Tryz.func198, Tryz.ntmps198
    go_wp2
    go_ret
    exact ⟨rfl, rfl⟩

theorem word_short {l : List UInt8} (h : l.length < 1) : word l = false := by simp [word]; omega
theorem word_long {l : List UInt8} (h : 4 < l.length) : word l = false := by simp [word]; omega
theorem word_all {l : List UInt8} (h : 1 ≤ l.length) (h' : l.length ≤ 4) : word l = allB ltr l := by
  have a : decide (0 < l.length) = true := by simp; omega
  have b : decide (l.length ≤ 4) = true := by simp; omega
  simp only [word, a, b, Bool.and_true]
theorem ret_bool {a b : Bool} (h : a = b) : Ending.returned (.bool a) = .returned (.bool b) := by rw [h]

set_option maxHeartbeats 400000 in
theorem implWord (s : ByteArray) (w : World) (hs : s.size ≤ maxLen) :
    Calls Tryz.prog 199 #[.string s] w fun e w' => e = .returned (.bool (word s.data.toList)) ∧ w' = w := by
  unfold maxLen at hs
  have hl : s.data.toList.length = s.size := by simp
  by_cases h1 : s.size < 1
  · rw [word_short (by omega)]
    go_enter Tryz.func199, Tryz.ntmps199
    go_wp2
    go_ret
    exact ⟨rfl, rfl⟩
  by_cases h4 : 4 < s.size
  · rw [word_long (by omega)]
    go_enter Tryz.func199, Tryz.ntmps199
    go_wp2
    go_ret
    exact ⟨rfl, rfl⟩
  rw [word_all (by omega) (by omega)]
  clear hl
  go_enter Tryz.func199, Tryz.ntmps199
  go_wp2
  go_loop [14] (fun i => ∃ k : Nat, k ≤ s.size ∧ i = .int .i64 k ∧ allB ltr (s.data.toList.take k) = true) (fun i => s.size - (intOf i).toNat)
  case atStart => exact ⟨0, Nat.zero_le _, rfl, rfl⟩
  case round =>
    obtain ⟨k, hk, rfl, ha⟩ := hrel
    have HA : Hid (allB ltr (s.data.toList.take k) = true) := ha
    clear ha
    by_cases hlt : k < s.size
    · cases hp : ltr s[k].toNat
      · have HP : Hid (ltr s[k].toNat = false) := hp
        clear hp
        go_wp2_with (go_at_call 197; refine (isLetter_any _ _).mono ?_; rintro e w' ⟨rfl, rfl⟩; rw [HP.out])
        go_ret
        exact ⟨ret_bool (allB_no _ _ _ hlt HP.out).symm, rfl⟩
      · have HP : Hid (ltr s[k].toNat = true) := hp
        clear hp
        go_wp2_with (go_at_call 197; refine (isLetter_any _ _).mono ?_; rintro e w' ⟨rfl, rfl⟩; rw [HP.out])
        go_round
        case rel => exact ⟨k + 1, by omega, by go_num, by rw [allB_take _ _ _ hlt, HA.out, HP.out]; rfl⟩
        case measure => simp [intOf]; omega
    · go_wp2
      go_ret
      exact ⟨ret_bool (allB_full _ _ _ hlt HA.out).symm, rfl⟩

theorem word_no {l : List UInt8} (h : allB ltr l = false) : word l = false := by simp [word, h]
theorem word_yes {l : List UInt8} (h : allB ltr l = true) : word l = (decide (0 < l.length) && decide (l.length ≤ 4)) := by simp [word, h]
theorem body_no {l : List UInt8} (h : allB ltrFig l = false) : body l = false := by simp [body, h]
theorem body_yes {l : List UInt8} (h : allB ltrFig l = true) : body l = decide (l.length ≤ 12) := by simp [body, h]
theorem body_long {l : List UInt8} (h : 12 < l.length) : body l = false := by simp [body]; omega
theorem body_all {l : List UInt8} (h' : l.length ≤ 12) : body l = allB ltrFig l := by
  have b : decide (l.length ≤ 12) = true := by simp; omega
  simp only [body, b, Bool.and_true]
theorem word_end1 (s : ByteArray) (h : allB ltr s.data.toList = true) (h0 : 0 < s.size) : decide ((s.size : Int) ≤ 4) = word s.data.toList := by
  have hl : s.data.toList.length = s.size := by simp
  rw [word_yes h, hl, Bool.eq_iff_iff]; simp; omega
theorem word_end0 (s : ByteArray) (h0 : ¬ 0 < s.size) : false = word s.data.toList := by
  have hl : s.data.toList.length = s.size := by simp
  exact (word_short (by omega)).symm
theorem body_end (s : ByteArray) (h : allB ltrFig s.data.toList = true) : decide ((s.size : Int) ≤ 12) = body s.data.toList := by
  have hl : s.data.toList.length = s.size := by simp
  rw [body_yes h, hl, Bool.eq_iff_iff]; simp; omega

set_option maxHeartbeats 400000 in
theorem specWord (s : ByteArray) (w : World) (hs : s.size ≤ maxLen) :
    Calls Tryz.prog 89 #[.string s] w fun e w' => e = .returned (.bool (word s.data.toList)) ∧ w' = w := by
  unfold maxLen at hs
  go_enter Tryz.func89, Tryz.ntmps89
  go_wp2
  go_loop [3] (fun i => ∃ k : Nat, k ≤ s.size ∧ i = .int .i64 k ∧ allB ltr (s.data.toList.take k) = true) (fun i => s.size - (intOf i).toNat)
  case atStart => exact ⟨0, Nat.zero_le _, rfl, rfl⟩
  case round =>
    obtain ⟨k, hk, rfl, ha⟩ := hrel
    have HA : Hid (allB ltr (s.data.toList.take k) = true) := ha
    clear ha
    by_cases hlt : k < s.size
    · by_cases h1 : 97 ≤ (s[k].toNat : Int)
      · by_cases h2 : (s[k].toNat : Int) ≤ 122
        · go_wp2
          go_round
          case rel => exact ⟨k + 1, by omega, by go_num, by rw [allB_take _ _ _ hlt, HA.out, ltr_yes h1 h2]; rfl⟩
          case measure => simp [intOf]; omega
        · go_wp2
          go_ret
          exact ⟨ret_bool (word_no (allB_no _ _ _ hlt (ltr_hi (by omega)))).symm, rfl⟩
      · go_wp2
        go_ret
        exact ⟨ret_bool (word_no (allB_no _ _ _ hlt (ltr_lo (by omega)))).symm, rfl⟩
    · by_cases h0 : 0 < s.size
      · go_wp2
        go_ret
        exact ⟨ret_bool (word_end1 s (allB_full _ _ _ hlt HA.out) h0), rfl⟩
      · go_wp2
        go_ret
        exact ⟨ret_bool (word_end0 s h0), rfl⟩

theorem lf_ltr {c : Int} (h1 : 97 ≤ c) (h2 : c ≤ 122) : ltrFig c = true := by simp [ltrFig, ltr_yes h1 h2]
theorem lf_fig {c : Int} (h1 : 48 ≤ c) (h2 : c ≤ 57) : ltrFig c = true := by simp [ltrFig, fig_yes h1 h2]
theorem lf_no {c : Int} (h : ¬ 97 ≤ c ∨ ¬ c ≤ 122) (h' : ¬ 48 ≤ c ∨ ¬ c ≤ 57) : ltrFig c = false := by
  rcases h with h | h <;> rcases h' with h' | h' <;> simp [ltrFig, ltr, fig, h, h']

set_option maxHeartbeats 800000 in
theorem specBody (s : ByteArray) (w : World) (hs : s.size ≤ maxLen) :
    Calls Tryz.prog 90 #[.string s] w fun e w' => e = .returned (.bool (body s.data.toList)) ∧ w' = w := by
  unfold maxLen at hs
  go_enter Tryz.func90, Tryz.ntmps90
  go_wp2
  go_loop [3] (fun i => ∃ k : Nat, k ≤ s.size ∧ i = .int .i64 k ∧ allB ltrFig (s.data.toList.take k) = true) (fun i => s.size - (intOf i).toNat)
  case atStart => exact ⟨0, Nat.zero_le _, rfl, rfl⟩
  case round =>
    obtain ⟨k, hk, rfl, ha⟩ := hrel
    have HA : Hid (allB ltrFig (s.data.toList.take k) = true) := ha
    clear ha
    by_cases hlt : k < s.size
    · by_cases h1 : 97 ≤ (s[k].toNat : Int)
      · by_cases h2 : (s[k].toNat : Int) ≤ 122
        · go_wp2
          go_round
          case rel => exact ⟨k + 1, by omega, by go_num, by rw [allB_take _ _ _ hlt, HA.out, lf_ltr h1 h2]; rfl⟩
          case measure => simp [intOf]; omega
        · have h3 : 48 ≤ (s[k].toNat : Int) := by omega
          have h4 : ¬ (s[k].toNat : Int) ≤ 57 := by omega
          go_wp2
          go_ret
          exact ⟨ret_bool (body_no (allB_no _ _ _ hlt (lf_no (.inr (by omega)) (.inr (by omega))))).symm, rfl⟩
      · by_cases h3 : 48 ≤ (s[k].toNat : Int)
        · by_cases h4 : (s[k].toNat : Int) ≤ 57
          · go_wp2
            go_round
            case rel => exact ⟨k + 1, by omega, by go_num, by rw [allB_take _ _ _ hlt, HA.out, lf_fig h3 h4]; rfl⟩
            case measure => simp [intOf]; omega
          · go_wp2
            go_ret
            exact ⟨ret_bool (body_no (allB_no _ _ _ hlt (lf_no (.inl (by omega)) (.inr (by omega))))).symm, rfl⟩
        · go_wp2
          go_ret
          exact ⟨ret_bool (body_no (allB_no _ _ _ hlt (lf_no (.inl (by omega)) (.inl (by omega))))).symm, rfl⟩
    · go_wp2
      go_ret
      exact ⟨ret_bool (body_end s (allB_full _ _ _ hlt HA.out)), rfl⟩

set_option maxHeartbeats 800000 in
theorem implBody (s : ByteArray) (w : World) (hs : s.size ≤ maxLen) :
    Calls Tryz.prog 175 #[.string s] w fun e w' => e = .returned (.bool (body s.data.toList)) ∧ w' = w := by
  unfold maxLen at hs
  have hl : s.data.toList.length = s.size := by simp
  by_cases h4 : 12 < s.size
  · rw [body_long (by omega)]
    go_enter Tryz.func175, Tryz.ntmps175
    go_wp2
    go_ret
    exact ⟨rfl, rfl⟩
  rw [body_all (by omega)]
  clear hl
  go_enter Tryz.func175, Tryz.ntmps175
  go_wp2
  go_loop [9] (fun i => ∃ k : Nat, k ≤ s.size ∧ i = .int .i64 k ∧ allB ltrFig (s.data.toList.take k) = true) (fun i => s.size - (intOf i).toNat)
  case atStart => exact ⟨0, Nat.zero_le _, rfl, rfl⟩
  case round =>
    obtain ⟨k, hk, rfl, ha⟩ := hrel
    have HA : Hid (allB ltrFig (s.data.toList.take k) = true) := ha
    clear ha
    by_cases hlt : k < s.size
    · cases hp : ltr s[k].toNat
      · have HP : Hid (ltr s[k].toNat = false) := hp
        clear hp
        cases hf : fig s[k].toNat
        · have HF : Hid (fig s[k].toNat = false) := hf
          clear hf
          go_wp2_with (first | (go_at_call 197; refine (isLetter_any _ _).mono ?_; rintro e w' ⟨rfl, rfl⟩; rw [HP.out]) | (go_at_call 198; refine (isFigure_any _ _).mono ?_; rintro e w' ⟨rfl, rfl⟩; rw [HF.out]))
          go_ret
          exact ⟨ret_bool (allB_no _ _ _ hlt (by simp [ltrFig, HP.out, HF.out])).symm, rfl⟩
        · have HF : Hid (fig s[k].toNat = true) := hf
          clear hf
          go_wp2_with (first | (go_at_call 197; refine (isLetter_any _ _).mono ?_; rintro e w' ⟨rfl, rfl⟩; rw [HP.out]) | (go_at_call 198; refine (isFigure_any _ _).mono ?_; rintro e w' ⟨rfl, rfl⟩; rw [HF.out]))
          go_round
          case rel => exact ⟨k + 1, by omega, by go_num, by rw [allB_take _ _ _ hlt, HA.out]; simp [ltrFig, HF.out]⟩
          case measure => simp [intOf]; omega
      · have HP : Hid (ltr s[k].toNat = true) := hp
        clear hp
        go_wp2_with (go_at_call 197; refine (isLetter_any _ _).mono ?_; rintro e w' ⟨rfl, rfl⟩; rw [HP.out])
        go_round
        case rel => exact ⟨k + 1, by omega, by go_num, by rw [allB_take _ _ _ hlt, HA.out]; simp [ltrFig, HP.out]⟩
        case measure => simp [intOf]; omega
    · go_wp2
      go_ret
      exact ⟨ret_bool (allB_full _ _ _ hlt HA.out).symm, rfl⟩
end Go.Proofs.YtnolbfijcnldjaaGreatDoor

/- What trees, objects and names are in memory; contracts of the law's szTree and toTree. -/
namespace Go.Proofs.YtnolbfijcnldjaaGreatDoor
open Go.RowKit

structure LEnt where
  name : ByteArray
  id : Int
structure LObj where
  kind : Int
  ver : Int
  text : ByteArray
  kids : List LEnt

/-- What a slice of names is: its length; if there is one, an address, and at it the names. All of it lies in blocks from L on and below U. -/
structure EntsAt (w : World) (L U : Nat) (a : Option Addr) (n : Nat) (es : List LEnt) : Prop where
  len : n = es.length
  bd : n ≤ maxLen
  at_ : n ≠ 0 → ∃ b off, a = some ⟨b, off, none⟩ ∧ L ≤ b ∧ b < U ∧ ∀ i, i < n → ∃ e, es[i]? = some e ∧ e.name.size ≤ maxLen ∧ w.cell? ⟨b, off + i * 2, none⟩ = some (.string e.name) ∧ w.cell? ⟨b, off + i * 2 + 1, none⟩ = some (.int .i64 e.id)

theorem EntsAt.below {w w' : World} {L U B : Nat} {a : Option Addr} {n : Nat} {es : List LEnt} (h : EntsAt w L U a n es) (hb : Below B w w') (hU : U ≤ B) : EntsAt w' L U a n es :=
  ⟨h.len, h.bd, fun hn => by
    obtain ⟨b, off, ha, hL, hbU, hc⟩ := h.at_ hn
    refine ⟨b, off, ha, hL, hbU, fun i hi => ?_⟩
    obtain ⟨e, he, hs, h0, h1⟩ := hc i hi
    exact ⟨e, he, hs, by rw [hb.cell (by simp; omega)]; exact h0, by rw [hb.cell (by simp; omega)]; exact h1⟩⟩
theorem EntsAt.wide {w : World} {L U L' U' : Nat} {a : Option Addr} {n : Nat} {es : List LEnt} (h : EntsAt w L U a n es) (hL' : L' ≤ L) (hU : U ≤ U') : EntsAt w L' U' a n es :=
  ⟨h.len, h.bd, fun hn => by
    obtain ⟨b, off, ha, hL, hbU, hc⟩ := h.at_ hn
    exact ⟨b, off, ha, by omega, by omega, hc⟩⟩
theorem EntsAt.setCell {w : World} {L U : Nat} {a : Option Addr} {n : Nat} {es : List LEnt} (h : EntsAt w L U a n es) (p : Addr) (v : Value) (hp : p.block < L) : EntsAt (w.setCell p v) L U a n es :=
  ⟨h.len, h.bd, fun hn => by
    obtain ⟨b, off, ha, hL, hbU, hc⟩ := h.at_ hn
    refine ⟨b, off, ha, hL, hbU, fun i hi => ?_⟩
    obtain ⟨e, he, hs, h0, h1⟩ := hc i hi
    have hk := Below.heap_setCell w p v b (by omega)
    exact ⟨e, he, hs, by rw [World.cell?_of_block (w := w) hk]; exact h0, by rw [World.cell?_of_block (w := w) hk]; exact h1⟩⟩

theorem run_make_many (t e : TypeId) (zs : Array Value) (size bytes : Nat) (ht : Tryz.prog.underlying t = some (.slice e)) (hinfo : (Tryz.prog.info? e).map (fun i => (i.zero.map (·.cells), i.size, i.bytes)) = some (some zs, size, bytes))
    (n : Nat) (hbytes : bytes * n ≤ 281474976710656) (h63 : n ≤ 9223372036854775807) (w : World) :
    (Instr.makeSlice t (.int .i64 (n : Int)) (.int .i64 (n : Int))).run Tryz.prog w = .ok (.slice (some ⟨w.heap.size, 0, none⟩) n n) (w.alloc (.cells (madeCells zs (n * size)) e)) := by
  obtain ⟨i, hi, hq⟩ := Option.map_eq_some_iff.1 hinfo
  simp only [Prod.mk.injEq, Option.map_eq_some_iff] at hq
  obtain ⟨⟨z, hz, hzc⟩, hsz, hby⟩ := hq
  have hb' : (i.bytes : Int) * (n : Int) ≤ 281474976710656 := by
    rw [hby]
    have h : ((bytes * n : Nat) : Int) ≤ 281474976710656 := by omega
    rwa [Int.natCast_mul] at h
  have hr := run_make (P := Tryz.prog) w t e i z ht hi hz .i64 .i64 n n (by omega) (Int.le_refl _) hb' (by omega)
  simp only [Int.toNat_natCast, hsz, hzc] at hr
  exact hr

theorem info34 : (Tryz.prog.info? 38).map (fun i => (i.zero.map (·.cells), i.size, i.bytes)) = some (some #[.int .i64 0, .int .i64 0, .string ByteArray.empty, .slice none 0 0], 4, 56) := by kernel_rfl

/-- What a slice of objects is. -/
structure ObjsAt (w : World) (L U : Nat) (a : Option Addr) (n : Nat) (os : List LObj) : Prop where
  len : n = os.length
  bd : n ≤ maxLen
  at_ : n ≠ 0 → ∃ b off, a = some ⟨b, off, none⟩ ∧ L ≤ b ∧ b < U ∧ ∀ i, i < n → ∃ o ka kn kc, os[i]? = some o ∧ o.text.size ≤ maxLen ∧ w.cell? ⟨b, off + i * 4, none⟩ = some (.int .i64 o.kind) ∧ w.cell? ⟨b, off + i * 4 + 1, none⟩ = some (.int .i64 o.ver) ∧ w.cell? ⟨b, off + i * 4 + 2, none⟩ = some (.string o.text) ∧ w.cell? ⟨b, off + i * 4 + 3, none⟩ = some (.slice ka kn kc) ∧ EntsAt w L U ka kn o.kids

theorem ObjsAt.below {w w' : World} {L U B : Nat} {a : Option Addr} {n : Nat} {os : List LObj} (h : ObjsAt w L U a n os) (hb : Below B w w') (hU : U ≤ B) : ObjsAt w' L U a n os :=
  ⟨h.len, h.bd, fun hn => by
    obtain ⟨b, off, ha, hL, hbU, hc⟩ := h.at_ hn
    refine ⟨b, off, ha, hL, hbU, fun i hi => ?_⟩
    obtain ⟨o, ka, kn, kc, he, hs, h0, h1, h2, h3, hk⟩ := hc i hi
    exact ⟨o, ka, kn, kc, he, hs, by rw [hb.cell (by simp; omega)]; exact h0, by rw [hb.cell (by simp; omega)]; exact h1, by rw [hb.cell (by simp; omega)]; exact h2, by rw [hb.cell (by simp; omega)]; exact h3, hk.below hb hU⟩⟩
theorem ObjsAt.wide {w : World} {L U L' U' : Nat} {a : Option Addr} {n : Nat} {os : List LObj} (h : ObjsAt w L U a n os) (hL' : L' ≤ L) (hU : U ≤ U') : ObjsAt w L' U' a n os :=
  ⟨h.len, h.bd, fun hn => by
    obtain ⟨b, off, ha, hL, hbU, hc⟩ := h.at_ hn
    refine ⟨b, off, ha, by omega, by omega, fun i hi => ?_⟩
    obtain ⟨o, ka, kn, kc, he, hs, h0, h1, h2, h3, hk⟩ := hc i hi
    exact ⟨o, ka, kn, kc, he, hs, h0, h1, h2, h3, hk.wide hL' hU⟩⟩

theorem ObjsAt.setCell {w : World} {L U : Nat} {a : Option Addr} {n : Nat} {os : List LObj} (h : ObjsAt w L U a n os) (p : Addr) (v : Value) (hp : p.block < L) : ObjsAt (w.setCell p v) L U a n os :=
  ⟨h.len, h.bd, fun hn => by
    obtain ⟨b, off, ha, hL, hbU, hc⟩ := h.at_ hn
    refine ⟨b, off, ha, hL, hbU, fun i hi => ?_⟩
    obtain ⟨o, ka, kn, kc, he, hs, h0, h1, h2, h3, hk⟩ := hc i hi
    have hk' := Below.heap_setCell w p v b (by omega)
    exact ⟨o, ka, kn, kc, he, hs, by rw [World.cell?_of_block (w := w) hk']; exact h0, by rw [World.cell?_of_block (w := w) hk']; exact h1, by rw [World.cell?_of_block (w := w) hk']; exact h2, by rw [World.cell?_of_block (w := w) hk']; exact h3, hk.setCell p v hp⟩⟩

def Sizes (os : List LObj) (M : Nat) : Prop := ∀ o ∈ os, o.kids.length ≤ M

end Go.Proofs.YtnolbfijcnldjaaGreatDoor

/- Draws: contracts of the reader of bytes. -/
namespace Go.Proofs.YtnolbfijcnldjaaGreatDoor
open Go.RowKit

/-- The bytes behind a slice. -/
structure BytesAt (w : World) (U : Nat) (a : Option Addr) (n : Nat) (zs : List Int) : Prop where
  len : n = zs.length
  at_ : n ≠ 0 → ∃ b off, a = some ⟨b, off, none⟩ ∧ b < U ∧ ∀ i, i < n → ∃ z, zs[i]? = some z ∧ 0 ≤ z ∧ z ≤ 255 ∧ w.cell? ⟨b, off + i, none⟩ = some (.int .u8 z)

set_option maxHeartbeats 400000 in
theorem open16 (a : Option Addr) (n c : Nat) (zs : List Int) (U : Nat) (w : World) (hn : n ≤ 1048576) (hc : n ≤ c) (H : BytesAt w U a n zs) :
    Calls Tryz.prog 58 #[.slice a n c] w fun e w' => ∃ (m c' : Nat) (ys : List Int), e = .returned (.pointer (some ⟨w.heap.size, 0, none⟩)) ∧ m ≤ 2000 ∧ (m = 0 ↔ n = 0) ∧ BytesAt w U a m ys ∧ w' = w.alloc (.cells #[.slice a m c', .int .i64 0] 135) := by
  by_cases h : 2000 < n
  · obtain ⟨b, off, rfl, hb, hcell⟩ := H.at_ (by omega)
    go_enter Tryz.func58, Tryz.ntmps58
    go_wp2_with fail
    go_ret
    refine ⟨2000, c, zs.take 2000, rfl, by omega, by omega, ⟨by have := H.len; simp; omega, fun _ => ⟨b, off, rfl, hb, fun i hi => ?_⟩⟩, rfl⟩
    obtain ⟨z, hz, hr⟩ := hcell i (by omega)
    exact ⟨z, by rw [List.getElem?_take_of_lt hi]; exact hz, hr⟩
  · go_enter Tryz.func58, Tryz.ntmps58
    go_wp2_with fail
    go_ret
    exact ⟨n, c, zs, rfl, by omega, Iff.rfl, H, rfl⟩


theorem ret_i64 {k : IntKind} {a b : Int} (h : a = b) : Ending.returned (.int k a) = .returned (.int k b) := by rw [h]
theorem mod_nat (z : Int) (q : Nat) (_h : 0 ≤ z) (hq : 1 ≤ q) : ∃ x : Nat, z % (q : Int) = x ∧ x < q := by
  have h1 := Int.emod_nonneg z (b := (q : Int)) (by omega)
  have h2 := Int.emod_lt_of_pos z (b := (q : Int)) (by omega)
  exact ⟨(z % (q : Int)).toNat, by omega, by omega⟩

theorem i64_xor_nat (a b : Nat) (ha : a < 4611686018427387904) (hb : b < 4611686018427387904) : bits .xor .i64 (a : Int) (b : Int) = ((a ^^^ b : Nat) : Int) := by
  have hx : a ^^^ b < 2 ^ 62 := Nat.xor_lt_two_pow (by omega) (by omega)
  show IntKind.i64.wrap ((BitVec.ofInt 64 (a : Int) ^^^ BitVec.ofInt 64 (b : Int)).toNat : Int) = _
  rw [BitVec.toNat_xor, ofInt_u64 a (by omega), ofInt_u64 b (by omega), IntKind.wrap_i64]
  omega
theorem xor_mod (A : Int) (q : Nat) (h0 : 0 ≤ A) (h1 : A ≤ 1000000000) (hq : 1 ≤ q) : ∃ x : Nat, (bits .xor .i64 A (A / 64)).tmod (q : Int) = x ∧ x < q := by
  obtain ⟨a, rfl⟩ := Int.eq_ofNat_of_zero_le h0
  have e : ((a : Int) / 64) = ((a / 64 : Nat) : Int) := by omega
  rw [e, i64_xor_nat a (a / 64) (by omega) (by omega), Int.tmod_eq_emod_of_nonneg (by omega)]
  exact mod_nat _ q (by omega) hq

/-- A draw: a number below q; the reader is one place on. -/
def PickEnd (rb p q : Nat) (w : World) (e : Ending) (w' : World) : Prop := ∃ x m : Nat, e = .returned (.int .i64 x) ∧ x < q ∧ w' = (w.setCell ⟨rb, 1, none⟩ (.int .i64 ((p : Int) + 1))).drewN m

set_option maxHeartbeats 2000000 in
theorem pick_any (rb : Nat) (a : Option Addr) (n c : Nat) (zs : List Int) (p q : Nat) (w : World) (hnb : n ≤ 2000) (hp : p ≤ 1000000) (hq : 1 ≤ q) (hq2 : q ≤ 1000000) (h0 : w.cell? ⟨rb, 0, none⟩ = some (.slice a n c)) (h1 : w.cell? ⟨rb, 1, none⟩ = some (.int .i64 p)) (hf : w.frozen? ⟨rb, 1, none⟩ = false) (H : BytesAt w rb a n zs) :
    Calls Tryz.prog 60 #[.pointer (some ⟨rb, 0, none⟩), .int .i64 q] w fun e w' => PickEnd rb p q w e w' := by
  have hq' : ¬ (q : Int) < 1 := by omega
  by_cases hn : n = 0
  · have t0 : ((n : Int) == 0) = true := by simpa using hn
    clear hn
    go_enter Tryz.func60, Tryz.ntmps60
    go_wp2_with fail
    go_ret
    exact ⟨0, 0, rfl, by omega, rfl⟩
  · obtain ⟨b, off, rfl, hb, hcell⟩ := H.at_ hn
    have t0 : ((n : Int) == 0) = false := by simpa using hn
    have hn0 : (0 : Int) < (n : Int) := by omega
    have hne : (n : Int) ≠ 0 := by omega
    by_cases hpn : p < n
    · obtain ⟨z, hz, hz0, hz1, hc0⟩ := hcell p (by omega)
      have hpn' : (p : Int) < (n : Int) := by omega
      obtain ⟨x, hx, hxq⟩ := mod_nat z q hz0 hq
      have HX : Hid (z % (q : Int) = x) := hx
      clear hx hz hcell hn
      go_enter Tryz.func60, Tryz.ntmps60
      go_wp2_with fail
      go_ret
      exact ⟨x, 0, ret_i64 HX.out, hxq, rfl⟩
    · have hpn' : ¬ (p : Int) < (n : Int) := by omega
      obtain ⟨i1, e1, hi1⟩ := mod_nat (p : Int) n (by omega) (by omega)
      obtain ⟨i2, e2, hi2⟩ := mod_nat ((p : Int) * 7 + 3) n (by omega) (by omega)
      obtain ⟨z1, _, hz10, hz11, hc1⟩ := hcell i1 hi1
      obtain ⟨z2, _, hz20, hz21, hc2⟩ := hcell i2 hi2
      have hi1' : (i1 : Int) < (n : Int) := by omega
      have hi2' : (i2 : Int) < (n : Int) := by omega
      obtain ⟨d3, e3, hd3⟩ : ∃ d3 : Nat, (p : Int) / (n : Int) = d3 ∧ d3 ≤ 1000000 := ⟨p / n, by omega, by have := Nat.div_le_self p n; omega⟩
      clear hcell hn
      go_enter Tryz.func60, Tryz.ntmps60
      go_wp2_with fail
      go_quiet (fail)
      go_wp2_with fail
      go_ret
      obtain ⟨x, hx, hxq⟩ := xor_mod (z1 * 131 + z2 * 1117 + (p : Int) * 29 + (d3 : Int) * 53) q (by omega) (by omega) hq
      exact ⟨x, nq, ret_i64 hx, hxq, rfl⟩

/-- A reader of bytes, its state. -/
structure RdAt (w : World) (rb : Nat) (p : Nat) : Prop where
  all : ∃ a n c zs, n ≤ 2000 ∧ w.cell? ⟨rb, 0, none⟩ = some (.slice a n c) ∧ w.cell? ⟨rb, 1, none⟩ = some (.int .i64 p) ∧ w.frozen? ⟨rb, 1, none⟩ = false ∧ BytesAt w rb a n zs
  lt : rb < w.heap.size
theorem BytesAt.below {w w' : World} {B U : Nat} {a : Option Addr} {n : Nat} {zs : List Int} (h : BytesAt w U a n zs) (hb : Below B w w') (hU : U ≤ B) : BytesAt w' U a n zs :=
  ⟨h.len, fun hn => by
    obtain ⟨b, off, ha, hbU, hc⟩ := h.at_ hn
    refine ⟨b, off, ha, hbU, fun i hi => ?_⟩
    obtain ⟨z, hz, h0, h1, h2⟩ := hc i hi
    exact ⟨z, hz, h0, h1, by rw [hb.cell (by simp; omega)]; exact h2⟩⟩
theorem RdAt.below {w w' : World} {rb p : Nat} (h : RdAt w rb p) {B : Nat} (hb : Below B w w') (hB : rb < B) : RdAt w' rb p := by
  obtain ⟨a, n, c, zs, h0, h1, h2, h3, h4⟩ := h.all
  exact ⟨⟨a, n, c, zs, h0, by rw [hb.cell (by simpa using hB)]; exact h1, by rw [hb.cell (by simpa using hB)]; exact h2, by rw [hb.frozen (by simpa using hB)]; exact h3, h4.below hb (by omega)⟩, by have := hb.size; have := h.lt; omega⟩
/-- The world behind a draw: the reader one place on, all below it and all other blocks as they were. -/
structure Drawn (w w' : World) (rb : Nat) : Prop where
  below : Below rb w w'
  size : w'.heap.size = w.heap.size
  block : ∀ k, k ≠ rb → w'.heap[k]? = w.heap[k]?
theorem pick_rd (rb p q : Nat) (w : World) (hp : p ≤ 1000000) (hq : 1 ≤ q) (hq2 : q ≤ 1000000) (H : RdAt w rb p) :
    Calls Tryz.prog 60 #[.pointer (some ⟨rb, 0, none⟩), .int .i64 q] w fun e w' => (∃ x : Nat, e = .returned (.int .i64 x) ∧ x < q) ∧ RdAt w' rb (p + 1) ∧ Drawn w w' rb := by
  obtain ⟨a, n, c, zs, h0, h1, h2, h3, h4⟩ := H.all
  refine (pick_any rb a n c zs p q w h0 hp hq hq2 h1 h2 h3 h4).mono ?_
  rintro e w' ⟨x, m, rfl, hx, rfl⟩
  have hB : Below rb w ((w.setCell ⟨rb, 1, none⟩ (.int .i64 ((p : Int) + 1))).drewN m) := by
    have : Below rb w (w.setCell ⟨rb, 1, none⟩ (.int .i64 ((p : Int) + 1))) := (Below.refl _ _).setCell (by exact Nat.le_refl _) _
    exact this.trans ⟨rfl, rfl, rfl, Nat.le_refl _, fun _ _ => rfl⟩
  have c0 : (w.setCell ⟨rb, 1, none⟩ (.int .i64 ((p : Int) + 1))).cell? ⟨rb, 0, none⟩ = some (.slice a n c) := by
    rw [World.cell?_setCell_other _ _ _ _ (by simp)]; exact h1
  have c1 : (w.setCell ⟨rb, 1, none⟩ (.int .i64 ((p : Int) + 1))).cell? ⟨rb, 1, none⟩ = some (.int .i64 ((p + 1 : Nat) : Int)) := by
    rw [World.cell?_setCell_same _ _ _ h2]; simp
  refine ⟨⟨x, rfl, hx⟩, ⟨⟨a, n, c, zs, h0, c0, c1, by show World.frozen? _ _ = _; simp; exact h3, h4.below hB (Nat.le_refl _)⟩, by simpa using H.lt⟩, hB, by simp, fun k hk => ?_⟩
  exact Below.heap_setCell w ⟨rb, 1, none⟩ _ k hk
end Go.Proofs.YtnolbfijcnldjaaGreatDoor

/- Drawn names and texts: the walk of the law FnTreeWord. -/
namespace Go.Proofs.YtnolbfijcnldjaaGreatDoor
open Go.RowKit

theorem Drawn.cell {w w' : World} {rb : Nat} (h : Drawn w w' rb) {q : Addr} (hq : q.block ≠ rb) : w'.cell? q = w.cell? q := World.cell?_of_block (w := w) (h.block q.block hq)
/-- One of a list of texts. -/
def OfEnd (M : Nat) (e : Ending) : Prop := ∃ s : ByteArray, e = .returned (.string s) ∧ s.size ≤ M

set_option maxHeartbeats 400000 in
theorem of_any (rb p lb q c M : Nat) (w : World) (hp : p ≤ 1000000) (hq : 1 ≤ q) (hq2 : q ≤ 1000000) (hlb : lb ≠ rb) (H : RdAt w rb p) (hc : ∀ i, i < q → ∃ s : ByteArray, w.cell? ⟨lb, i, none⟩ = some (.string s) ∧ s.size ≤ M) :
    Calls Tryz.prog 114 #[.pointer (some ⟨rb, 0, none⟩), .slice (some ⟨lb, 0, none⟩) q c] w fun e w' => OfEnd M e ∧ RdAt w' rb (p + 1) ∧ Drawn w w' rb := by
  go_enter Tryz.func114, Tryz.ntmps114
  go_wp2_with fail
  refine (pick_rd rb p q _ hp hq hq2 H).mono ?_
  rintro e w1 ⟨⟨x, rfl, hx⟩, hr, hd⟩
  obtain ⟨s, hs, hsz⟩ := hc x hx
  have hs1 : w1.cell? ⟨lb, x, none⟩ = some (.string s) := by rw [hd.cell (by simpa using hlb)]; exact hs
  have hx' : (x : Int) < (q : Int) := by omega
  clear hs hc
  go_wp2_with fail
  go_ret
  exact ⟨⟨s, rfl, hsz⟩, hr, hd⟩


theorem BytesAt.wide {w : World} {U U' : Nat} {a : Option Addr} {n : Nat} {zs : List Int} (h : BytesAt w U a n zs) (hU : U ≤ U') : BytesAt w U' a n zs :=
  ⟨h.len, fun hn => by
    obtain ⟨b, off, ha, hbU, hc⟩ := h.at_ hn
    exact ⟨b, off, ha, by omega, hc⟩⟩
theorem rd_start {w : World} {U m c : Nat} {a : Option Addr} {ys : List Int} (hm : m ≤ 2000) (hU : U ≤ w.heap.size) (H : BytesAt w U a m ys) : RdAt (w.alloc (.cells #[.slice a m c, .int .i64 0] 135)) w.heap.size 0 :=
  ⟨⟨a, m, c, ys, hm, by simp [go_sem], by simp [go_sem], by simp [go_sem], (H.below ((Below.refl _ _).alloc (Nat.le_refl _) _) hU).wide hU⟩, by simp⟩

end Go.Proofs.YtnolbfijcnldjaaGreatDoor

/- Contracts of the law eqTree, at two readings of one tree. -/
namespace Go.Proofs.YtnolbfijcnldjaaGreatDoor
open Go.RowKit

end Go.Proofs.YtnolbfijcnldjaaGreatDoor

/- Marks laid into a tree and looked for again; a tree that is opened: contracts. -/
namespace Go.Proofs.YtnolbfijcnldjaaGreatDoor
open Go.RowKit

def dg (x : Nat) : UInt8 := UInt8.ofNat (48 + x % 10)
def digs : Nat → Nat → ByteArray → ByteArray
  | 0, _, s => s
  | f + 1, k, s => if 0 < k then digs f (k / 10) (⟨#[dg k]⟩ ++ s) else s
def mkT (k : Nat) : ByteArray := ⟨#[109]⟩ ++ digs k k ⟨#[]⟩

/-- What a tree that is opened holds, cell by cell. -/
def openF (i : Nat) : Value := if i = 0 then .int .i64 2 else if i = 1 then .int .i64 1 else if i % 4 = 2 then .string ⟨#[]⟩ else if i % 4 = 3 then .slice none 0 0 else .int .i64 0
def zs128 : Array Value := madeCells #[.int .i64 0, .int .i64 0, .string ByteArray.empty, .slice none 0 0] (32 * 4)
theorem make128 (w : World) : (Instr.makeSlice 23 (.int .i64 32) (.int .i64 32)).run Tryz.prog w = .ok (.slice (some ⟨w.heap.size, 0, none⟩) 32 32) (w.alloc (.cells zs128 38)) := by
  have h := run_make_many 23 38 _ 4 56 Tryz.underlying23 info34 32 (by omega) (by omega) w
  have e : ((32 : Nat) : Int) = 32 := by omega
  rw [e] at h
  exact h
theorem zs128_at (i : Nat) (hi : i < 128) : zs128[i]? = some (if i % 4 = 2 then .string ⟨#[]⟩ else if i % 4 = 3 then .slice none 0 0 else .int .i64 0) := by
  have h4 : i % 4 < 4 := Nat.mod_lt _ (by omega)
  unfold zs128 madeCells
  simp [hi]
  rcases (show i % 4 = 0 ∨ i % 4 = 1 ∨ i % 4 = 2 ∨ i % 4 = 3 by omega) with h | h | h | h <;> simp [h] <;> rfl
def OpenEnd (w : World) (e : Ending) (w' : World) : Prop := ∃ b, e = .returned (.agg #[.slice (some ⟨b, 0, none⟩) 32 32]) ∧ w.heap.size ≤ b ∧ w'.rowIs b 38 128 openF

def openA : Array Value := (((zs128.setIfInBounds 0 (Value.int IntKind.i64 2)).setIfInBounds 1 (Value.int IntKind.i64 1)).setIfInBounds 2 (Value.string ⟨#[]⟩)).setIfInBounds 3 (Value.slice none 0 0)
theorem openA_row (w : World) : (w.alloc (.cells openA 38)).rowIs w.heap.size 38 128 openF := by
  have e0 : zs128.size = 128 := by unfold zs128; rw [size_madeCells]
  have e : openA.size = 128 := by unfold openA; simp [e0]
  have h := World.rowIs_alloc w openA 38 openF (fun i hi => by
    rw [e] at hi
    have hz := zs128_at i hi
    unfold openA openF
    rw [Array.getElem?_setIfInBounds, Array.getElem?_setIfInBounds, Array.getElem?_setIfInBounds, Array.getElem?_setIfInBounds]
    simp only [Array.size_setIfInBounds, e0]
    by_cases h3 : i = 3
    · subst h3; rfl
    by_cases h2 : i = 2
    · subst h2; rfl
    by_cases h1 : i = 1
    · subst h1; rfl
    by_cases h0 : i = 0
    · subst h0; rfl
    rw [if_neg (fun h => h3 h.symm), if_neg (fun h => h2 h.symm), if_neg (fun h => h1 h.symm), if_neg (fun h => h0 h.symm), hz, if_neg h0, if_neg h1])
  rwa [e] at h

set_option maxHeartbeats 1000000 in
theorem specOpen (w : World) : Calls Tryz.prog 113 #[] w fun e w' => OpenEnd w e w' ∧ Below w.heap.size w w' := by
  have hmk := make128
  have z0 : zs128[0]? = some (.int .i64 0) := zs128_at 0 (by omega)
  have z1 : zs128[1]? = some (.int .i64 0) := zs128_at 1 (by omega)
  have z2 : zs128[2]? = some (.string ⟨#[]⟩) := zs128_at 2 (by omega)
  have z3 : zs128[3]? = some (.slice none 0 0) := zs128_at 3 (by omega)
  go_enter Tryz.func113, Tryz.ntmps113
  go_wp2_with fail
  have hr := openA_row (w.alloc (Obj.cells #[Value.slice (some ⟨w.heap.size + 1, 0, none⟩) 32 32] 25))
  refine bodyPost_ret (v := .agg #[.slice (some ⟨w.heap.size + 1, 0, none⟩) 32 32]) (by simp [results, Tryz.results113, go_sem]) rfl ⟨⟨w.heap.size + 1, rfl, by omega, ?_⟩, ?_⟩
  · have h2 := World.rowIs.alloc hr (Obj.cells #[Value.slice (some ⟨w.heap.size + 1, 0, none⟩) 32 32] 25)
    unfold openA at h2
    simpa using h2
  · repeat (first | exact Below.refl _ _ | refine Below.alloc ?_ (by simp <;> omega) _)

/-- All blocks that were there but one are as they were. -/
structure But (b : Nat) (w w' : World) : Prop where
  below : Below b w w'
  block : ∀ k, k ≠ b → k < w.heap.size → w'.heap[k]? = w.heap[k]?
theorem But.cell {b : Nat} {w w' : World} (h : But b w w') {q : Addr} (h1 : q.block ≠ b) (h2 : q.block < w.heap.size) : w'.cell? q = w.cell? q := World.cell?_of_block (w := w) (h.block q.block h1 h2)
theorem But.refl (b : Nat) (w : World) : But b w w := ⟨Below.refl _ _, fun _ _ _ => rfl⟩
theorem But.trans {b : Nat} {w w1 w2 : World} (h : But b w w1) (k : But b w1 w2) : But b w w2 :=
  ⟨h.below.trans k.below, fun i h1 h2 => (k.block i h1 (by have := h.below.size; omega)).trans (h.block i h1 h2)⟩
theorem But.next {b : Nat} {w w1 w2 : World} (h : But b w w1) (hb : b ≤ w1.heap.size) (k : Below w1.heap.size w1 w2) : But b w w2 :=
  h.trans ⟨k.mono hb, fun i _ h2 => k.block i h2⟩
theorem But.set {b : Nat} {w w1 : World} (h : But b w w1) (o : Nat) (v : Value) : But b w (w1.setCell ⟨b, o, none⟩ v) :=
  h.trans ⟨(Below.refl _ _).setCell (by exact Nat.le_refl _) _, fun i h1 _ => Below.heap_setCell w1 ⟨b, o, none⟩ v i h1⟩

end Go.Proofs.YtnolbfijcnldjaaGreatDoor

/- Draws over a tree: one of a list of numbers; the numbers of the objects of a kind. -/
namespace Go.Proofs.YtnolbfijcnldjaaGreatDoor
open Go.RowKit

/-- One of a list of numbers. -/
def NumEnd (G : Int → Prop) (e : Ending) : Prop := ∃ z : Int, e = .returned (.int .i64 z) ∧ G z

set_option maxHeartbeats 400000 in
theorem num_any (G : Int → Prop) (rb p lb q c : Nat) (w : World) (hp : p ≤ 1000000) (hq : 1 ≤ q) (hq2 : q ≤ 1000000) (hlb : lb ≠ rb) (H : RdAt w rb p) (hc : ∀ i, i < q → ∃ z : Int, w.cell? ⟨lb, i, none⟩ = some (.int .i64 z) ∧ G z) :
    Calls Tryz.prog 87 #[.pointer (some ⟨rb, 0, none⟩), .slice (some ⟨lb, 0, none⟩) q c] w fun e w' => NumEnd G e ∧ RdAt w' rb (p + 1) ∧ Drawn w w' rb := by
  go_enter Tryz.func87, Tryz.ntmps87
  go_wp2_with fail
  refine (pick_rd rb p q _ hp hq hq2 H).mono ?_
  rintro e w1 ⟨⟨x, rfl, hx⟩, hr, hd⟩
  obtain ⟨s, hs, hsz⟩ := hc x hx
  have hs1 : w1.cell? ⟨lb, x, none⟩ = some (.int .i64 s) := by rw [hd.cell (by simpa using hlb)]; exact hs
  have hx' : (x : Int) < (q : Int) := by omega
  clear hs hc
  go_wp2_with fail
  go_ret
  exact ⟨⟨s, rfl, hsz⟩, hr, hd⟩

/-- Whether an object is of a kind, or of any but none. -/
def liveB (kind : Int) (o : LObj) : Bool := !decide (o.kind = 0) && (decide (kind = 0) || decide (o.kind = kind))
/-- The numbers of the objects of a kind among the first k. -/
def liveL (os : List LObj) (kind : Int) (k : Nat) : List Nat := (List.range k).filter fun i => match os[i]? with | some o => liveB kind o | none => false
theorem liveL_le (os : List LObj) (kind : Int) (k : Nat) : (liveL os kind k).length ≤ k := by
  have := List.length_filter_le (fun i => match os[i]? with | some o => liveB kind o | none => false) (List.range k)
  simpa [liveL] using this
theorem liveL_yes {os : List LObj} {kind : Int} {k : Nat} {o : LObj} (h : os[k]? = some o) (hb : liveB kind o = true) : liveL os kind (k + 1) = liveL os kind k ++ [k] := by
  simp [liveL, List.range_succ, List.filter_append, h, hb]
theorem liveL_no {os : List LObj} {kind : Int} {k : Nat} {o : LObj} (h : os[k]? = some o) (hb : liveB kind o = false) : liveL os kind (k + 1) = liveL os kind k := by
  simp [liveL, List.range_succ, List.filter_append, h, hb]

def OwnInts (w : World) (B : Nat) (v : Value) (l : List Nat) : Prop := w.ownsRow B 3 1 v l.length (l.map fun i : Nat => Value.int .i64 i)
theorem infoI : (Tryz.prog.info? 3).map (fun i => (i.zero, i.size, i.bytes)) = some (some (.int .i64 0), 1, 8) := by kernel_rfl

theorem below_grown {B : Nat} {w w1 w2 : World} {row : Option Nat} (h : Below B w w1) (hg : w1.grownBy w2 row) (hr : ∀ k, row = some k → B ≤ k) (hs : B ≤ w1.heap.size) : Below B w w2 :=
  h.trans ⟨hg.os, hg.tape, hg.output, hg.size, fun k hk => hg.block k (by omega) (fun e => by have := hr k e.symm; omega)⟩

theorem one_at {w : World} {u v : Value} {t : TypeId} {i : Nat} (h : [v][i]? = some u) : (w.alloc (Obj.cells #[v] t)).cell? ((⟨w.heap.size, 0, none⟩ : Addr).add i) = some u := by
  match i, h with
  | 0, h => simp at h; subst h; simp [Addr.add]
theorem keepInts {wr w0 w1 : World} {B : Nat} {u v' : Value} {l : List Nat} {j : Nat} {y : Value} {o1 : Obj} (hown : Hid (OwnInts wr (B + 1) u l)) (hbx : wr.cell? ⟨B, 0, none⟩ = some y) (hb : Below (B + 1) w0 wr) (hsz : B + 1 ≤ wr.heap.size)
    (hown' : w1.ownsRow (B + 1) 3 1 v' (l.length + 1) (l.map (fun i : Nat => Value.int .i64 i) ++ [Value.int .i64 (j : Int)])) (hgrow : (wr.alloc o1).grownBy w1 u.ownBlock) :
    OwnInts w1 (B + 1) v' (l ++ [j]) ∧ w1.cell? ⟨B, 0, none⟩ = some y ∧ Below (B + 1) w0 w1 := by
  have hr : ∀ k, u.ownBlock = some k → B + 1 ≤ k := fun k e => (hown.out.lt k e).1
  have hb1 : Below (B + 1) wr w1 := below_grown ((Below.refl _ _).alloc (by omega) _) hgrow hr (by simp; omega)
  exact ⟨by simpa [OwnInts] using hown', by rw [hb1.cell (by simp)]; exact hbx, hb.trans hb1⟩

set_option maxHeartbeats 1000000 in
set_option maxRecDepth 20000 in
theorem live_any (a : Option Addr) (n c : Nat) (os : List LObj) (L U : Nat) (kind : Int) (w : World) (hn : n ≤ 1048576) (hU : U ≤ w.heap.size) (H : ObjsAt w L U a n os) :
    Calls Tryz.prog 167 #[.agg #[.slice a n c], .int .i64 kind] w fun e w' => (∃ v, e = .returned v ∧ Hid (OwnInts w' w.heap.size v (liveL os kind n))) ∧ Below w.heap.size w w' := by
  obtain ⟨i0, hi, hz0, hz1, hz2⟩ := info_parts infoI
  go_enter Tryz.func167, Tryz.ntmps167
  go_wp2_with fail
  go_loopg [5, 6] n (fun k v i wr => ∃ j : Nat, j ≤ n ∧ Hid (k = n - j) ∧ i = .int .i64 j ∧ Hid (OwnInts wr (w.heap.size + 1) v (liveL os kind j)) ∧ wr.cell? ⟨w.heap.size, 0, none⟩ = some (.slice a n c) ∧ Below (w.heap.size + 1) (w.alloc (Obj.cells #[.slice a n c] 25)) wr)
  case atStart => exact ⟨0, Nat.zero_le _, rfl, rfl, by show OwnInts _ _ _ _; simpa [OwnInts, liveL] using World.ownsRow_lit (base := w.heap.size + 1) (e := 3) (size := 1) (w.alloc (Obj.cells #[Value.slice a n c] 25)) #[] 0 (by simp) (by simp [maxLen]) rfl, by simp [go_sem], (Below.refl _ _).alloc (by simp) _⟩
  case round =>
    obtain ⟨j, hj, hk, rfl, hown, hbx, hb⟩ := hrel
    have hsz := hb.size
    simp at hsz
    have hbw : Below w.heap.size w wr := ((Below.refl w.heap.size w).alloc (Nat.le_refl _) _).trans (hb.mono (by omega))
    by_cases hlt : j < n
    · obtain ⟨b, off, ha, hL, hbU, hc⟩ := H.at_ (by omega)
      subst ha
      obtain ⟨o, ka, kn, kc, he, hts, hc0, hc1, hc2, hc3, hks⟩ := hc j hlt
      have hd0 : wr.cell? ⟨b, off + j * 4, none⟩ = some (.int .i64 o.kind) := by rw [hbw.cell (by simp; omega)]; exact hc0
      have HE : Hid (os[j]? = some o) := he
      clear he hc hc0 hc1 hc2 hc3 hks
      by_cases hk0 : o.kind = 0
      · have HL : Hid (liveL os kind (j + 1) = liveL os kind j) := liveL_no HE.out (by simp [liveB, hk0])
        have t0 : (o.kind != 0) = false := by simp [hk0]
        clear hk0
        go_wp2_with fail
        go_roundg (n - (j + 1))
        case measure => have := hk.out; omega
        case rel => exact ⟨j + 1, by omega, rfl, by go_num, by show OwnInts _ _ _ _; rw [HL.out]; exact hown.out, hbx, hb⟩
      · have t0 : (o.kind != 0) = true := by simp [hk0]
        have HK0 : Hid (¬ o.kind = 0) := hk0
        have hle := liveL_le os kind j
        clear hk0
        by_cases hk1 : kind = 0
        · have HL : Hid (liveL os kind (j + 1) = liveL os kind j ++ [j]) := liveL_yes HE.out (by simp [liveB, HK0.out, hk1])
          have t1 : (kind == 0) = true := by simp [hk1]
          clear hk1
          go_wp2_with (first
            | (at_builtin; refine wpList_append_own _ rfl _ _ 34 rfl (w.heap.size + 1) 3 i0 (.int .i64 0) 1 8 Tryz.underlying34 hi hz0 hz1 hz2 rfl (by decide) _ _ _ rfl (hown.out.alloc _) ⟨wr.heap.size, 0, none⟩ 1 1 [.int .i64 (j : Int)] rfl rfl ?c1 ?c2 ?c3 ?c4 ?c5 ?_)
            | go_in)
          case c1 => intro i u hi; exact one_at hi
          case c2 => intro u hu; simp at hu; subst hu; rfl
          case c3 => unfold maxLen; omega
          case c4 => omega
          case c5 => simp; omega
          intro v' w1 hown' hgrow _
          have R := keepInts hown hbx hb hsz hown' hgrow
          clear hown' hgrow hown hbx hb
          go_wp2_with fail
          go_roundg (n - (j + 1))
          case measure => have := hk.out; omega
          case rel => exact ⟨j + 1, by omega, rfl, by go_num, by show OwnInts _ _ _ _; rw [HL.out]; exact R.1, R.2.1, R.2.2⟩
        · have t1 : (kind == 0) = false := by simp [hk1]
          have HK1 : Hid (¬ kind = 0) := hk1
          clear hk1
          by_cases hk2 : o.kind = kind
          · have HL : Hid (liveL os kind (j + 1) = liveL os kind j ++ [j]) := liveL_yes HE.out (by simp [liveB, hk2]; exact HK1.out)
            have t2 : (o.kind == kind) = true := by simp [hk2]
            clear hk2
            go_wp2_with (first
              | (at_builtin; refine wpList_append_own _ rfl _ _ 34 rfl (w.heap.size + 1) 3 i0 (.int .i64 0) 1 8 Tryz.underlying34 hi hz0 hz1 hz2 rfl (by decide) _ _ _ rfl (hown.out.alloc _) ⟨wr.heap.size, 0, none⟩ 1 1 [.int .i64 (j : Int)] rfl rfl ?c1 ?c2 ?c3 ?c4 ?c5 ?_)
              | go_in)
            case c1 => intro i u hi; exact one_at hi
            case c2 => intro u hu; simp at hu; subst hu; rfl
            case c3 => unfold maxLen; omega
            case c4 => omega
            case c5 => simp; omega
            intro v' w1 hown' hgrow _
            have R := keepInts hown hbx hb hsz hown' hgrow
            clear hown' hgrow hown hbx hb
            go_wp2_with fail
            go_roundg (n - (j + 1))
            case measure => have := hk.out; omega
            case rel => exact ⟨j + 1, by omega, rfl, by go_num, by show OwnInts _ _ _ _; rw [HL.out]; exact R.1, R.2.1, R.2.2⟩
          · have HL : Hid (liveL os kind (j + 1) = liveL os kind j) := liveL_no HE.out (by simp [liveB, HK0.out, hk2, HK1.out])
            have t2 : (o.kind == kind) = false := by simp [hk2]
            clear hk2
            go_wp2_with fail
            go_roundg (n - (j + 1))
            case measure => have := hk.out; omega
            case rel => exact ⟨j + 1, by omega, rfl, by go_num, by show OwnInts _ _ _ _; rw [HL.out]; exact hown.out, hbx, hb⟩
    · obtain rfl : j = n := by omega
      go_wp2_with fail
      go_ret
      exact ⟨⟨_, rfl, hown.out.mono (by omega)⟩, hbw⟩
end Go.Proofs.YtnolbfijcnldjaaGreatDoor

/- Draws over a tree: a directory's number, any number. -/
namespace Go.Proofs.YtnolbfijcnldjaaGreatDoor
open Go.RowKit

theorem EntsAt.but {w w' : World} {L U rb : Nat} {a : Option Addr} {n : Nat} {es : List LEnt} (h : EntsAt w L U a n es) (hb : But rb w w') (hr : rb < L) (hU : U ≤ w.heap.size) : EntsAt w' L U a n es :=
  ⟨h.len, h.bd, fun hn => by
    obtain ⟨b, off, ha, hL, hbU, hc⟩ := h.at_ hn
    refine ⟨b, off, ha, hL, hbU, fun i hi => ?_⟩
    obtain ⟨e, h1, h2, h3, h4⟩ := hc i hi
    exact ⟨e, h1, h2, by rw [hb.cell (by simp; omega) (by simp; omega)]; exact h3, by rw [hb.cell (by simp; omega) (by simp; omega)]; exact h4⟩⟩
theorem ObjsAt.but {w w' : World} {L U rb : Nat} {a : Option Addr} {n : Nat} {os : List LObj} (h : ObjsAt w L U a n os) (hb : But rb w w') (hr : rb < L) (hU : U ≤ w.heap.size) : ObjsAt w' L U a n os :=
  ⟨h.len, h.bd, fun hn => by
    obtain ⟨b, off, ha, hL, hbU, hc⟩ := h.at_ hn
    refine ⟨b, off, ha, hL, hbU, fun i hi => ?_⟩
    obtain ⟨o, ka, kn, kc, h1, h2, h3, h4, h5, h6, h7⟩ := hc i hi
    refine ⟨o, ka, kn, kc, h1, h2, ?_, ?_, ?_, ?_, h7.but hb hr hU⟩ <;> (rw [hb.cell (by simp; omega) (by simp; omega)]; assumption)⟩
theorem Drawn.but {rb : Nat} {w w' : World} (h : Drawn w w' rb) : But rb w w' := ⟨h.below, fun k hk _ => h.block k hk⟩
theorem But.of_below {rb : Nat} {w w' : World} (hb : rb < w.heap.size) (h : Below w.heap.size w w') : But rb w w' := ⟨h.mono (by omega), fun k _ hk => h.block k hk⟩
/-- A reader that is at most so far. -/
def RdTo (w : World) (rb p : Nat) : Prop := ∃ p', p' ≤ p ∧ RdAt w rb p'
theorem OwnInts.get {w : World} {B : Nat} {v : Value} {l : List Nat} (h : OwnInts w B v l) (hl : l ≠ []) : ∃ g c, v = .slice (some ⟨g, 0, none⟩) l.length c ∧ B ≤ g ∧ g < w.heap.size ∧ ∀ i, i < l.length → ∃ k, l[i]? = some k ∧ w.cell? ⟨g, i, none⟩ = some (.int .i64 (k : Nat)) := by
  have h0 : 0 < l.length := List.length_pos_iff.mpr hl
  obtain ⟨g, c, rfl, hb, hlt⟩ := World.ownsRow.form h h0
  refine ⟨g, c, rfl, hb, hlt, fun i hi => ⟨l[i], by simp [hi], ?_⟩⟩
  have := World.ownsRow.cellAt h i (by simpa using hi)
  rw [this]; simp [hi]
theorem liveL_lt {os : List LObj} {kind : Int} {k i : Nat} (h : i ∈ liveL os kind k) : i < k := by
  simp [liveL] at h; exact h.1
theorem OwnInts.nil {w : World} {B : Nat} {v : Value} (h : OwnInts w B v []) : ∃ a c, v = .slice a 0 c := by
  rcases h.2 with ⟨rfl, _⟩ | ⟨g, cap, cur, rfl, _⟩
  · exact ⟨_, _, rfl⟩
  · exact ⟨_, _, rfl⟩

set_option maxHeartbeats 1000000 in
set_option maxRecDepth 20000 in
theorem dir_any (rb p : Nat) (a : Option Addr) (n c : Nat) (os : List LObj) (L U : Nat) (w : World) (hp : p ≤ 999990) (hn : n ≤ 32) (hU : U ≤ w.heap.size) (H : ObjsAt w L U a n os) (R : RdAt w rb p) :
    Calls Tryz.prog 165 #[.pointer (some ⟨rb, 0, none⟩), .agg #[.slice a n c]] w fun e w' => NumEnd (fun z => 0 ≤ z ∧ z < 32) e ∧ RdTo w' rb (p + 2) ∧ But rb w w' := by
  have hrl := R.lt
  go_enter Tryz.func165, Tryz.ntmps165
  go_wp2_with fail
  have hA : Below w.heap.size w (w.alloc (Obj.cells #[.slice a n c] 25)) := (Below.refl _ _).alloc (Nat.le_refl _) _
  refine (live_any a n c os L U 2 _ (by omega) (by simp; omega) (H.below hA hU)).mono ?_
  rintro x w1 ⟨⟨v, rfl, hv⟩, hb1⟩
  have hB1 : But rb w w1 := But.of_below hrl (hA.trans (hb1.mono (by simp)))
  have R1 : RdAt w1 rb p := R.below (hA.trans (hb1.mono (by simp))) hrl
  have hz1 : w.heap.size + 1 ≤ w1.heap.size := by simpa using hb1.size
  clear hA hb1 R
  by_cases hl : liveL os 2 n = []
  · have hv' := hv.out
    rw [hl] at hv'
    obtain ⟨ga, gc, rfl⟩ := hv'.nil
    clear hv'
    go_wp2_with fail
    refine (num_any (fun z => 0 ≤ z ∧ z < 32) rb p w1.heap.size 3 3 _ (by omega) (by omega) (by omega) (by omega) (R1.below ((Below.refl _ _).alloc (Nat.le_refl _) _) (by omega)) ?_).mono ?_
    · intro i hi
      match i, hi with
      | 0, _ => exact ⟨0, by simp [go_sem], by omega, by omega⟩
      | 1, _ => exact ⟨1, by simp [go_sem], by omega, by omega⟩
      | 2, _ => exact ⟨31, by simp [go_sem], by omega, by omega⟩
    · rintro x w9 ⟨⟨z, rfl, hz⟩, R9, hd9⟩
      have hB9 : But rb w w9 := (hB1.next (by omega) ((Below.refl _ _).alloc (Nat.le_refl _) _)).trans hd9.but
      go_wp2_with fail
      go_ret
      exact ⟨⟨z, rfl, hz⟩, ⟨_, by omega, R9⟩, hB9⟩
  · obtain ⟨g, gc, rfl, hg, hgl, hcells⟩ := hv.out.get hl
    have hlen : 0 < (liveL os 2 n).length := List.length_pos_iff.mpr hl
    have hlen2 := liveL_le os 2 n
    have hgr : g ≠ rb := by simp at hg; omega
    have t0 : (((liveL os 2 n).length : Int) == 0) = false := by simp; omega
    have HC : Hid (∀ i, i < (liveL os 2 n).length → ∃ k, (liveL os 2 n)[i]? = some k ∧ w1.cell? { block := g, off := i } = some (Value.int IntKind.i64 (k : Nat))) := hcells
    clear hcells hv hg
    go_wp2_with fail
    refine (pick_rd rb p 12 _ (by omega) (by omega) (by omega) R1).mono ?_
    rintro e w2 ⟨⟨x, rfl, hx⟩, R2, hd2⟩
    have hB2 : But rb w w2 := hB1.trans hd2.but
    have hz2 : w1.heap.size = w2.heap.size := hd2.size.symm
    by_cases hx0 : x = 0
    · subst hx0
      go_wp2_with fail
      refine (num_any (fun z => 0 ≤ z ∧ z < 32) rb (p + 1) w2.heap.size 3 3 _ (by omega) (by omega) (by omega) (by omega) (R2.below ((Below.refl _ _).alloc (Nat.le_refl _) _) (by omega)) ?_).mono ?_
      · intro i hi
        match i, hi with
        | 0, _ => exact ⟨0, by simp [go_sem], by omega, by omega⟩
        | 1, _ => exact ⟨1, by simp [go_sem], by omega, by omega⟩
        | 2, _ => exact ⟨31, by simp [go_sem], by omega, by omega⟩
      · rintro x w9 ⟨⟨z, rfl, hz⟩, R9, hd9⟩
        have hB9 : But rb w w9 := (hB2.next (by omega) ((Below.refl _ _).alloc (Nat.le_refl _) _)).trans hd9.but
        go_wp2_with fail
        go_ret
        exact ⟨⟨z, rfl, hz⟩, ⟨_, by omega, R9⟩, hB9⟩
    · have t1 : ((x : Int) == 0) = false := by simp; omega
      go_wp2_with fail
      refine (pick_rd rb (p + 1) (liveL os 2 n).length _ (by omega) (by omega) (by omega) R2).mono ?_
      rintro e w3 ⟨⟨y, rfl, hy⟩, R3, hd3⟩
      obtain ⟨k, hk, hcell⟩ := HC.out y hy
      have hk32 : k < n := liveL_lt (List.mem_of_getElem? hk)
      have hc3 : w3.cell? ⟨g, y, none⟩ = some (.int .i64 (k : Int)) := by rw [hd3.cell (by simpa using hgr), hd2.cell (by simpa using hgr)]; exact hcell
      have hy' : (y : Int) < ((liveL os 2 n).length : Int) := by omega
      have hB3 : But rb w w3 := hB2.trans hd3.but
      clear hk hcell
      go_wp2_with fail
      go_ret
      exact ⟨⟨k, rfl, by omega, by omega⟩, ⟨_, by omega, R3⟩, hB3⟩

end Go.Proofs.YtnolbfijcnldjaaGreatDoor

/- Draws over a tree: a number that was nobody's. -/
namespace Go.Proofs.YtnolbfijcnldjaaGreatDoor
open Go.RowKit

set_option maxHeartbeats 1000000 in
set_option maxRecDepth 20000 in
theorem id_any (rb p : Nat) (a : Option Addr) (n c : Nat) (os : List LObj) (L U : Nat) (who : Int) (w : World) (hp : p ≤ 999990) (hn : n ≤ 32) (hn1 : 1 ≤ n) (hU : U ≤ w.heap.size) (H : ObjsAt w L U a n os) (R : RdAt w rb p) :
    Calls Tryz.prog 166 #[.pointer (some ⟨rb, 0, none⟩), .agg #[.slice a n c], .int .i64 who] w fun e w' => NumEnd (fun z => 1 ≤ z ∧ z < 32) e ∧ RdTo w' rb (p + 1) ∧ But rb w w' := by
  have hrl := R.lt
  have hA : Below w.heap.size w (w.alloc (Obj.cells #[.slice a n c] 25)) := (Below.refl _ _).alloc (Nat.le_refl _) _
  go_enter Tryz.func166, Tryz.ntmps166
  go_wp2_with fail
  go_loopg [7] (n - 1) (fun k i wr => ∃ j : Nat, 1 ≤ j ∧ j ≤ n ∧ Hid (k = n - j) ∧ i = .int .i64 j ∧ wr = w.alloc (Obj.cells #[.slice a n c] 25))
  case atStart => exact ⟨1, by omega, by omega, rfl, rfl, rfl⟩
  case round =>
    obtain ⟨j, hj1, hj, hk, rfl, rfl⟩ := hrel
    by_cases hlt : j < n
    · obtain ⟨b, off, ha, hL, hbU, hc⟩ := H.at_ (by omega)
      subst ha
      obtain ⟨o, ka, kn, kc, he, hts, hc0, hc1, hc2, hc3, hks⟩ := hc j hlt
      rw [← hA.cell (by simp; omega)] at hc0 hc1
      clear he hc hc2 hc3 hks
      by_cases hw : (j : Int) % 4 = who
      · have t0 : ((j : Int) % 4 == who) = true := by simpa using hw
        clear hw
        by_cases hw1 : o.kind = 0
        · have t1 : (o.kind == 0) = true := by simpa using hw1
          clear hw1
          by_cases hw2 : o.ver = 0
          · have t2 : (o.ver == 0) = true := by simpa using hw2
            clear hw2
            go_wp2_with fail
            go_ret
            exact ⟨⟨j, rfl, by omega, by omega⟩, ⟨p, by omega, R.below hA hrl⟩, But.of_below hrl hA⟩
          · have t2 : (o.ver == 0) = false := by simpa using hw2
            clear hw2
            go_wp2_with fail
            go_roundg (n - (j + 1))
            case measure => have := hk.out; omega
            case rel => exact ⟨j + 1, by omega, by omega, rfl, by go_num, rfl⟩
        · have t1 : (o.kind == 0) = false := by simpa using hw1
          clear hw1
          go_wp2_with fail
          go_roundg (n - (j + 1))
          case measure => have := hk.out; omega
          case rel => exact ⟨j + 1, by omega, by omega, rfl, by go_num, rfl⟩
      · have t0 : ((j : Int) % 4 == who) = false := by simpa using hw
        clear hw
        go_wp2_with fail
        go_roundg (n - (j + 1))
        case measure => have := hk.out; omega
        case rel => exact ⟨j + 1, by omega, by omega, rfl, by go_num, rfl⟩
    · go_wp2_with fail
      refine (pick_rd rb p 31 _ (by omega) (by omega) (by omega) (R.below hA hrl)).mono ?_
      rintro e w2 ⟨⟨x, rfl, hx⟩, R2, hd2⟩
      have hB : But rb w w2 := (But.of_below hrl hA).trans hd2.but
      go_wp2_with fail
      go_ret
      exact ⟨⟨1 + (x : Int), rfl, by omega, by omega⟩, ⟨_, by omega, R2⟩, hB⟩
end Go.Proofs.YtnolbfijcnldjaaGreatDoor
