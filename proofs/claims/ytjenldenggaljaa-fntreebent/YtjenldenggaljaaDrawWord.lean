/- Drawn names and texts: the walk of the law FnTreeWord. -/
import Derived.Test.YtjenldenggaljaaDraw
import Derived.Test.YtjenldenggaljaaMem
namespace Go.Proofs.Ytjenldenggaljaa
open Go.RowKit

theorem Drawn.cell {w w' : World} {rb : Nat} (h : Drawn w w' rb) {q : Addr} (hq : q.block ≠ rb) : w'.cell? q = w.cell? q := World.cell?_of_block (w := w) (h.block q.block hq)
theorem ret_str {a b : ByteArray} (h : a = b) : Ending.returned (.string a) = .returned (.string b) := by rw [h]

/-- One of a list of texts. -/
def OfEnd (M : Nat) (e : Ending) : Prop := ∃ s : ByteArray, e = .returned (.string s) ∧ s.size ≤ M

set_option maxHeartbeats 400000 in
theorem of_any (rb p lb q c M : Nat) (w : World) (hp : p ≤ 1000000) (hq : 1 ≤ q) (hq2 : q ≤ 1000000) (hlb : lb ≠ rb) (H : RdAt w rb p) (hc : ∀ i, i < q → ∃ s : ByteArray, w.cell? ⟨lb, i, none⟩ = some (.string s) ∧ s.size ≤ M) :
    Calls Try.prog 92 #[.pointer (some ⟨rb, 0, none⟩), .slice (some ⟨lb, 0, none⟩) q c] w fun e w' => OfEnd M e ∧ RdAt w' rb (p + 1) ∧ Drawn w w' rb := by
  go_enter Try.func92, Try.ntmps92
  go_wp2_with fail
  refine (pick_rd rb p q _ hp hq hq2 H).mono ?_
  rintro e w1 ⟨⟨x, rfl, hx⟩, hr, hd⟩
  obtain ⟨s, hs, hsz⟩ := hc x hx
  have hs1 : w1.cell? ⟨lb, x, none⟩ = some (.string s) := by rw [hd.cell (by simpa using hlb)]; exact hs
  have hx' : (x : Int) < (q : Int) := by omega
  clear hs hc
  go_wp2_with fail
  go_ret
  exact ⟨⟨s, rfl, hsz⟩, hr, hd⟩


theorem BytesAt.wide {w : World} {U U' : Nat} {a : Option Addr} {n : Nat} {zs : List Int} (h : BytesAt w U a n zs) (hU : U ≤ U') : BytesAt w U' a n zs :=
  ⟨h.len, fun hn => by
    obtain ⟨b, off, ha, hbU, hc⟩ := h.at_ hn
    exact ⟨b, off, ha, by omega, hc⟩⟩
theorem rd_start {w : World} {U m c : Nat} {a : Option Addr} {ys : List Int} (hm : m ≤ 2000) (hU : U ≤ w.heap.size) (H : BytesAt w U a m ys) : RdAt (w.alloc (.cells #[.slice a m c, .int .i64 0] 115)) w.heap.size 0 :=
  ⟨⟨a, m, c, ys, hm, by simp [go_sem], by simp [go_sem], by simp [go_sem], (H.below ((Below.refl _ _).alloc (Nat.le_refl _) _) hU).wide hU⟩, by simp⟩

set_option maxHeartbeats 400000 in
theorem drawWord (a : Option Addr) (n c : Nat) (zs : List Int) (U : Nat) (w : World) (hn : n ≤ 1048576) (hc : n ≤ c) (hU : U ≤ w.heap.size) (H : BytesAt w U a n zs) :
    Calls Try.prog 39 #[.slice a n c] w fun e w' => OfEnd 13 e ∧ Below w.heap.size w w' := by
  go_enter Try.func39, Try.ntmps39
  go_wp2_with fail
  refine (open16 a n c zs U _ hn hc H).mono ?_
  rintro e w1 ⟨m, c', ys, rfl, hm, hm0, hB, rfl⟩
  have hr := rd_start (c := c') hm hU hB
  clear hB
  go_wp2_with fail
  refine (of_any w.heap.size 0 (w.heap.size + 1) 9 9 13 _ (by omega) (by omega) (by omega) (by omega) (hr.below ((Below.refl _ _).alloc (Nat.le_refl _) _) (by simp)) (fun i hi => ?_)).mono ?_
  · match i, hi with
    | 0, _ => exact ⟨_, by simp [go_sem]; rfl, by decide⟩
    | 1, _ => exact ⟨_, by simp [go_sem]; rfl, by decide⟩
    | 2, _ => exact ⟨_, by simp [go_sem]; rfl, by decide⟩
    | 3, _ => exact ⟨_, by simp [go_sem]; rfl, by decide⟩
    | 4, _ => exact ⟨_, by simp [go_sem]; rfl, by decide⟩
    | 5, _ => exact ⟨_, by simp [go_sem]; rfl, by decide⟩
    | 6, _ => exact ⟨_, by simp [go_sem]; rfl, by decide⟩
    | 7, _ => exact ⟨_, by simp [go_sem]; rfl, by decide⟩
    | 8, _ => exact ⟨_, by simp [go_sem]; rfl, by decide⟩
  rintro e w2 ⟨⟨s, rfl, hs⟩, hr2, hd⟩
  have hbb : Below w.heap.size w w2 := Below.trans (((Below.refl _ _).alloc (Nat.le_refl _) _).alloc (by simp) _) hd.below
  go_wp2_with fail
  go_ret
  exact ⟨⟨s, rfl, hs⟩, hbb⟩
set_option maxHeartbeats 400000 in
theorem drawBody (a : Option Addr) (n c : Nat) (zs : List Int) (U : Nat) (w : World) (hn : n ≤ 1048576) (hc : n ≤ c) (hU : U ≤ w.heap.size) (H : BytesAt w U a n zs) :
    Calls Try.prog 40 #[.slice a n c] w fun e w' => OfEnd 13 e ∧ Below w.heap.size w w' := by
  go_enter Try.func40, Try.ntmps40
  go_wp2_with fail
  refine (open16 a n c zs U _ hn hc H).mono ?_
  rintro e w1 ⟨m, c', ys, rfl, hm, hm0, hB, rfl⟩
  have hr := rd_start (c := c') hm hU hB
  clear hB
  go_wp2_with fail
  refine (of_any w.heap.size 0 (w.heap.size + 1) 8 8 13 _ (by omega) (by omega) (by omega) (by omega) (hr.below ((Below.refl _ _).alloc (Nat.le_refl _) _) (by simp)) (fun i hi => ?_)).mono ?_
  · match i, hi with
    | 0, _ => exact ⟨_, by simp [go_sem]; rfl, by decide⟩
    | 1, _ => exact ⟨_, by simp [go_sem]; rfl, by decide⟩
    | 2, _ => exact ⟨_, by simp [go_sem]; rfl, by decide⟩
    | 3, _ => exact ⟨_, by simp [go_sem]; rfl, by decide⟩
    | 4, _ => exact ⟨_, by simp [go_sem]; rfl, by decide⟩
    | 5, _ => exact ⟨_, by simp [go_sem]; rfl, by decide⟩
    | 6, _ => exact ⟨_, by simp [go_sem]; rfl, by decide⟩
    | 7, _ => exact ⟨_, by simp [go_sem]; rfl, by decide⟩
  rintro e w2 ⟨⟨s, rfl, hs⟩, hr2, hd⟩
  have hbb : Below w.heap.size w w2 := Below.trans (((Below.refl _ _).alloc (Nat.le_refl _) _).alloc (by simp) _) hd.below
  go_wp2_with fail
  go_ret
  exact ⟨⟨s, rfl, hs⟩, hbb⟩

theorem word_body {l : List UInt8} (h : word l = true) : body l = true := by
  unfold word at h
  simp at h
  unfold body allB
  rw [Bool.and_eq_true]
  refine ⟨?_, by simp; omega⟩
  have h1 := h.1.1
  unfold allB at h1
  rw [List.all_eq_true] at h1 ⊢
  intro x hx
  simp [ltrFig, h1 x hx]
theorem word_more {l : List UInt8} (h : word l = true) : word (l ++ [97]) = decide (l.length < 4) := by
  have h1 : allB ltr l = true := by unfold word at h; simp at h; exact h.1.1
  have h2 : allB ltr (l ++ [97]) = true := by
    unfold allB at h1 ⊢
    rw [List.all_append, h1]; rfl
  rw [word_yes h2, Bool.eq_iff_iff]
  simp
  omega
theorem body_more {l : List UInt8} (h : body l = true) : body (l ++ [48]) = decide (l.length < 12) := by
  have h1 : allB ltrFig l = true := by unfold body at h; simp at h; exact h.1
  have h2 : allB ltrFig (l ++ [48]) = true := by
    unfold allB at h1 ⊢
    rw [List.all_append, h1]; rfl
  rw [body_yes h2, Bool.eq_iff_iff]
  simp
  omega
theorem implWord_of {s : ByteArray} {b : Bool} (h : word s.data.toList = b) (w : World) (hs : s.size ≤ maxLen) :
    Calls Try.prog 41 #[.string s] w fun e w' => e = .returned (.bool b) ∧ w' = w := by rw [← h]; exact implWord s w hs

theorem specWord_of' {s : ByteArray} {b : Bool} (h : word s.data.toList = b) (w : World) (hs : s.size ≤ maxLen) :
    Calls Try.prog 42 #[.string s] w fun e w' => e = .returned (.bool b) ∧ w' = w := by rw [← h]; exact specWord s w hs
theorem implBody_of' {s : ByteArray} {b : Bool} (h : body s.data.toList = b) (w : World) (hs : s.size ≤ maxLen) :
    Calls Try.prog 43 #[.string s] w fun e w' => e = .returned (.bool b) ∧ w' = w := by rw [← h]; exact implBody s w hs
theorem specBody_of' {s : ByteArray} {b : Bool} (h : body s.data.toList = b) (w : World) (hs : s.size ≤ maxLen) :
    Calls Try.prog 44 #[.string s] w fun e w' => e = .returned (.bool b) ∧ w' = w := by rw [← h]; exact specBody s w hs

set_option maxHeartbeats 1000000 in
theorem walkWord (a : Option Addr) (n c : Nat) (zs : List Int) (w : World) (hc : n ≤ c) (hcb : n ≤ maxLen) (H : BytesAt w w.heap.size a n zs) :
    Calls Try.prog 6 #[.slice a n c] w fun e w' => e = .returned (.bool true) ∧ Below w.heap.size w w' := by
  unfold maxLen at hcb
  by_cases hbig : 1048576 < n
  · go_enter Try.func6, Try.ntmps6
    go_wp2_with fail
    go_ret
    exact ⟨rfl, Below.refl _ _⟩
  go_enter Try.func6, Try.ntmps6
  go_wp2_with fail
  refine (drawWord a n c zs w.heap.size _ (by omega) hc (Nat.le_refl _) H).mono ?_
  rintro e w1 ⟨⟨s, rfl, hs⟩, hb1⟩
  go_wp2_with fail
  refine (drawBody a n c zs w.heap.size _ (by omega) hc hb1.size (H.below hb1 (Nat.le_refl _))).mono ?_
  rintro e w2 ⟨⟨t, rfl, ht⟩, hb2⟩
  have hb3 : Below w.heap.size w w2 := hb1.trans (hb2.mono hb1.size)
  have hsm : s.size ≤ maxLen := by unfold maxLen; omega
  have htm : t.size ≤ maxLen := by unfold maxLen; omega
  have hsl : s.data.toList.length = s.size := by simp
  have htl : t.data.toList.length = t.size := by simp
  have hsm2 : (s ++ ⟨#[97]⟩ : ByteArray).size ≤ maxLen := by unfold maxLen; rw [ByteArray.size_append]; show s.size + 1 ≤ _; omega
  have htm2 : (t ++ ⟨#[48]⟩ : ByteArray).size ≤ maxLen := by unfold maxLen; rw [ByteArray.size_append]; show t.size + 1 ≤ _; omega
  cases hw : word s.data.toList
  · have HW : Hid (word s.data.toList = false) := hw
    clear hw
    cases hbt : body t.data.toList
    · have HT : Hid (body t.data.toList = false) := hbt
      clear hbt
      clear hsl htl
      go_wp2_with (first
      | (go_at_call_of 41 (Value.string s); refine (implWord_of HW.out _ hsm).mono ?_; rintro e w' ⟨rfl, rfl⟩)
      | (go_at_call_of 42 (Value.string s); refine (specWord_of' HW.out _ hsm).mono ?_; rintro e w' ⟨rfl, rfl⟩)
      | (go_at_call_of 43 (Value.string t); refine (implBody_of' HT.out _ htm).mono ?_; rintro e w' ⟨rfl, rfl⟩)
      | (go_at_call_of 44 (Value.string t); refine (specBody_of' HT.out _ htm).mono ?_; rintro e w' ⟨rfl, rfl⟩))
      go_ret
      exact ⟨by simp, hb3⟩
    · have HT : Hid (body t.data.toList = true) := hbt
      clear hbt
      have HN : Hid (body (t ++ ⟨#[48]⟩ : ByteArray).data.toList = decide ((t.size : Int) < 12)) := by
        show _ = _
        rw [ByteArray.data_append, Array.toList_append]
        refine (body_more HT.out).trans ?_
        rw [htl, Bool.eq_iff_iff]; simp; omega
      clear hsl htl
      go_wp2_with (first
      | (go_at_call_of 41 (Value.string s); refine (implWord_of HW.out _ hsm).mono ?_; rintro e w' ⟨rfl, rfl⟩)
      | (go_at_call_of 42 (Value.string s); refine (specWord_of' HW.out _ hsm).mono ?_; rintro e w' ⟨rfl, rfl⟩)
      | (go_at_call_of 43 (Value.string t); refine (implBody_of' HT.out _ htm).mono ?_; rintro e w' ⟨rfl, rfl⟩)
      | (go_at_call_of 44 (Value.string t); refine (specBody_of' HT.out _ htm).mono ?_; rintro e w' ⟨rfl, rfl⟩)
      | (go_at_call 43; refine (implBody_of' HN.out _ htm2).mono ?_; rintro e w' ⟨rfl, rfl⟩))
      go_ret
      exact ⟨by simp, hb3⟩
  · have HW : Hid (word s.data.toList = true) := hw
    clear hw
    have HSB : Hid (body s.data.toList = true) := word_body HW.out
    have HM : Hid (word (s ++ ⟨#[97]⟩ : ByteArray).data.toList = decide ((s.size : Int) < 4)) := by
      show _ = _
      rw [ByteArray.data_append, Array.toList_append]
      refine (word_more HW.out).trans ?_
      rw [hsl, Bool.eq_iff_iff]; simp; omega
    cases hbt : body t.data.toList
    · have HT : Hid (body t.data.toList = false) := hbt
      clear hbt
      clear hsl htl
      go_wp2_with (first
      | (go_at_call_of 41 (Value.string s); refine (implWord_of HW.out _ hsm).mono ?_; rintro e w' ⟨rfl, rfl⟩)
      | (go_at_call_of 42 (Value.string s); refine (specWord_of' HW.out _ hsm).mono ?_; rintro e w' ⟨rfl, rfl⟩)
      | (go_at_call_of 43 (Value.string t); refine (implBody_of' HT.out _ htm).mono ?_; rintro e w' ⟨rfl, rfl⟩)
      | (go_at_call_of 44 (Value.string t); refine (specBody_of' HT.out _ htm).mono ?_; rintro e w' ⟨rfl, rfl⟩)
      | (go_at_call 41; refine (implWord_of HM.out _ hsm2).mono ?_; rintro e w' ⟨rfl, rfl⟩)
      | (go_at_call_of 43 (Value.string s); refine (implBody_of' HSB.out _ hsm).mono ?_; rintro e w' ⟨rfl, rfl⟩))
      go_ret
      exact ⟨by simp, hb3⟩
    · have HT : Hid (body t.data.toList = true) := hbt
      clear hbt
      have HN : Hid (body (t ++ ⟨#[48]⟩ : ByteArray).data.toList = decide ((t.size : Int) < 12)) := by
        show _ = _
        rw [ByteArray.data_append, Array.toList_append]
        refine (body_more HT.out).trans ?_
        rw [htl, Bool.eq_iff_iff]; simp; omega
      clear hsl htl
      go_wp2_with (first
      | (go_at_call_of 41 (Value.string s); refine (implWord_of HW.out _ hsm).mono ?_; rintro e w' ⟨rfl, rfl⟩)
      | (go_at_call_of 42 (Value.string s); refine (specWord_of' HW.out _ hsm).mono ?_; rintro e w' ⟨rfl, rfl⟩)
      | (go_at_call_of 43 (Value.string t); refine (implBody_of' HT.out _ htm).mono ?_; rintro e w' ⟨rfl, rfl⟩)
      | (go_at_call_of 44 (Value.string t); refine (specBody_of' HT.out _ htm).mono ?_; rintro e w' ⟨rfl, rfl⟩)
      | (go_at_call 41; refine (implWord_of HM.out _ hsm2).mono ?_; rintro e w' ⟨rfl, rfl⟩)
      | (go_at_call_of 43 (Value.string s); refine (implBody_of' HSB.out _ hsm).mono ?_; rintro e w' ⟨rfl, rfl⟩)
      | (go_at_call 43; refine (implBody_of' HN.out _ htm2).mono ?_; rintro e w' ⟨rfl, rfl⟩))
      go_ret
      exact ⟨by simp, hb3⟩
end Go.Proofs.Ytjenldenggaljaa
