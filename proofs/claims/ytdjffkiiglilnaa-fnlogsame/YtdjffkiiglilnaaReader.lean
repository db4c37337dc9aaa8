import Derived.Test.YtdjffkiiglilnaaWord
import Derived.Deep.QuietTactic
import Derived.BigQuiet
import Derived.Deep.LoopGhost
import Derived.Deep.OwnRows
import Derived.Outline
import Derived.Laws.BitsAllLaws
import Derived.Test.YtdjffkiiglilnaaMem
/- Draws: contracts of the reader of bytes. -/
namespace Go.Proofs.Ytdjffkiiglilnaa
open Go.RowKit

/-- The bytes behind a slice. -/
structure BytesAt (w : World) (U : Nat) (a : Option Addr) (n : Nat) (zs : List Int) : Prop where
  len : n = zs.length
  at_ : n ≠ 0 → ∃ b off, a = some ⟨b, off, none⟩ ∧ b < U ∧ ∀ i, i < n → ∃ z, zs[i]? = some z ∧ 0 ≤ z ∧ z ≤ 255 ∧ w.cell? ⟨b, off + i, none⟩ = some (.int .u8 z)

set_option maxHeartbeats 400000 in
theorem open16 (a : Option Addr) (n c : Nat) (zs : List Int) (U : Nat) (w : World) (hn : n ≤ 1048576) (hc : n ≤ c) (H : BytesAt w U a n zs) :
    Calls Try.prog 43 #[.slice a n c] w fun e w' => ∃ (m c' : Nat) (ys : List Int), e = .returned (.pointer (some ⟨w.heap.size, 0, none⟩)) ∧ m ≤ 2000 ∧ (m = 0 ↔ n = 0) ∧ BytesAt w U a m ys ∧ w' = w.alloc (.cells #[.slice a m c', .int .i64 0] 118) := by
  by_cases h : 2000 < n
  · obtain ⟨b, off, rfl, hb, hcell⟩ := H.at_ (by omega)
    go_enter Try.func43, Try.ntmps43
    go_wp2_with fail
    go_ret
    refine ⟨2000, c, zs.take 2000, rfl, by omega, by omega, ⟨by have := H.len; simp; omega, fun _ => ⟨b, off, rfl, hb, fun i hi => ?_⟩⟩, rfl⟩
    obtain ⟨z, hz, hr⟩ := hcell i (by omega)
    exact ⟨z, by rw [List.getElem?_take_of_lt hi]; exact hz, hr⟩
  · go_enter Try.func43, Try.ntmps43
    go_wp2_with fail
    go_ret
    exact ⟨n, c, zs, rfl, by omega, Iff.rfl, H, rfl⟩


theorem ret_i64 {k : IntKind} {a b : Int} (h : a = b) : Ending.returned (.int k a) = .returned (.int k b) := by rw [h]
theorem mod_nat (z : Int) (q : Nat) (_h : 0 ≤ z) (hq : 1 ≤ q) : ∃ x : Nat, z % (q : Int) = x ∧ x < q := by
  have h1 := Int.emod_nonneg z (b := (q : Int)) (by omega)
  have h2 := Int.emod_lt_of_pos z (b := (q : Int)) (by omega)
  exact ⟨(z % (q : Int)).toNat, by omega, by omega⟩

theorem i64_xor_nat (a b : Nat) (ha : a < 4611686018427387904) (hb : b < 4611686018427387904) : bits .xor .i64 (a : Int) (b : Int) = ((a ^^^ b : Nat) : Int) := by
  have hx : a ^^^ b < 2 ^ 62 := Nat.xor_lt_two_pow (by omega) (by omega)
  show IntKind.i64.wrap ((BitVec.ofInt 64 (a : Int) ^^^ BitVec.ofInt 64 (b : Int)).toNat : Int) = _
  rw [BitVec.toNat_xor, ofInt_u64 a (by omega), ofInt_u64 b (by omega), IntKind.wrap_i64]
  omega
theorem xor_mod (A : Int) (q : Nat) (h0 : 0 ≤ A) (h1 : A ≤ 1000000000) (hq : 1 ≤ q) : ∃ x : Nat, (bits .xor .i64 A (A / 64)).tmod (q : Int) = x ∧ x < q := by
  obtain ⟨a, rfl⟩ := Int.eq_ofNat_of_zero_le h0
  have e : ((a : Int) / 64) = ((a / 64 : Nat) : Int) := by omega
  rw [e, i64_xor_nat a (a / 64) (by omega) (by omega), Int.tmod_eq_emod_of_nonneg (by omega)]
  exact mod_nat _ q (by omega) hq

/-- A draw: a number below q; the reader is one place on. -/
def PickEnd (rb p q : Nat) (w : World) (e : Ending) (w' : World) : Prop := ∃ x m : Nat, e = .returned (.int .i64 x) ∧ x < q ∧ w' = (w.setCell ⟨rb, 1, none⟩ (.int .i64 ((p : Int) + 1))).drewN m

set_option maxHeartbeats 2000000 in
theorem pick_any (rb : Nat) (a : Option Addr) (n c : Nat) (zs : List Int) (p q : Nat) (w : World) (hnb : n ≤ 2000) (hp : p ≤ 1000000) (hq : 1 ≤ q) (hq2 : q ≤ 1000000) (h0 : w.cell? ⟨rb, 0, none⟩ = some (.slice a n c)) (h1 : w.cell? ⟨rb, 1, none⟩ = some (.int .i64 p)) (hf : w.frozen? ⟨rb, 1, none⟩ = false) (H : BytesAt w rb a n zs) :
    Calls Try.prog 45 #[.pointer (some ⟨rb, 0, none⟩), .int .i64 q] w fun e w' => PickEnd rb p q w e w' := by
  have hq' : ¬ (q : Int) < 1 := by omega
  by_cases hn : n = 0
  · have t0 : ((n : Int) == 0) = true := by simpa using hn
    clear hn
    go_enter Try.func45, Try.ntmps45
    go_wp2_with fail
    go_ret
    exact ⟨0, 0, rfl, by omega, rfl⟩
  · obtain ⟨b, off, rfl, hb, hcell⟩ := H.at_ hn
    have t0 : ((n : Int) == 0) = false := by simpa using hn
    have hn0 : (0 : Int) < (n : Int) := by omega
    have hne : (n : Int) ≠ 0 := by omega
    by_cases hpn : p < n
    · obtain ⟨z, hz, hz0, hz1, hc0⟩ := hcell p (by omega)
      have hpn' : (p : Int) < (n : Int) := by omega
      obtain ⟨x, hx, hxq⟩ := mod_nat z q hz0 hq
      have HX : Hid (z % (q : Int) = x) := hx
      clear hx hz hcell hn
      go_enter Try.func45, Try.ntmps45
      go_wp2_with fail
      go_ret
      exact ⟨x, 0, ret_i64 HX.out, hxq, rfl⟩
    · have hpn' : ¬ (p : Int) < (n : Int) := by omega
      obtain ⟨i1, e1, hi1⟩ := mod_nat (p : Int) n (by omega) (by omega)
      obtain ⟨i2, e2, hi2⟩ := mod_nat ((p : Int) * 7 + 3) n (by omega) (by omega)
      obtain ⟨z1, _, hz10, hz11, hc1⟩ := hcell i1 hi1
      obtain ⟨z2, _, hz20, hz21, hc2⟩ := hcell i2 hi2
      have hi1' : (i1 : Int) < (n : Int) := by omega
      have hi2' : (i2 : Int) < (n : Int) := by omega
      obtain ⟨d3, e3, hd3⟩ : ∃ d3 : Nat, (p : Int) / (n : Int) = d3 ∧ d3 ≤ 1000000 := ⟨p / n, by omega, by have := Nat.div_le_self p n; omega⟩
      clear hcell hn
      go_enter Try.func45, Try.ntmps45
      go_wp2_with fail
      go_quiet (fail)
      go_wp2_with fail
      go_ret
      obtain ⟨x, hx, hxq⟩ := xor_mod (z1 * 131 + z2 * 1117 + (p : Int) * 29 + (d3 : Int) * 53) q (by omega) (by omega) hq
      exact ⟨x, nq, ret_i64 hx, hxq, rfl⟩

/-- A reader of bytes, its state. -/
structure RdAt (w : World) (rb : Nat) (p : Nat) : Prop where
  all : ∃ a n c zs, n ≤ 2000 ∧ w.cell? ⟨rb, 0, none⟩ = some (.slice a n c) ∧ w.cell? ⟨rb, 1, none⟩ = some (.int .i64 p) ∧ w.frozen? ⟨rb, 1, none⟩ = false ∧ BytesAt w rb a n zs
  lt : rb < w.heap.size
theorem BytesAt.below {w w' : World} {B U : Nat} {a : Option Addr} {n : Nat} {zs : List Int} (h : BytesAt w U a n zs) (hb : Below B w w') (hU : U ≤ B) : BytesAt w' U a n zs :=
  ⟨h.len, fun hn => by
    obtain ⟨b, off, ha, hbU, hc⟩ := h.at_ hn
    refine ⟨b, off, ha, hbU, fun i hi => ?_⟩
    obtain ⟨z, hz, h0, h1, h2⟩ := hc i hi
    exact ⟨z, hz, h0, h1, by rw [hb.cell (by simp; omega)]; exact h2⟩⟩
theorem RdAt.below {w w' : World} {rb p : Nat} (h : RdAt w rb p) {B : Nat} (hb : Below B w w') (hB : rb < B) : RdAt w' rb p := by
  obtain ⟨a, n, c, zs, h0, h1, h2, h3, h4⟩ := h.all
  exact ⟨⟨a, n, c, zs, h0, by rw [hb.cell (by simpa using hB)]; exact h1, by rw [hb.cell (by simpa using hB)]; exact h2, by rw [hb.frozen (by simpa using hB)]; exact h3, h4.below hb (by omega)⟩, by have := hb.size; have := h.lt; omega⟩
/-- The world behind a draw: the reader one place on, all below it and all other blocks as they were. -/
structure Drawn (w w' : World) (rb : Nat) : Prop where
  below : Below rb w w'
  size : w'.heap.size = w.heap.size
  block : ∀ k, k ≠ rb → w'.heap[k]? = w.heap[k]?
theorem pick_rd (rb p q : Nat) (w : World) (hp : p ≤ 1000000) (hq : 1 ≤ q) (hq2 : q ≤ 1000000) (H : RdAt w rb p) :
    Calls Try.prog 45 #[.pointer (some ⟨rb, 0, none⟩), .int .i64 q] w fun e w' => (∃ x : Nat, e = .returned (.int .i64 x) ∧ x < q) ∧ RdAt w' rb (p + 1) ∧ Drawn w w' rb := by
  obtain ⟨a, n, c, zs, h0, h1, h2, h3, h4⟩ := H.all
  refine (pick_any rb a n c zs p q w h0 hp hq hq2 h1 h2 h3 h4).mono ?_
  rintro e w' ⟨x, m, rfl, hx, rfl⟩
  have hB : Below rb w ((w.setCell ⟨rb, 1, none⟩ (.int .i64 ((p : Int) + 1))).drewN m) := by
    have : Below rb w (w.setCell ⟨rb, 1, none⟩ (.int .i64 ((p : Int) + 1))) := (Below.refl _ _).setCell (by exact Nat.le_refl _) _
    exact this.trans ⟨rfl, rfl, rfl, Nat.le_refl _, fun _ _ => rfl⟩
  have c0 : (w.setCell ⟨rb, 1, none⟩ (.int .i64 ((p : Int) + 1))).cell? ⟨rb, 0, none⟩ = some (.slice a n c) := by
    rw [World.cell?_setCell_other _ _ _ _ (by simp)]; exact h1
  have c1 : (w.setCell ⟨rb, 1, none⟩ (.int .i64 ((p : Int) + 1))).cell? ⟨rb, 1, none⟩ = some (.int .i64 ((p + 1 : Nat) : Int)) := by
    rw [World.cell?_setCell_same _ _ _ h2]; simp
  refine ⟨⟨x, rfl, hx⟩, ⟨⟨a, n, c, zs, h0, c0, c1, by show World.frozen? _ _ = _; simp; exact h3, h4.below hB (Nat.le_refl _)⟩, by simpa using H.lt⟩, hB, by simp, fun k hk => ?_⟩
  exact Below.heap_setCell w ⟨rb, 1, none⟩ _ k hk
end Go.Proofs.Ytdjffkiiglilnaa

/- Drawn names and texts: the walk of the law FnTreeWord. -/
namespace Go.Proofs.Ytdjffkiiglilnaa
open Go.RowKit

theorem Drawn.cell {w w' : World} {rb : Nat} (h : Drawn w w' rb) {q : Addr} (hq : q.block ≠ rb) : w'.cell? q = w.cell? q := World.cell?_of_block (w := w) (h.block q.block hq)
theorem ret_str {a b : ByteArray} (h : a = b) : Ending.returned (.string a) = .returned (.string b) := by rw [h]

/-- One of a list of texts. -/
def OfEnd (M : Nat) (e : Ending) : Prop := ∃ s : ByteArray, e = .returned (.string s) ∧ s.size ≤ M

set_option maxHeartbeats 400000 in
theorem of_any (rb p lb q c M : Nat) (w : World) (hp : p ≤ 1000000) (hq : 1 ≤ q) (hq2 : q ≤ 1000000) (hlb : lb ≠ rb) (H : RdAt w rb p) (hc : ∀ i, i < q → ∃ s : ByteArray, w.cell? ⟨lb, i, none⟩ = some (.string s) ∧ s.size ≤ M) :
    Calls Try.prog 119 #[.pointer (some ⟨rb, 0, none⟩), .slice (some ⟨lb, 0, none⟩) q c] w fun e w' => OfEnd M e ∧ RdAt w' rb (p + 1) ∧ Drawn w w' rb := by
  go_enter Try.func119, Try.ntmps119
  go_wp2_with fail
  refine (pick_rd rb p q _ hp hq hq2 H).mono ?_
  rintro e w1 ⟨⟨x, rfl, hx⟩, hr, hd⟩
  obtain ⟨s, hs, hsz⟩ := hc x hx
  have hs1 : w1.cell? ⟨lb, x, none⟩ = some (.string s) := by rw [hd.cell (by simpa using hlb)]; exact hs
  have hx' : (x : Int) < (q : Int) := by omega
  clear hs hc
  go_wp2_with fail
  go_ret
  exact ⟨⟨s, rfl, hsz⟩, hr, hd⟩


theorem BytesAt.wide {w : World} {U U' : Nat} {a : Option Addr} {n : Nat} {zs : List Int} (h : BytesAt w U a n zs) (hU : U ≤ U') : BytesAt w U' a n zs :=
  ⟨h.len, fun hn => by
    obtain ⟨b, off, ha, hbU, hc⟩ := h.at_ hn
    exact ⟨b, off, ha, by omega, hc⟩⟩
theorem rd_start {w : World} {U m c : Nat} {a : Option Addr} {ys : List Int} (hm : m ≤ 2000) (hU : U ≤ w.heap.size) (H : BytesAt w U a m ys) : RdAt (w.alloc (.cells #[.slice a m c, .int .i64 0] 118)) w.heap.size 0 :=
  ⟨⟨a, m, c, ys, hm, by simp [go_sem], by simp [go_sem], by simp [go_sem], (H.below ((Below.refl _ _).alloc (Nat.le_refl _) _) hU).wide hU⟩, by simp⟩

theorem word_body {l : List UInt8} (h : word l = true) : body l = true := by
  unfold word at h
  simp at h
  unfold body allB
  rw [Bool.and_eq_true]
  refine ⟨?_, by simp; omega⟩
  have h1 := h.1.1
  unfold allB at h1
  rw [List.all_eq_true] at h1 ⊢
  intro x hx
  simp [ltrFig, h1 x hx]
theorem word_more {l : List UInt8} (h : word l = true) : word (l ++ [97]) = decide (l.length < 4) := by
  have h1 : allB ltr l = true := by unfold word at h; simp at h; exact h.1.1
  have h2 : allB ltr (l ++ [97]) = true := by
    unfold allB at h1 ⊢
    rw [List.all_append, h1]; rfl
  rw [word_yes h2, Bool.eq_iff_iff]
  simp
  omega
theorem body_more {l : List UInt8} (h : body l = true) : body (l ++ [48]) = decide (l.length < 12) := by
  have h1 : allB ltrFig l = true := by unfold body at h; simp at h; exact h.1
  have h2 : allB ltrFig (l ++ [48]) = true := by
    unfold allB at h1 ⊢
    rw [List.all_append, h1]; rfl
  rw [body_yes h2, Bool.eq_iff_iff]
  simp
  omega
theorem implWord_of {s : ByteArray} {b : Bool} (h : word s.data.toList = b) (w : World) (hs : s.size ≤ maxLen) :
    Calls Try.prog 163 #[.string s] w fun e w' => e = .returned (.bool b) ∧ w' = w := by rw [← h]; exact implWord s w hs

theorem specWord_of' {s : ByteArray} {b : Bool} (h : word s.data.toList = b) (w : World) (hs : s.size ≤ maxLen) :
    Calls Try.prog 123 #[.string s] w fun e w' => e = .returned (.bool b) ∧ w' = w := by rw [← h]; exact specWord s w hs
theorem implBody_of' {s : ByteArray} {b : Bool} (h : body s.data.toList = b) (w : World) (hs : s.size ≤ maxLen) :
    Calls Try.prog 151 #[.string s] w fun e w' => e = .returned (.bool b) ∧ w' = w := by rw [← h]; exact implBody s w hs
theorem specBody_of' {s : ByteArray} {b : Bool} (h : body s.data.toList = b) (w : World) (hs : s.size ≤ maxLen) :
    Calls Try.prog 102 #[.string s] w fun e w' => e = .returned (.bool b) ∧ w' = w := by rw [← h]; exact specBody s w hs

end Go.Proofs.Ytdjffkiiglilnaa
