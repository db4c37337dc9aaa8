import Derived.Test.YtnfegihemhidgaaWord
import Derived.Deep.QuietTactic
import Derived.BigQuiet
import Derived.Deep.LoopGhost
import Derived.Deep.OwnRows
import Derived.Outline
import Derived.Laws.BitsAllLaws
import Derived.Test.YtnfegihemhidgaaMem
/- Draws: contracts of the reader of bytes. -/
namespace Go.Proofs.Ytnfegihemhidgaa
open Go.RowKit

/-- The bytes behind a slice. -/
structure BytesAt (w : World) (U : Nat) (a : Option Addr) (n : Nat) (zs : List Int) : Prop where
  len : n = zs.length
  at_ : n ≠ 0 → ∃ b off, a = some ⟨b, off, none⟩ ∧ b < U ∧ ∀ i, i < n → ∃ z, zs[i]? = some z ∧ 0 ≤ z ∧ z ≤ 255 ∧ w.cell? ⟨b, off + i, none⟩ = some (.int .u8 z)

theorem ret_i64 {k : IntKind} {a b : Int} (h : a = b) : Ending.returned (.int k a) = .returned (.int k b) := by rw [h]
theorem mod_nat (z : Int) (q : Nat) (_h : 0 ≤ z) (hq : 1 ≤ q) : ∃ x : Nat, z % (q : Int) = x ∧ x < q := by
  have h1 := Int.emod_nonneg z (b := (q : Int)) (by omega)
  have h2 := Int.emod_lt_of_pos z (b := (q : Int)) (by omega)
  exact ⟨(z % (q : Int)).toNat, by omega, by omega⟩

theorem i64_xor_nat (a b : Nat) (ha : a < 4611686018427387904) (hb : b < 4611686018427387904) : bits .xor .i64 (a : Int) (b : Int) = ((a ^^^ b : Nat) : Int) := by
  have hx : a ^^^ b < 2 ^ 62 := Nat.xor_lt_two_pow (by omega) (by omega)
  show IntKind.i64.wrap ((BitVec.ofInt 64 (a : Int) ^^^ BitVec.ofInt 64 (b : Int)).toNat : Int) = _
  rw [BitVec.toNat_xor, ofInt_u64 a (by omega), ofInt_u64 b (by omega), IntKind.wrap_i64]
  omega
theorem xor_mod (A : Int) (q : Nat) (h0 : 0 ≤ A) (h1 : A ≤ 1000000000) (hq : 1 ≤ q) : ∃ x : Nat, (bits .xor .i64 A (A / 64)).tmod (q : Int) = x ∧ x < q := by
  obtain ⟨a, rfl⟩ := Int.eq_ofNat_of_zero_le h0
  have e : ((a : Int) / 64) = ((a / 64 : Nat) : Int) := by omega
  rw [e, i64_xor_nat a (a / 64) (by omega) (by omega), Int.tmod_eq_emod_of_nonneg (by omega)]
  exact mod_nat _ q (by omega) hq

/-- A draw: a number below q; the reader is one place on. -/
def PickEnd (rb p q : Nat) (w : World) (e : Ending) (w' : World) : Prop := ∃ x m : Nat, e = .returned (.int .i64 x) ∧ x < q ∧ w' = (w.setCell ⟨rb, 1, none⟩ (.int .i64 ((p : Int) + 1))).drewN m

/-- A reader of bytes, its state. -/
structure RdAt (w : World) (rb : Nat) (p : Nat) : Prop where
  all : ∃ a n c zs, n ≤ 2000 ∧ w.cell? ⟨rb, 0, none⟩ = some (.slice a n c) ∧ w.cell? ⟨rb, 1, none⟩ = some (.int .i64 p) ∧ w.frozen? ⟨rb, 1, none⟩ = false ∧ BytesAt w rb a n zs
  lt : rb < w.heap.size
theorem BytesAt.below {w w' : World} {B U : Nat} {a : Option Addr} {n : Nat} {zs : List Int} (h : BytesAt w U a n zs) (hb : Below B w w') (hU : U ≤ B) : BytesAt w' U a n zs :=
  ⟨h.len, fun hn => by
    obtain ⟨b, off, ha, hbU, hc⟩ := h.at_ hn
    refine ⟨b, off, ha, hbU, fun i hi => ?_⟩
    obtain ⟨z, hz, h0, h1, h2⟩ := hc i hi
    exact ⟨z, hz, h0, h1, by rw [hb.cell (by simp; omega)]; exact h2⟩⟩
theorem RdAt.below {w w' : World} {rb p : Nat} (h : RdAt w rb p) {B : Nat} (hb : Below B w w') (hB : rb < B) : RdAt w' rb p := by
  obtain ⟨a, n, c, zs, h0, h1, h2, h3, h4⟩ := h.all
  exact ⟨⟨a, n, c, zs, h0, by rw [hb.cell (by simpa using hB)]; exact h1, by rw [hb.cell (by simpa using hB)]; exact h2, by rw [hb.frozen (by simpa using hB)]; exact h3, h4.below hb (by omega)⟩, by have := hb.size; have := h.lt; omega⟩
/-- The world behind a draw: the reader one place on, all below it and all other blocks as they were. -/
structure Drawn (w w' : World) (rb : Nat) : Prop where
  below : Below rb w w'
  size : w'.heap.size = w.heap.size
  block : ∀ k, k ≠ rb → w'.heap[k]? = w.heap[k]?
end Go.Proofs.Ytnfegihemhidgaa

/- Drawn names and texts: the walk of the law FnTreeWord. -/
namespace Go.Proofs.Ytnfegihemhidgaa
open Go.RowKit

theorem Drawn.cell {w w' : World} {rb : Nat} (h : Drawn w w' rb) {q : Addr} (hq : q.block ≠ rb) : w'.cell? q = w.cell? q := World.cell?_of_block (w := w) (h.block q.block hq)
theorem ret_str {a b : ByteArray} (h : a = b) : Ending.returned (.string a) = .returned (.string b) := by rw [h]

/-- One of a list of texts. -/
def OfEnd (M : Nat) (e : Ending) : Prop := ∃ s : ByteArray, e = .returned (.string s) ∧ s.size ≤ M

theorem BytesAt.wide {w : World} {U U' : Nat} {a : Option Addr} {n : Nat} {zs : List Int} (h : BytesAt w U a n zs) (hU : U ≤ U') : BytesAt w U' a n zs :=
  ⟨h.len, fun hn => by
    obtain ⟨b, off, ha, hbU, hc⟩ := h.at_ hn
    exact ⟨b, off, ha, by omega, hc⟩⟩
theorem word_body {l : List UInt8} (h : word l = true) : body l = true := by
  unfold word at h
  simp at h
  unfold body allB
  rw [Bool.and_eq_true]
  refine ⟨?_, by simp; omega⟩
  have h1 := h.1.1
  unfold allB at h1
  rw [List.all_eq_true] at h1 ⊢
  intro x hx
  simp [ltrFig, h1 x hx]
theorem word_more {l : List UInt8} (h : word l = true) : word (l ++ [97]) = decide (l.length < 4) := by
  have h1 : allB ltr l = true := by unfold word at h; simp at h; exact h.1.1
  have h2 : allB ltr (l ++ [97]) = true := by
    unfold allB at h1 ⊢
    rw [List.all_append, h1]; rfl
  rw [word_yes h2, Bool.eq_iff_iff]
  simp
  omega
theorem body_more {l : List UInt8} (h : body l = true) : body (l ++ [48]) = decide (l.length < 12) := by
  have h1 : allB ltrFig l = true := by unfold body at h; simp at h; exact h.1
  have h2 : allB ltrFig (l ++ [48]) = true := by
    unfold allB at h1 ⊢
    rw [List.all_append, h1]; rfl
  rw [body_yes h2, Bool.eq_iff_iff]
  simp
  omega
theorem implWord_of {s : ByteArray} {b : Bool} (h : word s.data.toList = b) (w : World) (hs : s.size ≤ maxLen) :
    Calls Try.prog 112 #[.string s] w fun e w' => e = .returned (.bool b) ∧ w' = w := by rw [← h]; exact implWord s w hs

theorem specWord_of' {s : ByteArray} {b : Bool} (h : word s.data.toList = b) (w : World) (hs : s.size ≤ maxLen) :
    Calls Try.prog 78 #[.string s] w fun e w' => e = .returned (.bool b) ∧ w' = w := by rw [← h]; exact specWord s w hs
theorem implBody_of' {s : ByteArray} {b : Bool} (h : body s.data.toList = b) (w : World) (hs : s.size ≤ maxLen) :
    Calls Try.prog 103 #[.string s] w fun e w' => e = .returned (.bool b) ∧ w' = w := by rw [← h]; exact implBody s w hs
theorem specBody_of' {s : ByteArray} {b : Bool} (h : body s.data.toList = b) (w : World) (hs : s.size ≤ maxLen) :
    Calls Try.prog 59 #[.string s] w fun e w' => e = .returned (.bool b) ∧ w' = w := by rw [← h]; exact specBody s w hs

end Go.Proofs.Ytnfegihemhidgaa
