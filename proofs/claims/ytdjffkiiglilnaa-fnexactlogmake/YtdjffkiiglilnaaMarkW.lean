/- Any tree that can be written: marked. What is asked of it: it is there, and can be written; what is told: each cell keeps its sort, and nothing but the tree's blocks is changed. -/
import Derived.Test.YtdjffkiiglilnaaSlimM
namespace Go.Proofs.Ytdjffkiiglilnaa
open Go.RowKit

/-- Each cell keeps its sort. -/
structure Keeps (w w' : World) : Prop where
  size : w.heap.size ≤ w'.heap.size
  int : ∀ p k, w.cell? p = some (.int .i64 k) → ∃ k', w'.cell? p = some (.int .i64 k')
  str : ∀ p s, w.cell? p = some (.string s) → ∃ s', w'.cell? p = some (.string s')
  sli : ∀ p a n c, w.cell? p = some (.slice a n c) → w'.cell? p = some (.slice a n c)
  fro : ∀ p, p.block < w.heap.size → w'.frozen? p = w.frozen? p
theorem Keeps.refl (w : World) : Keeps w w := ⟨Nat.le_refl _, fun _ k h => ⟨k, h⟩, fun _ s h => ⟨s, h⟩, fun _ _ _ _ h => h, fun _ _ => rfl⟩
theorem Keeps.trans {a b c : World} (h : Keeps a b) (k : Keeps b c) : Keeps a c :=
  ⟨Nat.le_trans h.size k.size, fun p x hx => by obtain ⟨y, hy⟩ := h.int p x hx; exact k.int p y hy, fun p x hx => by obtain ⟨y, hy⟩ := h.str p x hx; exact k.str p y hy, fun p x y z hx => k.sli p x y z (h.sli p x y z hx), fun p hp => (k.fro p (by have := h.size; omega)).trans (h.fro p hp)⟩
theorem Keeps.below {w w' : World} (h : Below w.heap.size w w') : Keeps w w' :=
  ⟨h.size, fun p x hx => ⟨x, by rw [h.cell (World.block_lt_of_cell? w p hx)]; exact hx⟩, fun p x hx => ⟨x, by rw [h.cell (World.block_lt_of_cell? w p hx)]; exact hx⟩, fun p x y z hx => by rw [h.cell (World.block_lt_of_cell? w p hx)]; exact hx, fun p hp => h.frozen hp⟩
theorem Keeps.setInt {w : World} {p : Addr} {k k' : Int} (h : w.cell? p = some (.int .i64 k)) : Keeps w (w.setCell p (.int .i64 k')) := by
  refine ⟨by simp, fun q x hx => ?_, fun q x hx => ?_, fun q x y z hx => ?_, fun q _ => by simp⟩
  · by_cases e : p = q
    · subst e; exact ⟨k', World.cell?_setCell_same _ _ _ h⟩
    · exact ⟨x, by rw [World.cell?_setCell_other _ _ _ _ e]; exact hx⟩
  · by_cases e : p = q
    · subst e; rw [h] at hx; cases hx
    · exact ⟨x, by rw [World.cell?_setCell_other _ _ _ _ e]; exact hx⟩
  · by_cases e : p = q
    · subst e; rw [h] at hx; cases hx
    · rw [World.cell?_setCell_other _ _ _ _ e]; exact hx
theorem Keeps.setStr {w : World} {p : Addr} {k k' : ByteArray} (h : w.cell? p = some (.string k)) : Keeps w (w.setCell p (.string k')) := by
  refine ⟨by simp, fun q x hx => ?_, fun q x hx => ?_, fun q x y z hx => ?_, fun q _ => by simp⟩
  · by_cases e : p = q
    · subst e; rw [h] at hx; cases hx
    · exact ⟨x, by rw [World.cell?_setCell_other _ _ _ _ e]; exact hx⟩
  · by_cases e : p = q
    · subst e; exact ⟨k', World.cell?_setCell_same _ _ _ h⟩
    · exact ⟨x, by rw [World.cell?_setCell_other _ _ _ _ e]; exact hx⟩
  · by_cases e : p = q
    · subst e; rw [h] at hx; cases hx
    · rw [World.cell?_setCell_other _ _ _ _ e]; exact hx
/-- Nothing but blocks from L on and below U is changed. -/
def Only (L U : Nat) (w w' : World) : Prop := Below L w w' ∧ ∀ b, b < w.heap.size → U ≤ b → w'.heap[b]? = w.heap[b]?
theorem Only.refl (L U : Nat) (w : World) : Only L U w w := ⟨Below.refl _ _, fun _ _ _ => rfl⟩
theorem Only.trans {L U : Nat} {a b c : World} (h : Only L U a b) (k : Only L U b c) : Only L U a c := ⟨h.1.trans k.1, fun i hi hn => (k.2 i (by have := h.1.size; omega) hn).trans (h.2 i hi hn)⟩
theorem Only.below {L U : Nat} {w w' : World} (h : Below w.heap.size w w') (hL : L ≤ w.heap.size) : Only L U w w' := ⟨h.mono hL, fun b hb _ => h.block b hb⟩
theorem Only.set {L U : Nat} {w : World} {p : Addr} (v : Value) (hL : L ≤ p.block) (hU : p.block < U) : Only L U w (w.setCell p v) := ⟨(Below.refl _ _).setCell hL v, fun b _ hn => Below.heap_setCell w p v b (by omega)⟩

/-- Names that can be written. -/
def TypedE (w : World) (L U : Nat) (a : Option Addr) (n : Nat) : Prop := n ≠ 0 → ∃ b off, a = some ⟨b, off, none⟩ ∧ L ≤ b ∧ b < U ∧ b < w.heap.size ∧ (∀ o, w.frozen? ⟨b, o, none⟩ = false) ∧ ∀ i, i < n → (∃ s, w.cell? ⟨b, off + i * 2, none⟩ = some (.string s)) ∧ ∃ k, w.cell? ⟨b, off + i * 2 + 1, none⟩ = some (.int .i64 k)
theorem TypedE.keep {w w' : World} {L U : Nat} {a : Option Addr} {n : Nat} (h : TypedE w L U a n) (k : Keeps w w') : TypedE w' L U a n := fun hn => by
  obtain ⟨b, off, h1, h2, h3, h4, h5, h6⟩ := h hn
  refine ⟨b, off, h1, h2, h3, by have := k.size; omega, fun o => by rw [k.fro _ (by simpa using h4)]; exact h5 o, fun i hi => ?_⟩
  obtain ⟨⟨s, hs⟩, x, hx⟩ := h6 i hi
  exact ⟨k.str _ s hs, k.int _ x hx⟩
/-- Objects that can be written. -/
def TypedO (w : World) (L U : Nat) (a : Option Addr) (n : Nat) (os : List LObj) : Prop := n ≠ 0 → ∃ b off, a = some ⟨b, off, none⟩ ∧ L ≤ b ∧ b < U ∧ b < w.heap.size ∧ (∀ o, w.frozen? ⟨b, o, none⟩ = false) ∧ ∀ i, i < n → (∃ k, w.cell? ⟨b, off + i * 4, none⟩ = some (.int .i64 k)) ∧ (∃ k, w.cell? ⟨b, off + i * 4 + 1, none⟩ = some (.int .i64 k)) ∧ (∃ s, w.cell? ⟨b, off + i * 4 + 2, none⟩ = some (.string s)) ∧ ∃ o ka kc, os[i]? = some o ∧ w.cell? ⟨b, off + i * 4 + 3, none⟩ = some (.slice ka o.kids.length kc) ∧ TypedE w L U ka o.kids.length
theorem TypedO.keep {w w' : World} {L U : Nat} {a : Option Addr} {n : Nat} {os : List LObj} (h : TypedO w L U a n os) (k : Keeps w w') : TypedO w' L U a n os := fun hn => by
  obtain ⟨b, off, h1, h2, h3, h4, h5, h6⟩ := h hn
  refine ⟨b, off, h1, h2, h3, by have := k.size; omega, fun o => by rw [k.fro _ (by simpa using h4)]; exact h5 o, fun i hi => ?_⟩
  obtain ⟨⟨x, hx⟩, ⟨y, hy⟩, ⟨s, hs⟩, o, ka, kc, ho, hc, he⟩ := h6 i hi
  exact ⟨k.int _ x hx, k.int _ y hy, k.str _ s hs, o, ka, kc, ho, k.sli _ _ _ _ hc, he.keep k⟩

set_option maxHeartbeats 1000000 in
theorem markEntS_w (k0 : Nat) (a : Option Addr) (n c L U : Nat) (w : World) (hk1 : 1 ≤ k0) (hk2 : k0 ≤ 50000000) (hbd : n ≤ 1048576) (H : TypedE w L U a n) :
    Calls Try.prog 110 #[.slice a n c, .int .i64 (k0 : Int)] w fun e w' => e = .returned (.int .i64 ((k0 + 2 * n : Nat) : Int)) ∧ Keeps w w' ∧ Only L U w w' := by
  have HH : Hid (TypedE w L U a n) := H
  clear H
  go_enter Try.func110, Try.ntmps110
  go_wp2_with fail
  go_loopg [1, 5] n (fun g m i wr => ∃ j : Nat, j ≤ n ∧ Hid (g = n - j) ∧ i = .int .i64 j ∧ m = .int .i64 ((k0 + 2 * j : Nat) : Int) ∧ Hid (Keeps w wr) ∧ Hid (Only L U w wr))
  case atStart => exact ⟨0, Nat.zero_le _, rfl, rfl, rfl, Keeps.refl _, Only.refl _ _ _⟩
  case round =>
    obtain ⟨j, hj, hk, rfl, rfl, hK, hO⟩ := hrel
    by_cases hlt : j < n
    · obtain ⟨b, off, rfl, hL, hU, hbl, hfr, hcc⟩ := (HH.out.keep hK.out) (by omega)
      obtain ⟨⟨s, c0⟩, x, c1⟩ := hcc j hlt
      have hlt' : (j : Int) < (n : Int) := by omega
      clear hcc
      go_wp2_with fail
      refine (markText_to _ (k0 + 2 * j) _ (by push_cast; omega) (by omega) (by omega)).mono ?_
      rintro e w1 ⟨rfl, hb1⟩
      have d0 : w1.cell? ⟨b, off + j * 2, none⟩ = some (.string s) := by rw [hb1.cell (by simpa using hbl)]; exact c0
      have d1 : w1.cell? ⟨b, off + j * 2 + 1, none⟩ = some (.int .i64 x) := by rw [hb1.cell (by simpa using hbl)]; exact c1
      have hf1 : ∀ o, w1.frozen? ⟨b, o, none⟩ = false := fun o => by rw [hb1.frozen (by simpa using hbl)]; exact hfr o
      have z0 := hf1 (off + j * 2)
      have z1 := hf1 (off + j * 2 + 1)
      have hK1 : Hid (Keeps w w1) := hK.out.trans (Keeps.below hb1)
      have hO1 : Hid (Only L U w w1) := hO.out.trans (Only.below hb1 (by omega))
      have d1' : ∀ v, (w1.setCell ⟨b, off + j * 2, none⟩ v).cell? ⟨b, off + j * 2 + 1, none⟩ = some (.int .i64 x) := fun v => by rw [World.cell?_setCell_other _ _ _ _ (by simp)]; exact d1
      have KS : ∀ (v1 : ByteArray) (v2 : Int), Keeps w1 ((w1.setCell ⟨b, off + j * 2, none⟩ (.string v1)).setCell ⟨b, off + j * 2 + 1, none⟩ (.int .i64 v2)) := fun v1 v2 => (Keeps.setStr d0).trans (Keeps.setInt (d1' _))
      have OS : ∀ (v1 v2 : Value), Only L U w1 ((w1.setCell ⟨b, off + j * 2, none⟩ v1).setCell ⟨b, off + j * 2 + 1, none⟩ v2) := fun v1 v2 => (Only.set v1 hL hU).trans (Only.set v2 hL hU)
      have HKS : Hid (∀ (v1 : ByteArray) (v2 : Int), Keeps w1 ((w1.setCell ⟨b, off + j * 2, none⟩ (.string v1)).setCell ⟨b, off + j * 2 + 1, none⟩ (.int .i64 v2))) := KS
      have HOS : Hid (∀ (v1 v2 : Value), Only L U w1 ((w1.setCell ⟨b, off + j * 2, none⟩ v1).setCell ⟨b, off + j * 2 + 1, none⟩ v2)) := OS
      clear c0 c1 hfr hf1 hb1 KS OS d1'
      go_wp2_with fail
      go_roundg (n - (j + 1))
      case measure => have := hk.out; omega
      case rel => exact ⟨j + 1, by omega, rfl, by go_num, by go_num, hK1.out.trans (HKS.out _ _), hO1.out.trans (HOS.out _ _)⟩
    · obtain rfl : j = n := by omega
      go_wp2_with fail
      go_ret
      exact ⟨rfl, hK.out, hO.out⟩
theorem markEntS_to (x : Int) (k0 : Nat) (e : x = (k0 : Int)) (a : Option Addr) (n c L U : Nat) (w : World) (hk1 : 1 ≤ k0) (hk2 : k0 ≤ 50000000) (hbd : n ≤ 1048576) (H : TypedE w L U a n) :
    Calls Try.prog 110 #[.slice a n c, .int .i64 x] w fun e w' => e = .returned (.int .i64 ((k0 + 2 * n : Nat) : Int)) ∧ Keeps w w' ∧ Only L U w w' := by
  subst e; exact markEntS_w k0 a n c L U w hk1 hk2 hbd H

set_option maxHeartbeats 1000000 in
set_option maxRecDepth 20000 in
theorem markObjS_w (k0 : Nat) (a : Option Addr) (n c L U : Nat) (os : List LObj) (w : World) (hk1 : 1 ≤ k0) (hk2 : k0 ≤ 10000000) (hn : n = os.length) (hbd : n + totT os ≤ 1048576) (H : TypedO w L U a n os) :
    Calls Try.prog 70 #[.slice a n c, .int .i64 (k0 : Int)] w fun e w' => (∃ k : Nat, e = .returned (.int .i64 (k : Int)) ∧ k0 ≤ k ∧ k ≤ k0 + 3 * n + 2 * totT os) ∧ Keeps w w' ∧ Only L U w w' := by
  have HH : Hid (TypedO w L U a n os) := H
  have HN : Hid (n = os.length) := hn
  clear H hn
  go_enter Try.func70, Try.ntmps70
  go_wp2_with fail
  go_loopg [1, 5] n (fun g m i wr => ∃ j : Nat, j ≤ n ∧ Hid (g = n - j) ∧ i = .int .i64 j ∧ (∃ k : Nat, m = .int .i64 (k : Int) ∧ k0 ≤ k ∧ k ≤ 20000000 ∧ Hid (k ≤ k0 + 3 * j + 2 * totT (os.take j))) ∧ Hid (Keeps w wr) ∧ Hid (Only L U w wr))
  case atStart => exact ⟨0, Nat.zero_le _, rfl, rfl, ⟨k0, rfl, Nat.le_refl _, by omega, by show _ ≤ _; omega⟩, Keeps.refl _, Only.refl _ _ _⟩
  case round =>
    obtain ⟨j, hj, hk, rfl, ⟨k, rfl, hkl, hku, hkt⟩, hK, hO⟩ := hrel
    by_cases hlt : j < n
    · obtain ⟨b, off, rfl, hL, hU, hbl, hfr, hcc⟩ := (HH.out.keep hK.out) (by omega)
      obtain ⟨⟨x, c0⟩, ⟨y, c1⟩, ⟨s, c2⟩, o, ka, kc, ho, c3, he⟩ := hcc j hlt
      have hlt' : (j : Int) < (n : Int) := by omega
      have htk := totT_take ho
      have hto : o.kids.length ≤ totO o := by unfold totO; omega
      have htl : totT (os.take (j + 1)) ≤ totT os := by
        have h1 : totT os = totT (os.take (j + 1)) + totT (os.drop (j + 1)) := by
          unfold totT
          rw [← List.sum_append, ← List.map_append, List.take_append_drop]
        omega
      have hkids : o.kids.length ≤ 1048576 := by omega
      have hk9 : k + 3 + 2 * o.kids.length ≤ 20000000 := by have := hkt.out; omega
      have HKT : Hid (k + 3 + 2 * o.kids.length ≤ k0 + 3 * (j + 1) + 2 * totT (os.take (j + 1))) := by show _ ≤ _; have := hkt.out; omega
      have z0 := hfr (off + j * 4)
      have z1 := hfr (off + j * 4 + 1)
      have e1 : ∀ v, (wr.setCell ⟨b, off + j * 4, none⟩ v).cell? ⟨b, off + j * 4 + 1, none⟩ = some (.int .i64 y) := fun v => by rw [World.cell?_setCell_other _ _ _ _ (by simp)]; exact c1
      have HK2 : Hid (∀ v1 v2 : Int, Keeps wr ((wr.setCell ⟨b, off + j * 4, none⟩ (.int .i64 v1)).setCell ⟨b, off + j * 4 + 1, none⟩ (.int .i64 v2))) := fun v1 v2 => (Keeps.setInt c0).trans (Keeps.setInt (e1 _))
      have HO2 : Hid (∀ v1 v2 : Value, Only L U wr ((wr.setCell ⟨b, off + j * 4, none⟩ v1).setCell ⟨b, off + j * 4 + 1, none⟩ v2)) := fun v1 v2 => (Only.set v1 hL hU).trans (Only.set v2 hL hU)
      have HC2 : Hid (∀ v1 v2 : Value, ((wr.setCell ⟨b, off + j * 4, none⟩ v1).setCell ⟨b, off + j * 4 + 1, none⟩ v2).cell? ⟨b, off + j * 4 + 2, none⟩ = some (.string s)) := fun v1 v2 => by rw [World.cell?_setCell_other _ _ _ _ (by simp), World.cell?_setCell_other _ _ _ _ (by simp)]; exact c2
      have HC3 : Hid (∀ v1 v2 : Value, ((wr.setCell ⟨b, off + j * 4, none⟩ v1).setCell ⟨b, off + j * 4 + 1, none⟩ v2).cell? ⟨b, off + j * 4 + 3, none⟩ = some (.slice ka o.kids.length kc)) := fun v1 v2 => by rw [World.cell?_setCell_other _ _ _ _ (by simp), World.cell?_setCell_other _ _ _ _ (by simp)]; exact c3
      have HFR : Hid (∀ q, wr.frozen? ⟨b, q, none⟩ = false) := hfr
      have HE : Hid (TypedE wr L U ka o.kids.length) := he
      clear hcc c2 c3 hfr htk hto htl he ho
      go_wp2_with fail
      refine (markText_to _ (k + 2) _ (by push_cast; omega) (by omega) (by omega)).mono ?_
      rintro e w1 ⟨rfl, hb1⟩
      have d2 : w1.cell? ⟨b, off + j * 4 + 2, none⟩ = some (.string s) := by rw [hb1.cell (by simpa using hbl)]; exact HC2.out _ _
      have d3 : ∀ v, (w1.setCell ⟨b, off + j * 4 + 2, none⟩ v).cell? ⟨b, off + j * 4 + 3, none⟩ = some (.slice ka o.kids.length kc) := fun v => by rw [World.cell?_setCell_other _ _ _ _ (by simp), hb1.cell (by simpa using hbl)]; exact HC3.out _ _
      have z2 : w1.frozen? ⟨b, off + j * 4 + 2, none⟩ = false := by rw [hb1.frozen (by simpa using hbl)]; simpa using HFR.out _
      have hK1 : Hid (∀ v : ByteArray, Keeps wr (w1.setCell ⟨b, off + j * 4 + 2, none⟩ (.string v))) := fun v => ((HK2.out _ _).trans (Keeps.below hb1)).trans (Keeps.setStr d2)
      have hO1 : Hid (∀ v : Value, Only L U wr (w1.setCell ⟨b, off + j * 4 + 2, none⟩ v)) := fun v => ((HO2.out _ _).trans (Only.below hb1 (by simp; omega))).trans (Only.set v hL hU)
      clear HC2 HC3 hb1 c0 c1 e1 z0 z1 HK2 HO2
      go_wp2_with fail
      refine (markEntS_to _ (k + 3) (by push_cast; omega) _ _ _ L U _ (by omega) (by omega) hkids (HE.out.keep (hK1.out _))).mono ?_
      rintro e w2 ⟨rfl, hK2, hO2⟩
      have HK3 : Hid (Keeps w w2) := (hK.out.trans (hK1.out _)).trans hK2
      have HO3 : Hid (Only L U w w2) := (hO.out.trans (hO1.out _)).trans hO2
      clear hK2 hO2 d2 d3 z2 hK1 hO1 hK hO
      go_wp2_with fail
      go_roundg (n - (j + 1))
      case measure => have := hk.out; omega
      case rel => exact ⟨j + 1, by omega, rfl, by go_num, ⟨k + 3 + 2 * o.kids.length, rfl, by omega, hk9, HKT.out⟩, HK3.out, HO3.out⟩
    · have HE : Hid (os.take j = os) := by show _ = _; rw [List.take_of_length_le (by have := HN.out; omega)]
      have hlt' : ¬ (j : Int) < (n : Int) := by omega
      go_wp2_with fail
      go_ret
      exact ⟨⟨k, rfl, hkl, by have h1 := hkt.out; rw [HE.out] at h1; omega⟩, hK.out, hO.out⟩

theorem markTree_w (k0 : Nat) (a : Option Addr) (n c L U : Nat) (os : List LObj) (w : World) (hk1 : 1 ≤ k0) (hk2 : k0 ≤ 10000000) (hn : n = os.length) (hbd : n + totT os ≤ 1048576) (hLw : L ≤ w.heap.size) (H : TypedO w L U a n os) :
    Calls Try.prog 28 #[.agg #[.slice a n c], .int .i64 (k0 : Int)] w fun e w' => (∃ k : Nat, e = .returned (.int .i64 (k : Int)) ∧ k0 ≤ k ∧ k ≤ k0 + 3 * n + 2 * totT os) ∧ Keeps w w' ∧ Only L U w w' := by
  have hA : Below w.heap.size w (w.alloc (Obj.cells #[.slice a n c] 25)) := (Below.refl _ _).alloc (Nat.le_refl _) _
  have HN : Hid (n = os.length) := hn
  clear hn
  go_enter Try.func28, Try.ntmps28
  go_wp2_with fail
  refine (markObjS_w k0 _ _ _ L U os _ hk1 hk2 HN.out hbd (H.keep (Keeps.below hA))).mono ?_
  rintro e w1 ⟨⟨k, rfl, h1, h2⟩, hK, hO⟩
  have HK1 : Hid (Keeps w w1) := (Keeps.below hA).trans hK
  have HO1 : Hid (Only L U w w1) := (Only.below hA hLw).trans hO
  have HB : Hid (k0 ≤ k ∧ k ≤ k0 + 3 * n + 2 * totT os) := ⟨h1, h2⟩
  clear hK hO hA h1 h2
  go_wp2_with fail
  go_ret
  exact ⟨⟨k, rfl, HB.out⟩, HK1.out, HO1.out⟩
end Go.Proofs.Ytdjffkiiglilnaa
