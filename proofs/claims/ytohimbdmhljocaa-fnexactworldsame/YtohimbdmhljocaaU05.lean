/- Lemmas that the proofs of this seat share: ShopA, Put, Turn, CopyAll, PutIAll, Ids, OpSet, Worn, LogIJ, IntS, LogD, HomeAll, SpecOk, Lay, LayAll, Under. -/
import Derived.Test.YtohimbdmhljocaaU04
import Derived.Deep.Strs
import Derived.Test.YtohimbdmhljocaaU03
import Derived.BigRegion
import Derived.Deep.Upon
import Derived.Test.YtohimbdmhljocaaU02
import Derived.WalkMore
import Derived.Deep.DeepCutAuto
/- Servers: the last logs, in memory; contracts of the law's szShop, toShop, eqShop. -/
namespace Go.Proofs.Ytohimbdmhljocaa
open Go.RowKit Go.ChangeShapes Go.WideShapes

structure LDone where
  who : Int
  seq : Int
  code : Int
/-- What a slice of last logs is. -/
structure DonesAt (w : World) (L U : Nat) (a : Option Addr) (n : Nat) (bs : List LDone) : Prop where
  len : n = bs.length
  bd : n ≤ maxLen
  at_ : n ≠ 0 → ∃ b off, a = some ⟨b, off, none⟩ ∧ L ≤ b ∧ b < U ∧ ∀ i, i < n → ∃ e, bs[i]? = some e ∧ w.cell? ⟨b, off + i * 3, none⟩ = some (.int .i64 e.who) ∧ w.cell? ⟨b, off + i * 3 + 1, none⟩ = some (.int .i64 e.seq) ∧ w.cell? ⟨b, off + i * 3 + 2, none⟩ = some (.int .i64 e.code)
theorem DonesAt.blocks {w w' : World} {L U : Nat} {a : Option Addr} {n : Nat} {es : List LDone} (h : DonesAt w L U a n es) (hb : ∀ b, L ≤ b → b < U → w'.heap[b]? = w.heap[b]?) : DonesAt w' L U a n es :=
  ⟨h.len, h.bd, fun hn => by
    obtain ⟨b, off, ha, hL, hbU, hc⟩ := h.at_ hn
    refine ⟨b, off, ha, hL, hbU, fun i hi => ?_⟩
    obtain ⟨e, he, h0, h1, h2⟩ := hc i hi
    have hk := hb b hL hbU
    exact ⟨e, he, by rw [World.cell?_of_block (w := w) hk]; exact h0, by rw [World.cell?_of_block (w := w) hk]; exact h1, by rw [World.cell?_of_block (w := w) hk]; exact h2⟩⟩
theorem DonesAt.below {w w' : World} {L U B : Nat} {a : Option Addr} {n : Nat} {es : List LDone} (h : DonesAt w L U a n es) (hb : Below B w w') (hU : U ≤ B) : DonesAt w' L U a n es := h.blocks fun b _ hbU => hb.block b (by omega)
theorem DonesAt.wide {w : World} {L U L' U' : Nat} {a : Option Addr} {n : Nat} {es : List LDone} (h : DonesAt w L U a n es) (hL' : L' ≤ L) (hU : U ≤ U') : DonesAt w L' U' a n es :=
  ⟨h.len, h.bd, fun hn => by
    obtain ⟨b, off, ha, hL, hbU, hc⟩ := h.at_ hn
    exact ⟨b, off, ha, by omega, by omega, hc⟩⟩

section
variable {H : Type} {enc : TypeId × Value → H} {w : World} {spare : Nat → Bool} {held : Bool}
theorem list3 {α : Type} {l : List α} (h : l.length = 3) : ∃ a b c, l = [a, b, c] := by
  match l, h with
  | [a, b, c], _ => exact ⟨a, b, c, rfl⟩
theorem open_done_cells {fuel : Nat} {v0 v1 v2 : Value} {x : DataW H × List MemPlace} (h : DataW.trod enc Try.prog w 0 spare held fuel 167 [v0, v1, v2] = some x) :
    ∃ d : LDone, v0 = .int .i64 d.who ∧ v1 = .int .i64 d.seq ∧ v2 = .int .i64 d.code := by
  have c3 : Try.prog.cellsOf 3 = 1 := by kernel_rfl
  obtain ⟨y0, y1, y2, n, _, _, t0, t1, t2⟩ := Go.Deep.trod_struct3 Try.underlying167 h
  simp [c3] at t0 t1 t2
  obtain ⟨k0, e0, _, _⟩ := DataW.trod_int Try.underlying3 t0
  obtain ⟨k1, e1, _, _⟩ := DataW.trod_int Try.underlying3 t1
  obtain ⟨k2, e2, _, _⟩ := DataW.trod_int Try.underlying3 t2
  simp at e0 e1 e2
  exact ⟨⟨k0, k1, k2⟩, e0, e1, e2⟩
theorem open_dones {fuel : Nat} {v : Value} {x : DataW H × List MemPlace} (h : DataW.trod enc Try.prog w 0 spare held fuel 47 [v] = some x) :
    ∃ a n c es, v = .slice a n c ∧ DonesAt w 0 w.heap.size a n es := by
  have ce : Try.prog.cellsOf 167 = 3 := by kernel_rfl
  rcases Go.Deep.open_slice Try.underlying47 h with ⟨hcs, _⟩ | ⟨a, len, cap, m, n, D, Pl, hcs, _, hl, hm, hmm, _, hx⟩
  · simp at hcs
    exact ⟨none, 0, 0, [], hcs, rfl, by simp, fun h => absurd rfl h⟩
  · simp at hcs
    have hlm : len ≤ m := by rw [hmm]; split <;> omega
    obtain ⟨es, hes, hp⟩ := list_of (n := len) (p := fun i (o : LDone) => w.cell? (a.add (i * 3)) = some (.int .i64 o.who) ∧ w.cell? (a.add (i * 3 + 1)) = some (.int .i64 o.seq) ∧ w.cell? (a.add (i * 3 + 2)) = some (.int .i64 o.code)) (fun i hi => by
      obtain ⟨cs', h1, h2⟩ := hx i (by omega)
      rw [ce] at h1
      obtain ⟨_, hlen, hcell⟩ := World.cells?_some h1
      obtain ⟨v0, v1, v2, rfl⟩ := list3 hlen
      obtain ⟨o, rfl, rfl, rfl⟩ := open_done_cells h2
      have g0 := hcell 0 (by omega)
      have g1 := hcell 1 (by omega)
      have g2 := hcell 2 (by omega)
      rw [Go.Deep.add_add] at g0 g1 g2
      exact ⟨o, by simpa using g0, by simpa using g1, by simpa using g2⟩)
    refine ⟨some a, len, cap, es, hcs, hes.symm, by omega, fun hn => ?_⟩
    obtain ⟨b, off, spot⟩ := a
    obtain ⟨_, _, c0, _⟩ := hp 0 (by omega)
    have hspot : spot = none := by simpa [Addr.add] using World.cell?_spot c0
    subst hspot
    refine ⟨b, off, rfl, Nat.zero_le _, by have := cell_lt c0; simpa [Addr.add] using this, fun i hi => ?_⟩
    obtain ⟨o, ho, q0, q1, q2⟩ := hp i hi
    exact ⟨o, ho, by rw [← addr_add]; exact q0, by rw [Nat.add_assoc, ← addr_add]; exact q1, by rw [Nat.add_assoc, ← addr_add]; exact q2⟩
end

theorem szDoneS_any (a : Option Addr) (n c : Nat) (es : List LDone) (L U : Nat) (left : Int) (w : World) (h0 : 0 ≤ left) (h1 : left ≤ 1048576) (H : DonesAt w L U a n es) :
    Calls Try.prog 91 #[.slice a n c, .int .i64 left] w fun e w' => (∃ r : Int, e = .returned (.int .i64 r) ∧ (r = -1 ∨ (0 ≤ r ∧ r = left - n))) ∧ Below w.heap.size w w' := by
  have hbd := H.bd
  unfold maxLen at hbd
  by_cases h : left - n < 0
  · go_enter Try.func91, Try.ntmps91
    go_wp2
    go_ret
    exact ⟨⟨-1, rfl, .inl rfl⟩, Below.refl _ _⟩
  · go_enter Try.func91, Try.ntmps91
    go_wp2
    go_ret
    exact ⟨⟨_, rfl, .inr ⟨by omega, rfl⟩⟩, Below.refl _ _⟩

set_option maxHeartbeats 400000 in
theorem szShop_any (a : Option Addr) (n c : Nat) (os : List LObj) (a' : Option Addr) (n' c' : Nat) (ds : List LDone) (L U : Nat) (left : Int) (w : World) (h0 : 0 ≤ left) (h1 : left ≤ 1048576) (hU : U ≤ w.heap.size) (HO : ObjsAt w L U a n os) (HD : DonesAt w L U a' n' ds) :
    Calls Try.prog 43 #[.agg #[.slice a n c, .slice a' n' c'], .int .i64 left] w fun e w' => (∃ r : Int, e = .returned (.int .i64 r) ∧ (r = -1 ∨ (0 ≤ r ∧ r = left - n - totT os - n'))) ∧ Below w.heap.size w w' := by
  go_enter Try.func43, Try.ntmps43
  go_wp2_with fail
  have hA : Below w.heap.size w (w.alloc (Obj.cells #[.slice a n c, .slice a' n' c'] 49)) := (Below.refl _ _).alloc (Nat.le_refl _) _
  refine (szTree_any _ _ _ _ L U _ _ h0 h1 (by simp; omega) (HO.below hA hU)).mono ?_
  rintro x w1 ⟨⟨r, rfl, hr⟩, hb⟩
  have HR : Hid (r = -1 ∨ 0 ≤ r ∧ r = left - n - totT os) := hr
  clear hr
  have hb' : Below w.heap.size w w1 := hA.trans (hb.mono (by simp))
  have c3 : w1.cell? ⟨w.heap.size, 1, none⟩ = some (.slice a' n' c') := by rw [hb.cell (by simp)]; simp [go_sem]
  have hs1 := hb'.size
  by_cases hneg : r < 0
  · go_wp2_with fail
    go_ret
    exact ⟨⟨-1, rfl, .inl rfl⟩, hb'⟩
  · go_wp2_with fail
    refine (szDoneS_any _ _ _ _ L U _ _ (by omega) (by have := HR.out; omega) (HD.below hb' hU)).mono ?_
    rintro x w2 ⟨⟨r2, rfl, hr2⟩, hb2⟩
    have HR2 : Hid (r2 = -1 ∨ 0 ≤ r2 ∧ r2 = r - n') := hr2
    clear hr2
    have hb2' : Below w.heap.size w w2 := hb'.trans (hb2.mono hs1)
    by_cases hneg2 : r2 < 0
    · go_wp2_with fail
      go_ret
      exact ⟨⟨-1, rfl, .inl rfl⟩, hb2'⟩
    · go_wp2_with fail
      go_ret
      exact ⟨⟨r2, rfl, by have := HR.out; have := HR2.out; omega⟩, hb2'⟩

theorem toDone_any (i j k : Int) (w : World) :
    Calls Try.prog 122 #[.agg #[.int .i64 i, .int .i64 j, .int .i64 k]] w fun e w' => e = .returned (.agg #[.int .i64 i, .int .i64 j, .int .i64 k]) ∧ Below w.heap.size w w' := by
  go_enter Try.func122, Try.ntmps122
  go_wp2
  exact bodyPost_ret (v := .agg #[.int .i64 i, .int .i64 j, .int .i64 k]) (by simp [results, Try.results122, go_sem]) rfl ⟨rfl, by
    repeat (first | exact Below.refl _ _ | refine Below.setCell ?_ (by simp <;> omega) _ | refine Below.alloc ?_ (by simp <;> omega) _)⟩

theorem infoD : (Try.prog.info? 135).map (fun i => (i.zero.map (·.cells), i.size, i.bytes)) = some (some #[.int .i64 0, .int .i64 0, .int .i64 0], 3, 24) := by kernel_rfl

set_option maxHeartbeats 400000 in
theorem toDoneS_any (a : Option Addr) (n c : Nat) (es : List LDone) (L U : Nat) (w : World) (hn : n ≤ 1048576) (hU : U ≤ w.heap.size) (H : DonesAt w L U a n es) :
    Calls Try.prog 97 #[.slice a n c] w fun e w' => (∃ b, e = .returned (.slice (some ⟨b, 0, none⟩) n n) ∧ DonesAt w' w.heap.size w'.heap.size (some ⟨b, 0, none⟩) n es) ∧ Below w.heap.size w w' := by
  have hmk := run_make_many 32 135 _ 3 24 Try.underlying32 infoD n (by omega) (by omega)
  obtain ⟨f0, hf0⟩ := rowIs_many w #[.int .i64 0, .int .i64 0, .int .i64 0] (n * 3) 135
  have HF0 : Hid ((w.alloc (.cells (madeCells #[.int .i64 0, .int .i64 0, .int .i64 0] (n * 3)) 135)).rowIs w.heap.size 135 (n * 3) f0) := hf0
  clear hf0
  go_enter Try.func97, Try.ntmps97
  go_wp2
  go_loopg [4] n (fun k i wr => ∃ j : Nat, j ≤ n ∧ Hid (k = n - j) ∧ i = .int .i64 j ∧ (∃ f, Hid (wr.rowIs w.heap.size 135 (n * 3) f ∧ ∀ i, i < j → ∃ e, es[i]? = some e ∧ f (i * 3) = .int .i64 e.who ∧ f (i * 3 + 1) = .int .i64 e.seq ∧ f (i * 3 + 2) = .int .i64 e.code)) ∧ Below w.heap.size w wr)
  case atStart => exact ⟨0, Nat.zero_le _, by show _ = _; omega, rfl, ⟨f0, HF0.out, fun i hi => by omega⟩, (Below.refl _ _).alloc (Nat.le_refl _) _⟩
  case round =>
    obtain ⟨j, hj, hk, rfl, ⟨f, hf⟩, hb⟩ := hrel
    by_cases hlt : j < n
    · obtain ⟨b, off, ha, hL, hbU, hc⟩ := H.at_ (by omega)
      subst ha
      obtain ⟨e, he, hc0, hc1, hc2⟩ := hc j hlt
      rw [← hb.cell (by simp; omega)] at hc0 hc1 hc2
      have HE : Hid (es[j]? = some e) := he
      clear he hc
      go_wp2_with fail
      refine (toDone_any _ _ _ _).mono ?_
      rintro x w1 ⟨rfl, hb1⟩
      have hrow := hf.out.1.of_block (hb1.block w.heap.size hf.out.1.lt)
      have g0 := hrow.cell (i := j * 3) (by omega)
      have g1 := hrow.cell (i := j * 3 + 1) (by omega)
      have g2 := hrow.cell (i := j * 3 + 2) (by omega)
      have z0 := hrow.frozen (j * 3)
      have z1 := hrow.frozen (j * 3 + 1)
      have z2 := hrow.frozen (j * 3 + 2)
      have HR : Hid (w1.rowIs w.heap.size 135 (n * 3) f) := hrow
      clear hrow
      go_wp2_with fail
      go_roundg (n - (j + 1))
      case measure => have := hk.out; omega
      case rel =>
        refine ⟨j + 1, by omega, rfl, by go_num, ⟨_, ((HR.out.set (j * 3) (.int .i64 e.who)).set (j * 3 + 1) (.int .i64 e.seq)).set (j * 3 + 2) (.int .i64 e.code), fun i hi => ?_⟩, (((hb.trans (hb1.mono hb.size)).setCell (by simp) _).setCell (by simp) _).setCell (by simp) _⟩
        by_cases hij : i = j
        · subst hij
          exact ⟨e, HE.out, by simp, by simp, by simp⟩
        · obtain ⟨e', he', q0, q1, q2⟩ := hf.out.2 i (by omega)
          refine ⟨e', he', ?_, ?_, ?_⟩
          · show (if i * 3 = j * 3 + 2 then _ else if i * 3 = j * 3 + 1 then _ else if i * 3 = j * 3 then _ else f (i * 3)) = _
            rw [if_neg (by omega), if_neg (by omega), if_neg (by omega)]; exact q0
          · show (if i * 3 + 1 = j * 3 + 2 then _ else if i * 3 + 1 = j * 3 + 1 then _ else if i * 3 + 1 = j * 3 then _ else f (i * 3 + 1)) = _
            rw [if_neg (by omega), if_neg (by omega), if_neg (by omega)]; exact q1
          · show (if i * 3 + 2 = j * 3 + 2 then _ else if i * 3 + 2 = j * 3 + 1 then _ else if i * 3 + 2 = j * 3 then _ else f (i * 3 + 2)) = _
            rw [if_neg (by omega), if_neg (by omega), if_neg (by omega)]; exact q2
    · go_wp2_with fail
      go_ret
      refine ⟨⟨w.heap.size, rfl, H.len, H.bd, fun hn0 => ⟨w.heap.size, 0, rfl, Nat.le_refl _, hf.out.1.lt, fun i hi => ?_⟩⟩, hb⟩
      obtain ⟨e', he', q0, q1, q2⟩ := hf.out.2 i (by omega)
      exact ⟨e', he', by rw [← q0, Nat.zero_add]; exact hf.out.1.cell (by omega), by rw [← q1, Nat.zero_add]; exact hf.out.1.cell (by omega), by rw [← q2, Nat.zero_add]; exact hf.out.1.cell (by omega)⟩

theorem EntsAt.blocks_ {w w' : World} {L U : Nat} {a : Option Addr} {n : Nat} {es : List LEnt} (h : EntsAt w L U a n es) (hb : ∀ b, L ≤ b → b < U → w'.heap[b]? = w.heap[b]?) : EntsAt w' L U a n es :=
  ⟨h.len, h.bd, fun hn => by
    obtain ⟨b, off, ha, hL, hbU, hc⟩ := h.at_ hn
    refine ⟨b, off, ha, hL, hbU, fun i hi => ?_⟩
    obtain ⟨e, he, hs, h0, h1⟩ := hc i hi
    have hk := hb b hL hbU
    exact ⟨e, he, hs, by rw [World.cell?_of_block (w := w) hk]; exact h0, by rw [World.cell?_of_block (w := w) hk]; exact h1⟩⟩
theorem ObjsAt.blocks_ {w w' : World} {L U : Nat} {a : Option Addr} {n : Nat} {os : List LObj} (h : ObjsAt w L U a n os) (hb : ∀ b, L ≤ b → b < U → w'.heap[b]? = w.heap[b]?) : ObjsAt w' L U a n os :=
  ⟨h.len, h.bd, fun hn => by
    obtain ⟨b, off, ha, hL, hbU, hc⟩ := h.at_ hn
    refine ⟨b, off, ha, hL, hbU, fun i hi => ?_⟩
    obtain ⟨o, ka, kn, kc, he, hs, h0, h1, h2, h3, hk⟩ := hc i hi
    have hk' := hb b hL hbU
    exact ⟨o, ka, kn, kc, he, hs, by rw [World.cell?_of_block (w := w) hk']; exact h0, by rw [World.cell?_of_block (w := w) hk']; exact h1, by rw [World.cell?_of_block (w := w) hk']; exact h2, by rw [World.cell?_of_block (w := w) hk']; exact h3, hk.blocks_ hb⟩⟩

set_option maxHeartbeats 400000 in
theorem toShop_any (a : Option Addr) (n c : Nat) (os : List LObj) (a' : Option Addr) (n' c' : Nat) (ds : List LDone) (L U : Nat) (w : World) (hn : n ≤ 1048576) (hS : Sizes os 1048576) (hn' : n' ≤ 1048576) (hU : U ≤ w.heap.size) (HO : ObjsAt w L U a n os) (HD : DonesAt w L U a' n' ds) :
    Calls Try.prog 51 #[.agg #[.slice a n c, .slice a' n' c']] w fun e w' => (∃ b b', e = .returned (.agg #[.slice (some ⟨b, 0, none⟩) n n, .slice (some ⟨b', 0, none⟩) n' n']) ∧ ObjsAt w' w.heap.size w'.heap.size (some ⟨b, 0, none⟩) n os ∧ DonesAt w' w.heap.size w'.heap.size (some ⟨b', 0, none⟩) n' ds) ∧ Below w.heap.size w w' := by
  go_enter Try.func51, Try.ntmps51
  go_wp2_with fail
  refine (toTree_any _ _ _ _ L U _ hn hS (by simp <;> omega) (HO.below ((((Below.refl _ _).alloc (Nat.le_refl _) _).alloc (by simp) _).alloc (by simp <;> omega) _) hU)).mono ?_
  rintro x w1 ⟨⟨b, rfl, hk⟩, hb⟩
  have hz : w.heap.size + 3 ≤ w1.heap.size := by have := hb.size; simp at this; omega
  have hb0 : Below w.heap.size w w1 := ((((Below.refl _ _).alloc (Nat.le_refl _) _).alloc (by simp) _).alloc (by simp <;> omega) _).trans (hb.mono (by simp <;> omega))
  have hk1 : ObjsAt w1 (w.heap.size + 3) w1.heap.size (some ⟨b, 0, none⟩) n os := hk.wide (by simp) (Nat.le_refl _)
  obtain ⟨hc, hf⟩ := bcell hb
  have p3 : w1.cell? ⟨w.heap.size, 1, none⟩ = some (.slice a' n' c') := by rw [hc _ _ (by simp <;> omega)]; simp [go_sem]
  have r0 : w1.cell? ⟨w.heap.size + 1, 0, none⟩ = some (.slice none 0 0) := by rw [hc _ _ (by simp <;> omega)]; simp [go_sem]
  have r1 : w1.cell? ⟨w.heap.size + 1, 1, none⟩ = some (.slice none 0 0) := by rw [hc _ _ (by simp <;> omega)]; simp [go_sem]
  have q0 : w1.cell? ⟨w.heap.size + 1 + 1, 0, none⟩ = some (.slice none 0 0) := by rw [hc _ _ (by simp)]; simp [go_sem]
  have q1 : w1.cell? ⟨w.heap.size + 1 + 1, 1, none⟩ = some (.slice none 0 0) := by rw [hc _ _ (by simp)]; simp [go_sem]
  have y1 : ∀ o, w1.frozen? ⟨w.heap.size + 1, o, none⟩ = false := fun o => by rw [hf _ _ (by simp <;> omega)]; simp [go_sem]
  have y2 : ∀ o, w1.frozen? ⟨w.heap.size + 1 + 1, o, none⟩ = false := fun o => by rw [hf _ _ (by simp)]; simp [go_sem]
  clear hc hf hb hk
  go_wp2_with fail
  refine (toDoneS_any _ _ _ _ L U _ hn' (by simp <;> omega) (HD.below (hb0.setCell (by simp <;> omega) _) hU)).mono ?_
  rintro x w2 ⟨⟨b', rfl, hk2⟩, hb2⟩
  obtain ⟨hc, hf⟩ := bcell hb2
  have hz2 : w1.heap.size ≤ w2.heap.size := by have := hb2.size; simp at this; omega
  have e0 := hc (w.heap.size + 1) 0 (by simp <;> omega)
  have e1 := hc (w.heap.size + 1) 1 (by simp <;> omega)
  have d0 := hc (w.heap.size + 1 + 1) 0 (by simp <;> omega)
  have d1 := hc (w.heap.size + 1 + 1) 1 (by simp <;> omega)
  have x1 : ∀ o, w2.frozen? ⟨w.heap.size + 1, o, none⟩ = false := fun o => by rw [hf _ _ (by simp <;> omega)]; simp [go_sem, y1]
  have x2 : ∀ o, w2.frozen? ⟨w.heap.size + 1 + 1, o, none⟩ = false := fun o => by rw [hf _ _ (by simp <;> omega)]; simp [go_sem, y2]
  simp [go_sem, r0, r1, q0, q1] at e0 e1 d0 d1
  have hb3 : Below w.heap.size w w2 := (hb0.setCell (p := ⟨w.heap.size + 1 + 1, 0, none⟩) (by simp <;> omega) (.slice (some ⟨b, 0, none⟩) n n)).trans (hb2.mono (by simp <;> omega))
  have hk3 : ObjsAt w2 (w.heap.size + 3) w1.heap.size (some ⟨b, 0, none⟩) n os := hk1.blocks_ fun k h1 h2 => by
    rw [hb2.block k (by simp <;> omega)]
    exact Below.heap_setCell _ _ _ k (by simp <;> omega)
  have hk4 : DonesAt w2 (w.heap.size + 3) w2.heap.size (some ⟨b', 0, none⟩) n' ds := hk2.wide (by simp <;> omega) (Nat.le_refl _)
  clear hc hf hb2 hk1 hk2 p3 r0 r1 q0 q1 y1 y2
  go_wp2_with fail
  refine bodyPost_ret (v := .agg #[.slice (some ⟨b, 0, none⟩) n n, .slice (some ⟨b', 0, none⟩) n' n']) (by simp [results, Try.results51, go_sem, e0, e1]) rfl ⟨⟨b, b', rfl, ?_, ?_⟩, ?_⟩
  · refine ObjsAt.wide (L := w.heap.size + 3) (U := w1.heap.size) ?_ (by omega) (by simp <;> omega)
    refine hk3.blocks_ fun k h1 h2 => ?_
    iterate 3 refine (Below.heap_setCell _ _ _ k (by simp <;> omega)).trans ?_
    rfl
  · refine DonesAt.wide (L := w.heap.size + 3) (U := w2.heap.size) ?_ (by omega) (by simp)
    refine hk4.blocks fun k h1 h2 => ?_
    iterate 3 refine (Below.heap_setCell _ _ _ k (by simp <;> omega)).trans ?_
    rfl
  · repeat (first | exact hb3 | refine Below.setCell ?_ (by simp <;> omega) _)

theorem eqDone_same (i j k : Int) (w : World) :
    Calls Try.prog 113 #[.agg #[.int .i64 i, .int .i64 j, .int .i64 k], .agg #[.int .i64 i, .int .i64 j, .int .i64 k]] w fun e w' => e = .returned (.bool true) ∧ Below w.heap.size w w' := by
  go_enter Try.func113, Try.ntmps113
  go_wp2
  go_ret
  exact ⟨by simp, ((Below.refl _ _).alloc (Nat.le_refl _) _).alloc (by simp) _⟩

set_option maxHeartbeats 800000 in
theorem eqDoneS_same (a a' : Option Addr) (n c c' : Nat) (es : List LDone) (L U L' U' : Nat) (w : World) (hU : U ≤ w.heap.size) (hU' : U' ≤ w.heap.size) (H : DonesAt w L U a n es) (H' : DonesAt w L' U' a' n es) :
    Calls Try.prog 74 #[.slice a n c, .slice a' n c'] w fun e w' => e = .returned (.bool true) ∧ Below w.heap.size w w' := by
  have hbd := H.bd
  unfold maxLen at hbd
  go_enter Try.func74, Try.ntmps74
  go_wp2_with fail
  go_loopg [5] n (fun k i wr => ∃ j : Nat, j ≤ n ∧ Hid (k = n - j) ∧ i = .int .i64 j ∧ Below w.heap.size w wr)
  case atStart => exact ⟨0, Nat.zero_le _, rfl, rfl, Below.refl _ _⟩
  case round =>
    obtain ⟨j, hj, hk, rfl, hb⟩ := hrel
    by_cases hlt : j < n
    · obtain ⟨b, off, ha, hL, hbU, hc⟩ := H.at_ (by omega)
      obtain ⟨b', off', ha', hL', hbU', hc'⟩ := H'.at_ (by omega)
      subst ha ha'
      obtain ⟨x, he, c0, c1, c2⟩ := hc j hlt
      obtain ⟨y, he2, d0, d1, d2⟩ := hc' j hlt
      obtain rfl : x = y := by rw [he] at he2; simpa using he2
      rw [← hb.cell (by simp <;> omega)] at c0 c1 c2 d0 d1 d2
      have hlt' : (j : Int) < (n : Int) := by omega
      have HEQ := eqDone_same x.who x.seq x.code
      clear he he2 hc hc'
      go_wp2_with fail
      go_region_with (go_at_call 113; go_must (refine (HEQ _).mono ?_; rintro e w1 ⟨rfl, hb1⟩))
      all_goals
        go_wp2_with fail
        go_roundg (n - (j + 1))
        case measure => have := hk.out; omega
        case rel => exact ⟨j + 1, by omega, rfl, by go_num, hb.trans ((Below.refl _ _).drew.trans (hb1.mono (by simp)) |>.mono hb.size)⟩
    · obtain rfl : j = n := by omega
      go_wp2_with fail
      go_ret
      exact ⟨rfl, hb⟩

set_option maxHeartbeats 800000 in
theorem eqShop_same (a : Option Addr) (n c : Nat) (a' : Option Addr) (n' c' : Nat) (a2 : Option Addr) (c2 : Nat) (a2' : Option Addr) (c2' : Nat) (os : List LObj) (ds : List LDone) (L U L' U' L2 U2 L2' U2' : Nat) (w : World) (hU : U ≤ w.heap.size) (hU' : U' ≤ w.heap.size) (hU2 : U2 ≤ w.heap.size) (hU2' : U2' ≤ w.heap.size) (HO : ObjsAt w L U a n os) (HD : DonesAt w L' U' a' n' ds) (HO2 : ObjsAt w L2 U2 a2 n os) (HD2 : DonesAt w L2' U2' a2' n' ds) :
    Calls Try.prog 29 #[.agg #[.slice a n c, .slice a' n' c'], .agg #[.slice a2 n c2, .slice a2' n' c2']] w fun e w' => e = .returned (.bool true) ∧ Below w.heap.size w w' := by
  have hA : ∀ o1 o2 : Obj, Below w.heap.size w ((w.alloc o1).alloc o2) := fun o1 o2 => ((Below.refl _ _).alloc (Nat.le_refl _) _).alloc (by simp) _
  go_enter Try.func29, Try.ntmps29
  go_wp2_with fail
  refine (eqTree_same _ _ _ _ _ _ L U L2 U2 _ (by simp <;> omega) (by simp <;> omega) (HO.below (hA _ _) hU) (HO2.below (hA _ _) hU2)).mono ?_
  rintro x w1 ⟨rfl, hb1⟩
  have hb2 : Below w.heap.size w w1 := (hA _ _).trans (hb1.mono (by simp <;> omega))
  have hz := hb2.size
  have p3 : w1.cell? ⟨w.heap.size, 1, none⟩ = some (.slice a' n' c') := by rw [hb1.cell (by simp <;> omega)]; simp [go_sem]
  have p4 : w1.cell? ⟨w.heap.size + 1, 1, none⟩ = some (.slice a2' n' c2') := by rw [hb1.cell (by simp)]; simp [go_sem]
  clear hb1
  go_wp2_with fail
  refine (eqDoneS_same _ _ _ _ _ _ L' U' L2' U2' _ (by omega) (by omega) (HD.below hb2 hU') (HD2.below hb2 hU2')).mono ?_
  rintro x w2 ⟨rfl, hb3⟩
  go_wp2_with fail
  go_ret
  exact ⟨rfl, hb2.trans (hb3.mono hz)⟩
end Go.Proofs.Ytohimbdmhljocaa

/- Putting a name into a directory. -/
namespace Go.Proofs.Ytohimbdmhljocaa
open Go.RowKit

end Go.Proofs.Ytohimbdmhljocaa

/- A tree in memory of the call's own; counting a turn. -/
namespace Go.Proofs.Ytohimbdmhljocaa
open Go.RowKit

structure OwnT (w : World) (B b c : Nat) (os : List LObj) (vs : Nat → Value) : Prop where
  lo : B ≤ b
  row : ∃ cur, w.heap[b]? = some (.cells cur 157 (0, 0)) ∧ cur.size = c * 4 ∧ os.length ≤ c ∧ c ≤ maxLen
  at_ : ∀ i o, os[i]? = some o → o.text.size ≤ maxLen ∧ w.cell? ⟨b, i * 4, none⟩ = some (.int .i64 o.kind) ∧ w.cell? ⟨b, i * 4 + 1, none⟩ = some (.int .i64 o.ver) ∧ w.cell? ⟨b, i * 4 + 2, none⟩ = some (.string o.text) ∧ w.cell? ⟨b, i * 4 + 3, none⟩ = some (vs i) ∧ OwnEnts w B (vs i) o.kids ∧ ∀ e ∈ o.kids, e.name.size ≤ maxLen
  apart : ∀ i j g, i < os.length → j < os.length → i ≠ j → (vs i).ownBlock = some g → (vs j).ownBlock ≠ some g

theorem OwnT.lt {w : World} {B b c : Nat} {os : List LObj} {vs : Nat → Value} (h : OwnT w B b c os vs) : b < w.heap.size := by
  obtain ⟨cur, hg, _⟩ := h.row
  exact (Array.getElem?_eq_some_iff.1 hg).1
theorem OwnT.frozen {w : World} {B b c : Nat} {os : List LObj} {vs : Nat → Value} (h : OwnT w B b c os vs) (k : Nat) : w.frozen? ⟨b, k, none⟩ = false := by
  obtain ⟨cur, hg, _⟩ := h.row
  exact frozen_of_row w b k cur 157 hg
/-- What is in another block than one's own stays. -/
theorem OwnT.grown {w w' : World} {B b c : Nat} {os : List LObj} {vs : Nat → Value} (h : OwnT w B b c os vs) {row : Option Nat} (hg : w.grownBy w' row) (hb : some b ≠ row) (hv : ∀ i, i < os.length → (vs i).ownBlock = none ∨ (vs i).ownBlock ≠ row) : OwnT w' B b c os vs := by
  obtain ⟨cur, hr, hcs, hlc, hcm⟩ := h.row
  refine ⟨h.lo, ⟨cur, by rw [hg.block b h.lt hb]; exact hr, hcs, hlc, hcm⟩, fun i o ho => ?_, h.apart⟩
  obtain ⟨h1, h2, h3, h4, h5, h6, h7⟩ := h.at_ i o ho
  have hlt : i < os.length := (List.getElem?_eq_some_iff.1 ho).1
  refine ⟨h1, ?_, ?_, ?_, ?_, World.ownsRow.kept h6 hg (hv i hlt), h7⟩ <;> (rw [hg.cell_far _ h.lt hb]; assumption)
theorem OwnT.alloc {w : World} {B b c : Nat} {os : List LObj} {vs : Nat → Value} (h : OwnT w B b c os vs) (o : Obj) : OwnT (w.alloc o) B b c os vs :=
  h.grown (World.grownBy_alloc w o none) (by simp) fun i _ => by cases hv : (vs i).ownBlock <;> simp
end Go.Proofs.Ytohimbdmhljocaa

/- A tree in new memory. -/
namespace Go.Proofs.Ytohimbdmhljocaa
open Go.RowKit

/-- The cells of objects, their names' slices given. -/
def objCells (os : List LObj) (vs : Nat → Value) : Nat → List Value
  | 0 => []
  | k + 1 => objCells os vs k ++ (match os[k]? with | some o => [.int .i64 o.kind, .int .i64 o.ver, .string o.text, vs k] | none => [])
theorem objCells_len (os : List LObj) (vs : Nat → Value) : ∀ k, k ≤ os.length → (objCells os vs k).length = k * 4
  | 0, _ => rfl
  | k + 1, h => by
    have ih := objCells_len os vs k (by omega)
    have ho : os[k]? = some os[k] := by simp [show k < os.length by omega]
    simp only [objCells, ho, List.length_append, ih, List.length_cons, List.length_nil]
    omega
theorem objCells_at (os : List LObj) (vs : Nat → Value) : ∀ k, k ≤ os.length → ∀ i o, i < k → os[i]? = some o → (objCells os vs k)[i * 4]? = some (.int .i64 o.kind) ∧ (objCells os vs k)[i * 4 + 1]? = some (.int .i64 o.ver) ∧ (objCells os vs k)[i * 4 + 2]? = some (.string o.text) ∧ (objCells os vs k)[i * 4 + 3]? = some (vs i)
  | 0, _, i, o, h, _ => by omega
  | k + 1, hk, i, o, h, ho => by
    have hl := objCells_len os vs k (by omega)
    by_cases hik : i = k
    · subst hik
      simp only [objCells, ho]
      refine ⟨?_, ?_, ?_, ?_⟩
      · rw [List.getElem?_append_right (by omega)]; simp [hl]
      · rw [List.getElem?_append_right (by omega)]; simp [hl]
      · rw [List.getElem?_append_right (by omega)]; simp [hl]
      · rw [List.getElem?_append_right (by omega)]; simp [hl]
    · have ih := objCells_at os vs k (by omega) i o (by omega) ho
      simp only [objCells]
      refine ⟨?_, ?_, ?_, ?_⟩
      · rw [List.getElem?_append_left (by omega)]; exact ih.1
      · rw [List.getElem?_append_left (by omega)]; exact ih.2.1
      · rw [List.getElem?_append_left (by omega)]; exact ih.2.2.1
      · rw [List.getElem?_append_left (by omega)]; exact ih.2.2.2
theorem objCells_congr (os : List LObj) {vs vs' : Nat → Value} : ∀ k, (∀ i, i < k → vs i = vs' i) → objCells os vs k = objCells os vs' k
  | 0, _ => rfl
  | k + 1, h => by
    simp only [objCells]
    rw [objCells_congr os k (fun i hi => h i (by omega)), h k (by omega)]

/-- So far copied: the first k objects, in a row of the call's own, their names in rows of their own. -/
structure CopyAt (w : World) (B : Nat) (v : Value) (os : List LObj) (vs : Nat → Value) (k : Nat) : Prop where
  own : w.ownsRow B 157 4 v k (objCells os vs k)
  kids : ∀ i o, i < k → os[i]? = some o → (∃ g kc, vs i = .slice (some ⟨g, 0, none⟩) o.kids.length kc) ∧ OwnEnts w B (vs i) o.kids
  apart : ∀ i j g, i < k → j < k → i ≠ j → (vs i).ownBlock = some g → (vs j).ownBlock ≠ some g

theorem CopyAt.done {w : World} {B n : Nat} {v : Value} {os : List LObj} {vs : Nat → Value} (h : CopyAt w B v os vs n) (hn : n = os.length) (h1 : 1 ≤ n) (hs : ∀ o ∈ os, o.text.size ≤ maxLen ∧ ∀ e ∈ o.kids, e.name.size ≤ maxLen) : ∃ b c, v = .slice (some ⟨b, 0, none⟩) n c ∧ OwnT w B b c os vs := by
  subst hn
  rcases h.own.2 with ⟨_, h0⟩ | ⟨b, c, cur, rfl, hb, hg, hnc, hcm, hcs, htake⟩
  · omega
  · refine ⟨b, c, rfl, hb, ⟨cur, hg, hcs, hnc, hcm⟩, fun i o ho => ?_, h.apart⟩
    have hlt : i < os.length := (List.getElem?_eq_some_iff.1 ho).1
    have hc := objCells_at os vs os.length (Nat.le_refl _) i o hlt ho
    have hat : ∀ j, j < os.length * 4 → w.cell? ⟨b, j, none⟩ = (objCells os vs os.length)[j]? := fun j hj => World.ownsRow.cellAt h.own j hj
    have hk := h.kids i o hlt ho
    have hso := hs o (List.mem_of_getElem? ho)
    exact ⟨hso.1, by rw [hat _ (by omega)]; exact hc.1, by rw [hat _ (by omega)]; exact hc.2.1, by rw [hat _ (by omega)]; exact hc.2.2.1, by rw [hat _ (by omega)]; exact hc.2.2.2, hk.2, hso.2⟩
end Go.Proofs.Ytohimbdmhljocaa

/- A tree in new memory: the walk. -/
namespace Go.Proofs.Ytohimbdmhljocaa
open Go.RowKit

theorem own_block {w w' : World} {B n size : Nat} {e : TypeId} {v : Value} {xs : List Value} (h : w.ownsRow B e size v n xs) (hb : ∀ k, v.ownBlock = some k → w'.heap[k]? = w.heap[k]?) : w'.ownsRow B e size v n xs := by
  refine ⟨h.1, ?_⟩
  rcases h.2 with hn | ⟨g, cap, cur, rfl, h1, hg, rest⟩
  · exact .inl hn
  · exact .inr ⟨g, cap, cur, rfl, h1, by rw [hb g rfl]; exact hg, rest⟩
theorem own_apart {w : World} {B B' n : Nat} {u v : Value} {xs : List Value} {es : List LEnt} (hu : w.ownsRow B 157 4 u n xs) (hv : OwnEnts w B' v es) : ∀ g, v.ownBlock = some g → u.ownBlock ≠ some g := by
  intro g h1 h2
  rcases hu.2 with ⟨rfl, _⟩ | ⟨g1, c1, cur1, rfl, _, hg1, _⟩
  · simp [Value.ownBlock] at h2
  · rcases hv.2 with ⟨rfl, _⟩ | ⟨g2, c2, cur2, rfl, _, hg2, _⟩
    · simp [Value.ownBlock] at h1
    · simp [Value.ownBlock] at h1 h2
      subst h1 h2
      rw [hg1] at hg2
      simp at hg2
theorem CopyAt.next {wr wf : World} {B j : Nat} {u u' : Value} {os : List LObj} {vs : Nat → Value} (h : CopyAt wr B u os vs j) {o : LObj} (ho : os[j]? = some o) {g1 c1 : Nat}
    (ha : ∀ k, k < wr.heap.size → B ≤ k → u.ownBlock ≠ some k → wf.heap[k]? = wr.heap[k]?) (hu : wf.ownsRow B 157 4 u' (j + 1) (objCells os vs j ++ [.int .i64 o.kind, .int .i64 o.ver, .string o.text, .slice (some ⟨g1, 0, none⟩) o.kids.length c1]))
    (hv : OwnEnts wf B (.slice (some ⟨g1, 0, none⟩) o.kids.length c1) o.kids) (hg : wr.heap.size ≤ g1) :
    CopyAt wf B u' os (fun i => if i = j then .slice (some ⟨g1, 0, none⟩) o.kids.length c1 else vs i) (j + 1) := by
  have hc : objCells os (fun i => if i = j then .slice (some ⟨g1, 0, none⟩) o.kids.length c1 else vs i) j = objCells os vs j := objCells_congr os j fun i hi => by simp [show i ≠ j by omega]
  refine ⟨?_, fun i p hi hp => ?_, fun i k g hi hk hik => ?_⟩
  · simp only [objCells, hc, ho, if_true]; exact hu
  · by_cases hij : i = j
    · subst hij
      obtain rfl : p = o := by rw [ho] at hp; simpa using hp.symm
      simp only [if_true]
      exact ⟨⟨g1, c1, rfl⟩, hv⟩
    · simp only [if_neg hij]
      obtain ⟨h1, h2⟩ := h.kids i p (by omega) hp
      exact ⟨h1, own_block h2 fun k hk => ha k (h2.lt k hk).2 (h2.lt k hk).1 (own_apart h.own h2 k hk)⟩
  · by_cases hij : i = j
    · subst hij
      have hkj : k ≠ i := fun e => hik e.symm
      simp only [if_true, if_neg hkj, Value.ownBlock]
      intro e1 e2
      simp at e1
      subst e1
      obtain ⟨p, hp⟩ : ∃ p, os[k]? = some p := ⟨os[k]'(by have := (List.getElem?_eq_some_iff.1 ho).1; omega), by simp⟩
      have := ((h.kids k p (by omega) hp).2.lt g1 e2).2
      omega
    · by_cases hkj : k = j
      · subst hkj
        simp only [if_true, if_neg hij, Value.ownBlock]
        intro e1 e2
        simp at e2
        subst e2
        obtain ⟨p, hp⟩ : ∃ p, os[i]? = some p := ⟨os[i]'(by have := (List.getElem?_eq_some_iff.1 ho).1; omega), by simp⟩
        have := ((h.kids i p (by omega) hp).2.lt g1 e1).2
        omega
      · simp only [if_neg hij, if_neg hkj]
        exact h.apart i k g (by omega) (by omega) hik

end Go.Proofs.Ytohimbdmhljocaa

/- append of numbers onto numbers that the call owns; putting a number among others. -/
namespace Go.Proofs.Ytohimbdmhljocaa
open Go.RowKit

theorem OwnInts.cut {w : World} {B g n cap k : Nat} {l : List Nat} (h : OwnInts w B (.slice (some ⟨g, 0, none⟩) n cap) l) (hn : n = l.length) (hk : k ≤ n) : OwnInts w B (.slice (some ⟨g, 0, none⟩) k cap) (l.take k) := by
  subst hn
  have hl : (l.take k).length = k := by simp; omega
  refine ⟨by simp, .inr ?_⟩
  rcases h.2 with ⟨h', _⟩ | ⟨g', cap', cur, h', hb, hg, hnc, hcm, hcs, htake⟩
  · simp at h'
  · simp only [Value.slice.injEq, Option.some.injEq, Addr.mk.injEq, and_true, true_and] at h'
    obtain ⟨rfl, rfl⟩ := h'
    refine ⟨g, cap, cur, by rw [hl], hb, hg, by omega, hcm, hcs, ?_⟩
    have e2 : cur.toList.take (k * 1) = (cur.toList.take (l.length * 1)).take k := by rw [List.take_take]; congr 1; omega
    rw [hl, e2, htake, List.map_take]
/-- Where a number goes among others; the list with it. -/
def placeI (x : Nat) (l : List Nat) : Nat := (l.takeWhile fun y => decide (y < x)).length
def putI (x : Nat) (l : List Nat) : List Nat := if l[placeI x l]? = some x then l else l.take (placeI x l) ++ [x] ++ l.drop (placeI x l)
end Go.Proofs.Ytohimbdmhljocaa

/- Putting a number among others that ascend: the walk. -/
namespace Go.Proofs.Ytohimbdmhljocaa
open Go.RowKit

def PutIEnd (w : World) (B g : Nat) (x : Nat) (l : List Nat) (e : Ending) (w' : World) : Prop := ∃ g' n' cap', e = .returned (.slice (some ⟨g', 0, none⟩) n' cap') ∧ n' = (putI x l).length ∧ OwnInts w' B (.slice (some ⟨g', 0, none⟩) n' cap') (putI x l) ∧ w.grownBy w' (some g)
/-- The same; the row is the old one or a new one. -/
def PutIEndF (w : World) (B g : Nat) (x : Nat) (l : List Nat) (e : Ending) (w' : World) : Prop := ∃ g' n' cap', e = .returned (.slice (some ⟨g', 0, none⟩) n' cap') ∧ n' = (putI x l).length ∧ OwnInts w' B (.slice (some ⟨g', 0, none⟩) n' cap') (putI x l) ∧ w.grownBy w' (some g) ∧ (g' = g ∨ w.heap.size ≤ g')
theorem PutIEndF.plain {w w' : World} {B g x : Nat} {l : List Nat} {e : Ending} (h : PutIEndF w B g x l e w') : PutIEnd w B g x l e w' := by
  obtain ⟨g', n', cap', h1, h2, h3, h4, _⟩ := h
  exact ⟨g', n', cap', h1, h2, h3, h4⟩
end Go.Proofs.Ytohimbdmhljocaa

/- The numbers that what is done names. -/
namespace Go.Proofs.Ytohimbdmhljocaa
open Go.RowKit

end Go.Proofs.Ytohimbdmhljocaa

/- What is done: the numbers that it names, by the program's set. -/
namespace Go.Proofs.Ytohimbdmhljocaa
open Go.RowKit

/-! Numbers that ascend: two such lists with the same members are one. -/
end Go.Proofs.Ytohimbdmhljocaa

/- Whether something that is named was turned as often as can be. -/
namespace Go.Proofs.Ytohimbdmhljocaa
open Go.RowKit

theorem OwnInts.form {w : World} {B : Nat} {v : Value} {l : List Nat} (h : OwnInts w B v l) : ∃ a c, v = .slice a l.length c ∧ ∀ i, i < l.length → ∃ g k, a = some ⟨g, 0, none⟩ ∧ B ≤ g ∧ g < w.heap.size ∧ l[i]? = some k ∧ w.cell? ⟨g, i, none⟩ = some (.int .i64 (k : Nat)) := by
  by_cases hl : l = []
  · subst hl
    obtain ⟨a, c, rfl⟩ := h.nil
    exact ⟨a, c, rfl, fun i hi => by simp at hi⟩
  · obtain ⟨g, c, rfl, h1, h2, h3⟩ := h.get hl
    refine ⟨_, c, rfl, fun i hi => ?_⟩
    obtain ⟨k, hk, hc⟩ := h3 i hi
    exact ⟨g, k, rfl, h1, h2, hk, hc⟩

end Go.Proofs.Ytohimbdmhljocaa

/- Logs: the numbers that a list names, of the program and of the specification. -/
namespace Go.Proofs.Ytohimbdmhljocaa
open Go.RowKit

/-! The plain function. -/
/-! The program's set grows. -/
end Go.Proofs.Ytohimbdmhljocaa

/- Logs: the numbers that a list names, of the specification. -/
namespace Go.Proofs.Ytohimbdmhljocaa
open Go.RowKit

end Go.Proofs.Ytohimbdmhljocaa

/- Lists of numbers as answers: compared, marked, held. -/
namespace Go.Proofs.Ytohimbdmhljocaa
open Go.RowKit

end Go.Proofs.Ytohimbdmhljocaa

/- Logs: what is ok, of the program. -/
namespace Go.Proofs.Ytohimbdmhljocaa
open Go.RowKit

/-- Numbers that are looked at only. -/
def IntsAt (w : World) (L U : Nat) (a : Option Addr) (n : Nat) (l : List Nat) : Prop := n = l.length ∧ ∀ i, i < n → ∃ g k, a = some ⟨g, 0, none⟩ ∧ L ≤ g ∧ g < U ∧ l[i]? = some k ∧ w.cell? ⟨g, i, none⟩ = some (.int .i64 (k : Nat))
theorem OwnInts.at_ {w : World} {B : Nat} {v : Value} {l : List Nat} (h : OwnInts w B v l) : ∃ a c, v = .slice a l.length c ∧ IntsAt w B w.heap.size a l.length l := by
  obtain ⟨a, c, rfl, hc⟩ := h.form
  exact ⟨a, c, rfl, rfl, fun i hi => by
    obtain ⟨g, k, h1, h2, h3, h4, h5⟩ := hc i hi
    exact ⟨g, k, h1, h2, h3, h4, h5⟩⟩
theorem IntsAt.below {w w' : World} {L U B : Nat} {a : Option Addr} {n : Nat} {l : List Nat} (h : IntsAt w L U a n l) (hb : Below B w w') (hU : U ≤ B) : IntsAt w' L U a n l := ⟨h.1, fun i hi => by
  obtain ⟨g, k, h1, h2, h3, h4, h5⟩ := h.2 i hi
  exact ⟨g, k, h1, h2, h3, h4, by rw [hb.cell (by simp; omega)]; exact h5⟩⟩

end Go.Proofs.Ytohimbdmhljocaa

/- All names of all directories as one list; where something is at home, and the way up: contracts of the specification. -/
namespace Go.Proofs.Ytohimbdmhljocaa
open Go.RowKit

end Go.Proofs.Ytohimbdmhljocaa

/- How often each object is named: the contract of the specification. -/
namespace Go.Proofs.Ytohimbdmhljocaa
open Go.RowKit

end Go.Proofs.Ytohimbdmhljocaa

/- What is ok of a tree: the contract of the specification. -/
namespace Go.Proofs.Ytohimbdmhljocaa
open Go.RowKit

end Go.Proofs.Ytohimbdmhljocaa

/- The nodes of a layout, and what names say, as plain functions. -/
namespace Go.Proofs.Ytohimbdmhljocaa
open Go.RowKit

/-- What the first j nodes of a layout hold: the objects, with these homes and names. -/
def LayF (w : World) (L U : Nat) (os : List LObj) (f : Nat → Value) (j : Nat) (h : Nat → Int) (nm : Nat → ByteArray) : Prop :=
  ∀ i, i < j → ∃ o ka kn kc, os[i]? = some o ∧ f (i * 6) = .int .i64 o.kind ∧ f (i * 6 + 1) = .int .i64 o.ver ∧ f (i * 6 + 2) = .int .i64 (h i) ∧ f (i * 6 + 3) = .string (nm i) ∧ f (i * 6 + 4) = .string o.text ∧ f (i * 6 + 5) = .slice ka kn kc ∧ EntsAt w L U ka kn o.kids
end Go.Proofs.Ytohimbdmhljocaa

/- Each node is told its home: the contract of settle. -/
namespace Go.Proofs.Ytohimbdmhljocaa
open Go.RowKit

end Go.Proofs.Ytohimbdmhljocaa

/- One comes to the top from all: the contract of comeToTop. -/
namespace Go.Proofs.Ytohimbdmhljocaa
open Go.RowKit

end Go.Proofs.Ytohimbdmhljocaa

/- What the program asks of a tree is what the specification asks. -/
namespace Go.Proofs.Ytohimbdmhljocaa

end Go.Proofs.Ytohimbdmhljocaa

/- The contract of layOut: a layout of the tree, just if it is ok. -/
namespace Go.Proofs.Ytohimbdmhljocaa
open Go.RowKit

theorem LayF.below {w w' : World} {L U : Nat} {os : List LObj} {f : Nat → Value} {j : Nat} {h : Nat → Int} {nm : Nat → ByteArray} (hf : LayF w L U os f j h nm) {B : Nat} (hb : Below B w w') (hU : U ≤ B) : LayF w' L U os f j h nm := by
  intro i hi
  obtain ⟨o, ka, kn, kc, ho, q0, q1, q2, q3, q4, q5, hk⟩ := hf i hi
  exact ⟨o, ka, kn, kc, ho, q0, q1, q2, q3, q4, q5, hk.below hb hU⟩
end Go.Proofs.Ytohimbdmhljocaa

/- Home and under: contracts of the program and of the specification. -/
namespace Go.Proofs.Ytohimbdmhljocaa
open Go.RowKit

/-- The one tree lies boxed behind what was there. -/
structure One (w wx : World) (v : Value) : Prop where
  below : Below w.heap.size w wx
  c0 : wx.cell? ⟨w.heap.size, 0, none⟩ = some v
  size : w.heap.size < wx.heap.size
theorem One.next {w wx wy : World} {v : Value} (h : One w wx v) (k : Below wx.heap.size wx wy) : One w wy v :=
  ⟨h.below.trans (k.mono h.below.size), by rw [k.cell (by have := h.size; simp; omega)]; exact h.c0, by have := k.size; have := h.size; omega⟩
theorem One.drew {w wx : World} {v : Value} (h : One w wx v) : One w wx.drew v := h.next (Below.refl _ _).drew
end Go.Proofs.Ytohimbdmhljocaa
