/- Servers: the last logs, in memory; contracts of the law's szShop, toShop, eqShop. -/
import Derived.Test.YtdjffkiiglilnaaLogB
import Derived.Deep.Strs
namespace Go.Proofs.Ytdjffkiiglilnaa
open Go.RowKit Go.ChangeShapes Go.WideShapes

structure LDone where
  who : Int
  seq : Int
  code : Int
/-- What a slice of last logs is. -/
structure DonesAt (w : World) (L U : Nat) (a : Option Addr) (n : Nat) (bs : List LDone) : Prop where
  len : n = bs.length
  bd : n ≤ maxLen
  at_ : n ≠ 0 → ∃ b off, a = some ⟨b, off, none⟩ ∧ L ≤ b ∧ b < U ∧ ∀ i, i < n → ∃ e, bs[i]? = some e ∧ w.cell? ⟨b, off + i * 3, none⟩ = some (.int .i64 e.who) ∧ w.cell? ⟨b, off + i * 3 + 1, none⟩ = some (.int .i64 e.seq) ∧ w.cell? ⟨b, off + i * 3 + 2, none⟩ = some (.int .i64 e.code)
theorem DonesAt.blocks {w w' : World} {L U : Nat} {a : Option Addr} {n : Nat} {es : List LDone} (h : DonesAt w L U a n es) (hb : ∀ b, L ≤ b → b < U → w'.heap[b]? = w.heap[b]?) : DonesAt w' L U a n es :=
  ⟨h.len, h.bd, fun hn => by
    obtain ⟨b, off, ha, hL, hbU, hc⟩ := h.at_ hn
    refine ⟨b, off, ha, hL, hbU, fun i hi => ?_⟩
    obtain ⟨e, he, h0, h1, h2⟩ := hc i hi
    have hk := hb b hL hbU
    exact ⟨e, he, by rw [World.cell?_of_block (w := w) hk]; exact h0, by rw [World.cell?_of_block (w := w) hk]; exact h1, by rw [World.cell?_of_block (w := w) hk]; exact h2⟩⟩
theorem DonesAt.below {w w' : World} {L U B : Nat} {a : Option Addr} {n : Nat} {es : List LDone} (h : DonesAt w L U a n es) (hb : Below B w w') (hU : U ≤ B) : DonesAt w' L U a n es := h.blocks fun b _ hbU => hb.block b (by omega)
theorem DonesAt.wide {w : World} {L U L' U' : Nat} {a : Option Addr} {n : Nat} {es : List LDone} (h : DonesAt w L U a n es) (hL' : L' ≤ L) (hU : U ≤ U') : DonesAt w L' U' a n es :=
  ⟨h.len, h.bd, fun hn => by
    obtain ⟨b, off, ha, hL, hbU, hc⟩ := h.at_ hn
    exact ⟨b, off, ha, by omega, by omega, hc⟩⟩

section
variable {H : Type} {enc : TypeId × Value → H} {w : World} {spare : Nat → Bool} {held : Bool}
theorem list3 {α : Type} {l : List α} (h : l.length = 3) : ∃ a b c, l = [a, b, c] := by
  match l, h with
  | [a, b, c], _ => exact ⟨a, b, c, rfl⟩
theorem open_done_cells {fuel : Nat} {v0 v1 v2 : Value} {x : DataW H × List MemPlace} (h : DataW.trod enc Try.prog w 0 spare held fuel 148 [v0, v1, v2] = some x) :
    ∃ d : LDone, v0 = .int .i64 d.who ∧ v1 = .int .i64 d.seq ∧ v2 = .int .i64 d.code := by
  have c3 : Try.prog.cellsOf 3 = 1 := by kernel_rfl
  obtain ⟨y0, y1, y2, n, _, _, t0, t1, t2⟩ := Go.Deep.trod_struct3 Try.underlying148 h
  simp [c3] at t0 t1 t2
  obtain ⟨k0, e0, _, _⟩ := DataW.trod_int Try.underlying3 t0
  obtain ⟨k1, e1, _, _⟩ := DataW.trod_int Try.underlying3 t1
  obtain ⟨k2, e2, _, _⟩ := DataW.trod_int Try.underlying3 t2
  simp at e0 e1 e2
  exact ⟨⟨k0, k1, k2⟩, e0, e1, e2⟩
theorem open_dones {fuel : Nat} {v : Value} {x : DataW H × List MemPlace} (h : DataW.trod enc Try.prog w 0 spare held fuel 68 [v] = some x) :
    ∃ a n c es, v = .slice a n c ∧ DonesAt w 0 w.heap.size a n es := by
  have ce : Try.prog.cellsOf 148 = 3 := by kernel_rfl
  rcases Go.Deep.open_slice Try.underlying68 h with ⟨hcs, _⟩ | ⟨a, len, cap, m, n, D, Pl, hcs, _, hl, hm, hmm, _, hx⟩
  · simp at hcs
    exact ⟨none, 0, 0, [], hcs, rfl, by simp, fun h => absurd rfl h⟩
  · simp at hcs
    have hlm : len ≤ m := by rw [hmm]; split <;> omega
    obtain ⟨es, hes, hp⟩ := list_of (n := len) (p := fun i (o : LDone) => w.cell? (a.add (i * 3)) = some (.int .i64 o.who) ∧ w.cell? (a.add (i * 3 + 1)) = some (.int .i64 o.seq) ∧ w.cell? (a.add (i * 3 + 2)) = some (.int .i64 o.code)) (fun i hi => by
      obtain ⟨cs', h1, h2⟩ := hx i (by omega)
      rw [ce] at h1
      obtain ⟨_, hlen, hcell⟩ := World.cells?_some h1
      obtain ⟨v0, v1, v2, rfl⟩ := list3 hlen
      obtain ⟨o, rfl, rfl, rfl⟩ := open_done_cells h2
      have g0 := hcell 0 (by omega)
      have g1 := hcell 1 (by omega)
      have g2 := hcell 2 (by omega)
      rw [Go.Deep.add_add] at g0 g1 g2
      exact ⟨o, by simpa using g0, by simpa using g1, by simpa using g2⟩)
    refine ⟨some a, len, cap, es, hcs, hes.symm, by omega, fun hn => ?_⟩
    obtain ⟨b, off, spot⟩ := a
    obtain ⟨_, _, c0, _⟩ := hp 0 (by omega)
    have hspot : spot = none := by simpa [Addr.add] using World.cell?_spot c0
    subst hspot
    refine ⟨b, off, rfl, Nat.zero_le _, by have := cell_lt c0; simpa [Addr.add] using this, fun i hi => ?_⟩
    obtain ⟨o, ho, q0, q1, q2⟩ := hp i hi
    exact ⟨o, ho, by rw [← addr_add]; exact q0, by rw [Nat.add_assoc, ← addr_add]; exact q1, by rw [Nat.add_assoc, ← addr_add]; exact q2⟩
theorem array2 {α : Type} {l : Array α} (h : l.size = 2) : ∃ a b, l = #[a, b] := by
  obtain ⟨l⟩ := l
  match l, h with
  | [a, b], _ => exact ⟨a, b, rfl⟩
set_option maxRecDepth 100000 in
theorem open_shop {r : Reach} {b0 : Nat} {v : Value} {d : DataW H} {p : List MemPlace} (hv : Value.okWide Try.prog w r b0 70 v) (h : DataW.Trod enc Try.prog w 0 spare held 70 v d p) :
    ∃ a n c os a' n' c' ds, v = .agg #[.slice a n c, .slice a' n' c'] ∧ ObjsAt w 0 w.heap.size a n os ∧ DonesAt w 0 w.heap.size a' n' ds := by
  have c48 : Try.prog.cellsOf 48 = 1 := by kernel_rfl
  have c68 : Try.prog.cellsOf 68 = 1 := by kernel_rfl
  have c46 : Try.prog.cellsOf 46 = 1 := by kernel_rfl
  obtain ⟨cs, rfl, hsz⟩ := okWide_struct Try.underlying70 hv
  obtain ⟨v0, v1, rfl⟩ := array2 (hsz.trans (by kernel_rfl))
  obtain ⟨fuel, hf⟩ := h
  obtain ⟨y0, y1, n', _, _, t0, t1⟩ := trod_struct2 Try.underlying70 hf
  simp [c48, c68, Value.cells] at t0 t1
  obtain ⟨z0, n2, _, _, t2⟩ := trod_struct1 Try.underlying48 t0
  simp [c46] at t2
  obtain ⟨a, n, c, os, rfl, hO⟩ := open_objs t2
  obtain ⟨a', n', c', ds, rfl, hD⟩ := open_dones t1
  exact ⟨a, n, c, os, a', n', c', ds, rfl, hO, hD⟩
end

theorem szDoneS_any (a : Option Addr) (n c : Nat) (es : List LDone) (L U : Nat) (left : Int) (w : World) (h0 : 0 ≤ left) (h1 : left ≤ 1048576) (H : DonesAt w L U a n es) :
    Calls Try.prog 81 #[.slice a n c, .int .i64 left] w fun e w' => (∃ r : Int, e = .returned (.int .i64 r) ∧ (r = -1 ∨ (0 ≤ r ∧ r = left - n))) ∧ Below w.heap.size w w' := by
  have hbd := H.bd
  unfold maxLen at hbd
  by_cases h : left - n < 0
  · go_enter Try.func81, Try.ntmps81
    go_wp2
    go_ret
    exact ⟨⟨-1, rfl, .inl rfl⟩, Below.refl _ _⟩
  · go_enter Try.func81, Try.ntmps81
    go_wp2
    go_ret
    exact ⟨⟨_, rfl, .inr ⟨by omega, rfl⟩⟩, Below.refl _ _⟩

set_option maxHeartbeats 400000 in
theorem szShop_any (a : Option Addr) (n c : Nat) (os : List LObj) (a' : Option Addr) (n' c' : Nat) (ds : List LDone) (L U : Nat) (left : Int) (w : World) (h0 : 0 ≤ left) (h1 : left ≤ 1048576) (hU : U ≤ w.heap.size) (HO : ObjsAt w L U a n os) (HD : DonesAt w L U a' n' ds) :
    Calls Try.prog 37 #[.agg #[.slice a n c, .slice a' n' c'], .int .i64 left] w fun e w' => (∃ r : Int, e = .returned (.int .i64 r) ∧ (r = -1 ∨ (0 ≤ r ∧ r = left - n - totT os - n'))) ∧ Below w.heap.size w w' := by
  go_enter Try.func37, Try.ntmps37
  go_wp2_with fail
  have hA : Below w.heap.size w (w.alloc (Obj.cells #[.slice a n c, .slice a' n' c'] 70)) := (Below.refl _ _).alloc (Nat.le_refl _) _
  refine (szTree_any _ _ _ _ L U _ _ h0 h1 (by simp; omega) (HO.below hA hU)).mono ?_
  rintro x w1 ⟨⟨r, rfl, hr⟩, hb⟩
  have HR : Hid (r = -1 ∨ 0 ≤ r ∧ r = left - n - totT os) := hr
  clear hr
  have hb' : Below w.heap.size w w1 := hA.trans (hb.mono (by simp))
  have c3 : w1.cell? ⟨w.heap.size, 1, none⟩ = some (.slice a' n' c') := by rw [hb.cell (by simp)]; simp [go_sem]
  have hs1 := hb'.size
  by_cases hneg : r < 0
  · go_wp2_with fail
    go_ret
    exact ⟨⟨-1, rfl, .inl rfl⟩, hb'⟩
  · go_wp2_with fail
    refine (szDoneS_any _ _ _ _ L U _ _ (by omega) (by have := HR.out; omega) (HD.below hb' hU)).mono ?_
    rintro x w2 ⟨⟨r2, rfl, hr2⟩, hb2⟩
    have HR2 : Hid (r2 = -1 ∨ 0 ≤ r2 ∧ r2 = r - n') := hr2
    clear hr2
    have hb2' : Below w.heap.size w w2 := hb'.trans (hb2.mono hs1)
    by_cases hneg2 : r2 < 0
    · go_wp2_with fail
      go_ret
      exact ⟨⟨-1, rfl, .inl rfl⟩, hb2'⟩
    · go_wp2_with fail
      go_ret
      exact ⟨⟨r2, rfl, by have := HR.out; have := HR2.out; omega⟩, hb2'⟩

theorem toDone_any (i j k : Int) (w : World) :
    Calls Try.prog 113 #[.agg #[.int .i64 i, .int .i64 j, .int .i64 k]] w fun e w' => e = .returned (.agg #[.int .i64 i, .int .i64 j, .int .i64 k]) ∧ Below w.heap.size w w' := by
  go_enter Try.func113, Try.ntmps113
  go_wp2
  exact bodyPost_ret (v := .agg #[.int .i64 i, .int .i64 j, .int .i64 k]) (by simp [results, Try.results113, go_sem]) rfl ⟨rfl, by
    repeat (first | exact Below.refl _ _ | refine Below.setCell ?_ (by simp <;> omega) _ | refine Below.alloc ?_ (by simp <;> omega) _)⟩

theorem infoD : (Try.prog.info? 114).map (fun i => (i.zero.map (·.cells), i.size, i.bytes)) = some (some #[.int .i64 0, .int .i64 0, .int .i64 0], 3, 24) := by kernel_rfl

set_option maxHeartbeats 400000 in
theorem toDoneS_any (a : Option Addr) (n c : Nat) (es : List LDone) (L U : Nat) (w : World) (hn : n ≤ 1048576) (hU : U ≤ w.heap.size) (H : DonesAt w L U a n es) :
    Calls Try.prog 82 #[.slice a n c] w fun e w' => (∃ b, e = .returned (.slice (some ⟨b, 0, none⟩) n n) ∧ DonesAt w' w.heap.size w'.heap.size (some ⟨b, 0, none⟩) n es) ∧ Below w.heap.size w w' := by
  have hmk := run_make_many 61 114 _ 3 24 Try.underlying61 infoD n (by omega) (by omega)
  obtain ⟨f0, hf0⟩ := rowIs_many w #[.int .i64 0, .int .i64 0, .int .i64 0] (n * 3) 114
  have HF0 : Hid ((w.alloc (.cells (madeCells #[.int .i64 0, .int .i64 0, .int .i64 0] (n * 3)) 114)).rowIs w.heap.size 114 (n * 3) f0) := hf0
  clear hf0
  go_enter Try.func82, Try.ntmps82
  go_wp2
  go_loopg [4] n (fun k i wr => ∃ j : Nat, j ≤ n ∧ Hid (k = n - j) ∧ i = .int .i64 j ∧ (∃ f, Hid (wr.rowIs w.heap.size 114 (n * 3) f ∧ ∀ i, i < j → ∃ e, es[i]? = some e ∧ f (i * 3) = .int .i64 e.who ∧ f (i * 3 + 1) = .int .i64 e.seq ∧ f (i * 3 + 2) = .int .i64 e.code)) ∧ Below w.heap.size w wr)
  case atStart => exact ⟨0, Nat.zero_le _, by show _ = _; omega, rfl, ⟨f0, HF0.out, fun i hi => by omega⟩, (Below.refl _ _).alloc (Nat.le_refl _) _⟩
  case round =>
    obtain ⟨j, hj, hk, rfl, ⟨f, hf⟩, hb⟩ := hrel
    by_cases hlt : j < n
    · obtain ⟨b, off, ha, hL, hbU, hc⟩ := H.at_ (by omega)
      subst ha
      obtain ⟨e, he, hc0, hc1, hc2⟩ := hc j hlt
      rw [← hb.cell (by simp; omega)] at hc0 hc1 hc2
      have HE : Hid (es[j]? = some e) := he
      clear he hc
      go_wp2_with fail
      refine (toDone_any _ _ _ _).mono ?_
      rintro x w1 ⟨rfl, hb1⟩
      have hrow := hf.out.1.of_block (hb1.block w.heap.size hf.out.1.lt)
      have g0 := hrow.cell (i := j * 3) (by omega)
      have g1 := hrow.cell (i := j * 3 + 1) (by omega)
      have g2 := hrow.cell (i := j * 3 + 2) (by omega)
      have z0 := hrow.frozen (j * 3)
      have z1 := hrow.frozen (j * 3 + 1)
      have z2 := hrow.frozen (j * 3 + 2)
      have HR : Hid (w1.rowIs w.heap.size 114 (n * 3) f) := hrow
      clear hrow
      go_wp2_with fail
      go_roundg (n - (j + 1))
      case measure => have := hk.out; omega
      case rel =>
        refine ⟨j + 1, by omega, rfl, by go_num, ⟨_, ((HR.out.set (j * 3) (.int .i64 e.who)).set (j * 3 + 1) (.int .i64 e.seq)).set (j * 3 + 2) (.int .i64 e.code), fun i hi => ?_⟩, (((hb.trans (hb1.mono hb.size)).setCell (by simp) _).setCell (by simp) _).setCell (by simp) _⟩
        by_cases hij : i = j
        · subst hij
          exact ⟨e, HE.out, by simp, by simp, by simp⟩
        · obtain ⟨e', he', q0, q1, q2⟩ := hf.out.2 i (by omega)
          refine ⟨e', he', ?_, ?_, ?_⟩
          · show (if i * 3 = j * 3 + 2 then _ else if i * 3 = j * 3 + 1 then _ else if i * 3 = j * 3 then _ else f (i * 3)) = _
            rw [if_neg (by omega), if_neg (by omega), if_neg (by omega)]; exact q0
          · show (if i * 3 + 1 = j * 3 + 2 then _ else if i * 3 + 1 = j * 3 + 1 then _ else if i * 3 + 1 = j * 3 then _ else f (i * 3 + 1)) = _
            rw [if_neg (by omega), if_neg (by omega), if_neg (by omega)]; exact q1
          · show (if i * 3 + 2 = j * 3 + 2 then _ else if i * 3 + 2 = j * 3 + 1 then _ else if i * 3 + 2 = j * 3 then _ else f (i * 3 + 2)) = _
            rw [if_neg (by omega), if_neg (by omega), if_neg (by omega)]; exact q2
    · go_wp2_with fail
      go_ret
      refine ⟨⟨w.heap.size, rfl, H.len, H.bd, fun hn0 => ⟨w.heap.size, 0, rfl, Nat.le_refl _, hf.out.1.lt, fun i hi => ?_⟩⟩, hb⟩
      obtain ⟨e', he', q0, q1, q2⟩ := hf.out.2 i (by omega)
      exact ⟨e', he', by rw [← q0, Nat.zero_add]; exact hf.out.1.cell (by omega), by rw [← q1, Nat.zero_add]; exact hf.out.1.cell (by omega), by rw [← q2, Nat.zero_add]; exact hf.out.1.cell (by omega)⟩

theorem EntsAt.blocks_ {w w' : World} {L U : Nat} {a : Option Addr} {n : Nat} {es : List LEnt} (h : EntsAt w L U a n es) (hb : ∀ b, L ≤ b → b < U → w'.heap[b]? = w.heap[b]?) : EntsAt w' L U a n es :=
  ⟨h.len, h.bd, fun hn => by
    obtain ⟨b, off, ha, hL, hbU, hc⟩ := h.at_ hn
    refine ⟨b, off, ha, hL, hbU, fun i hi => ?_⟩
    obtain ⟨e, he, hs, h0, h1⟩ := hc i hi
    have hk := hb b hL hbU
    exact ⟨e, he, hs, by rw [World.cell?_of_block (w := w) hk]; exact h0, by rw [World.cell?_of_block (w := w) hk]; exact h1⟩⟩
theorem ObjsAt.blocks_ {w w' : World} {L U : Nat} {a : Option Addr} {n : Nat} {os : List LObj} (h : ObjsAt w L U a n os) (hb : ∀ b, L ≤ b → b < U → w'.heap[b]? = w.heap[b]?) : ObjsAt w' L U a n os :=
  ⟨h.len, h.bd, fun hn => by
    obtain ⟨b, off, ha, hL, hbU, hc⟩ := h.at_ hn
    refine ⟨b, off, ha, hL, hbU, fun i hi => ?_⟩
    obtain ⟨o, ka, kn, kc, he, hs, h0, h1, h2, h3, hk⟩ := hc i hi
    have hk' := hb b hL hbU
    exact ⟨o, ka, kn, kc, he, hs, by rw [World.cell?_of_block (w := w) hk']; exact h0, by rw [World.cell?_of_block (w := w) hk']; exact h1, by rw [World.cell?_of_block (w := w) hk']; exact h2, by rw [World.cell?_of_block (w := w) hk']; exact h3, hk.blocks_ hb⟩⟩

set_option maxHeartbeats 400000 in
theorem toShop_any (a : Option Addr) (n c : Nat) (os : List LObj) (a' : Option Addr) (n' c' : Nat) (ds : List LDone) (L U : Nat) (w : World) (hn : n ≤ 1048576) (hS : Sizes os 1048576) (hn' : n' ≤ 1048576) (hU : U ≤ w.heap.size) (HO : ObjsAt w L U a n os) (HD : DonesAt w L U a' n' ds) :
    Calls Try.prog 39 #[.agg #[.slice a n c, .slice a' n' c']] w fun e w' => (∃ b b', e = .returned (.agg #[.slice (some ⟨b, 0, none⟩) n n, .slice (some ⟨b', 0, none⟩) n' n']) ∧ ObjsAt w' w.heap.size w'.heap.size (some ⟨b, 0, none⟩) n os ∧ DonesAt w' w.heap.size w'.heap.size (some ⟨b', 0, none⟩) n' ds) ∧ Below w.heap.size w w' := by
  go_enter Try.func39, Try.ntmps39
  go_wp2_with fail
  refine (toTree_any _ _ _ _ L U _ hn hS (by simp <;> omega) (HO.below ((((Below.refl _ _).alloc (Nat.le_refl _) _).alloc (by simp) _).alloc (by simp <;> omega) _) hU)).mono ?_
  rintro x w1 ⟨⟨b, rfl, hk⟩, hb⟩
  have hz : w.heap.size + 3 ≤ w1.heap.size := by have := hb.size; simp at this; omega
  have hb0 : Below w.heap.size w w1 := ((((Below.refl _ _).alloc (Nat.le_refl _) _).alloc (by simp) _).alloc (by simp <;> omega) _).trans (hb.mono (by simp <;> omega))
  have hk1 : ObjsAt w1 (w.heap.size + 3) w1.heap.size (some ⟨b, 0, none⟩) n os := hk.wide (by simp) (Nat.le_refl _)
  obtain ⟨hc, hf⟩ := bcell hb
  have p3 : w1.cell? ⟨w.heap.size, 1, none⟩ = some (.slice a' n' c') := by rw [hc _ _ (by simp <;> omega)]; simp [go_sem]
  have r0 : w1.cell? ⟨w.heap.size + 1, 0, none⟩ = some (.slice none 0 0) := by rw [hc _ _ (by simp <;> omega)]; simp [go_sem]
  have r1 : w1.cell? ⟨w.heap.size + 1, 1, none⟩ = some (.slice none 0 0) := by rw [hc _ _ (by simp <;> omega)]; simp [go_sem]
  have q0 : w1.cell? ⟨w.heap.size + 1 + 1, 0, none⟩ = some (.slice none 0 0) := by rw [hc _ _ (by simp)]; simp [go_sem]
  have q1 : w1.cell? ⟨w.heap.size + 1 + 1, 1, none⟩ = some (.slice none 0 0) := by rw [hc _ _ (by simp)]; simp [go_sem]
  have y1 : ∀ o, w1.frozen? ⟨w.heap.size + 1, o, none⟩ = false := fun o => by rw [hf _ _ (by simp <;> omega)]; simp [go_sem]
  have y2 : ∀ o, w1.frozen? ⟨w.heap.size + 1 + 1, o, none⟩ = false := fun o => by rw [hf _ _ (by simp)]; simp [go_sem]
  clear hc hf hb hk
  go_wp2_with fail
  refine (toDoneS_any _ _ _ _ L U _ hn' (by simp <;> omega) (HD.below (hb0.setCell (by simp <;> omega) _) hU)).mono ?_
  rintro x w2 ⟨⟨b', rfl, hk2⟩, hb2⟩
  obtain ⟨hc, hf⟩ := bcell hb2
  have hz2 : w1.heap.size ≤ w2.heap.size := by have := hb2.size; simp at this; omega
  have e0 := hc (w.heap.size + 1) 0 (by simp <;> omega)
  have e1 := hc (w.heap.size + 1) 1 (by simp <;> omega)
  have d0 := hc (w.heap.size + 1 + 1) 0 (by simp <;> omega)
  have d1 := hc (w.heap.size + 1 + 1) 1 (by simp <;> omega)
  have x1 : ∀ o, w2.frozen? ⟨w.heap.size + 1, o, none⟩ = false := fun o => by rw [hf _ _ (by simp <;> omega)]; simp [go_sem, y1]
  have x2 : ∀ o, w2.frozen? ⟨w.heap.size + 1 + 1, o, none⟩ = false := fun o => by rw [hf _ _ (by simp <;> omega)]; simp [go_sem, y2]
  simp [go_sem, r0, r1, q0, q1] at e0 e1 d0 d1
  have hb3 : Below w.heap.size w w2 := (hb0.setCell (p := ⟨w.heap.size + 1 + 1, 0, none⟩) (by simp <;> omega) (.slice (some ⟨b, 0, none⟩) n n)).trans (hb2.mono (by simp <;> omega))
  have hk3 : ObjsAt w2 (w.heap.size + 3) w1.heap.size (some ⟨b, 0, none⟩) n os := hk1.blocks_ fun k h1 h2 => by
    rw [hb2.block k (by simp <;> omega)]
    exact Below.heap_setCell _ _ _ k (by simp <;> omega)
  have hk4 : DonesAt w2 (w.heap.size + 3) w2.heap.size (some ⟨b', 0, none⟩) n' ds := hk2.wide (by simp <;> omega) (Nat.le_refl _)
  clear hc hf hb2 hk1 hk2 p3 r0 r1 q0 q1 y1 y2
  go_wp2_with fail
  refine bodyPost_ret (v := .agg #[.slice (some ⟨b, 0, none⟩) n n, .slice (some ⟨b', 0, none⟩) n' n']) (by simp [results, Try.results39, go_sem, e0, e1]) rfl ⟨⟨b, b', rfl, ?_, ?_⟩, ?_⟩
  · refine ObjsAt.wide (L := w.heap.size + 3) (U := w1.heap.size) ?_ (by omega) (by simp <;> omega)
    refine hk3.blocks_ fun k h1 h2 => ?_
    iterate 3 refine (Below.heap_setCell _ _ _ k (by simp <;> omega)).trans ?_
    rfl
  · refine DonesAt.wide (L := w.heap.size + 3) (U := w2.heap.size) ?_ (by omega) (by simp)
    refine hk4.blocks fun k h1 h2 => ?_
    iterate 3 refine (Below.heap_setCell _ _ _ k (by simp <;> omega)).trans ?_
    rfl
  · repeat (first | exact hb3 | refine Below.setCell ?_ (by simp <;> omega) _)

theorem eqDone_same (i j k : Int) (w : World) :
    Calls Try.prog 111 #[.agg #[.int .i64 i, .int .i64 j, .int .i64 k], .agg #[.int .i64 i, .int .i64 j, .int .i64 k]] w fun e w' => e = .returned (.bool true) ∧ Below w.heap.size w w' := by
  go_enter Try.func111, Try.ntmps111
  go_wp2
  go_ret
  exact ⟨by simp, ((Below.refl _ _).alloc (Nat.le_refl _) _).alloc (by simp) _⟩

set_option maxHeartbeats 800000 in
theorem eqDoneS_same (a a' : Option Addr) (n c c' : Nat) (es : List LDone) (L U L' U' : Nat) (w : World) (hU : U ≤ w.heap.size) (hU' : U' ≤ w.heap.size) (H : DonesAt w L U a n es) (H' : DonesAt w L' U' a' n es) :
    Calls Try.prog 77 #[.slice a n c, .slice a' n c'] w fun e w' => e = .returned (.bool true) ∧ Below w.heap.size w w' := by
  have hbd := H.bd
  unfold maxLen at hbd
  go_enter Try.func77, Try.ntmps77
  go_wp2_with fail
  go_loopg [5] n (fun k i wr => ∃ j : Nat, j ≤ n ∧ Hid (k = n - j) ∧ i = .int .i64 j ∧ Below w.heap.size w wr)
  case atStart => exact ⟨0, Nat.zero_le _, rfl, rfl, Below.refl _ _⟩
  case round =>
    obtain ⟨j, hj, hk, rfl, hb⟩ := hrel
    by_cases hlt : j < n
    · obtain ⟨b, off, ha, hL, hbU, hc⟩ := H.at_ (by omega)
      obtain ⟨b', off', ha', hL', hbU', hc'⟩ := H'.at_ (by omega)
      subst ha ha'
      obtain ⟨x, he, c0, c1, c2⟩ := hc j hlt
      obtain ⟨y, he2, d0, d1, d2⟩ := hc' j hlt
      obtain rfl : x = y := by rw [he] at he2; simpa using he2
      rw [← hb.cell (by simp <;> omega)] at c0 c1 c2 d0 d1 d2
      have hlt' : (j : Int) < (n : Int) := by omega
      have HEQ := eqDone_same x.who x.seq x.code
      clear he he2 hc hc'
      go_wp2_with fail
      go_region_with (go_at_call 111; go_must (refine (HEQ _).mono ?_; rintro e w1 ⟨rfl, hb1⟩))
      all_goals
        go_wp2_with fail
        go_roundg (n - (j + 1))
        case measure => have := hk.out; omega
        case rel => exact ⟨j + 1, by omega, rfl, by go_num, hb.trans ((Below.refl _ _).drew.trans (hb1.mono (by simp)) |>.mono hb.size)⟩
    · obtain rfl : j = n := by omega
      go_wp2_with fail
      go_ret
      exact ⟨rfl, hb⟩

set_option maxHeartbeats 800000 in
theorem eqShop_same (a : Option Addr) (n c : Nat) (a' : Option Addr) (n' c' : Nat) (a2 : Option Addr) (c2 : Nat) (a2' : Option Addr) (c2' : Nat) (os : List LObj) (ds : List LDone) (L U L' U' L2 U2 L2' U2' : Nat) (w : World) (hU : U ≤ w.heap.size) (hU' : U' ≤ w.heap.size) (hU2 : U2 ≤ w.heap.size) (hU2' : U2' ≤ w.heap.size) (HO : ObjsAt w L U a n os) (HD : DonesAt w L' U' a' n' ds) (HO2 : ObjsAt w L2 U2 a2 n os) (HD2 : DonesAt w L2' U2' a2' n' ds) :
    Calls Try.prog 34 #[.agg #[.slice a n c, .slice a' n' c'], .agg #[.slice a2 n c2, .slice a2' n' c2']] w fun e w' => e = .returned (.bool true) ∧ Below w.heap.size w w' := by
  have hA : ∀ o1 o2 : Obj, Below w.heap.size w ((w.alloc o1).alloc o2) := fun o1 o2 => ((Below.refl _ _).alloc (Nat.le_refl _) _).alloc (by simp) _
  go_enter Try.func34, Try.ntmps34
  go_wp2_with fail
  refine (eqTree_same _ _ _ _ _ _ L U L2 U2 _ (by simp <;> omega) (by simp <;> omega) (HO.below (hA _ _) hU) (HO2.below (hA _ _) hU2)).mono ?_
  rintro x w1 ⟨rfl, hb1⟩
  have hb2 : Below w.heap.size w w1 := (hA _ _).trans (hb1.mono (by simp <;> omega))
  have hz := hb2.size
  have p3 : w1.cell? ⟨w.heap.size, 1, none⟩ = some (.slice a' n' c') := by rw [hb1.cell (by simp <;> omega)]; simp [go_sem]
  have p4 : w1.cell? ⟨w.heap.size + 1, 1, none⟩ = some (.slice a2' n' c2') := by rw [hb1.cell (by simp)]; simp [go_sem]
  clear hb1
  go_wp2_with fail
  refine (eqDoneS_same _ _ _ _ _ _ L' U' L2' U2' _ (by omega) (by omega) (HD.below hb2 hU') (HD2.below hb2 hU2')).mono ?_
  rintro x w2 ⟨rfl, hb3⟩
  go_wp2_with fail
  go_ret
  exact ⟨rfl, hb2.trans (hb3.mono hz)⟩
end Go.Proofs.Ytdjffkiiglilnaa
