/- Lemmas that the proofs of this seat share: WldS, WldT, WldE, Facts, MapW. -/
import Derived.Test.YtohimbdmhljocaaV02
import Derived.Test.YtohimbdmhljocaaRows
import Derived.ProofKit
import Derived.WideKeyEntry
import Derived.DeepKeys4
import Derived.MapViews
import Derived.Maps.Keyed
import Derived.MapKept
import Derived.MapFrom
import Derived.Maps.Range
import Derived.Laws.IdiomMaps
import Derived.Deep.RegionHeld
import Derived.OrdersHeld
/- Sizes of lists of what has parts of its own, of clients, messages, logs, worlds. -/
namespace Go.Proofs.Ytohimbdmhljocaa
open Go.RowKit Go.ChangeShapes Go.WideShapes

def OpsSm (l : List LOp) : Prop := l.length ≤ 1048576
theorem szOpsE (a : Option Addr) (n c : Nat) (l : List LOp) (L U : Nat) (left : Int) (w : World) (h0 : 0 ≤ left) (h1 : left ≤ 1048576) (hU : U ≤ w.heap.size) (H : OpsAt w L U a n l) :
    Calls Try.prog 64 #[.slice a n c, .int .i64 left] w fun e w' => (∃ r : Int, e = .returned (.int .i64 r) ∧ (r = -1 ∨ (0 ≤ r ∧ r ≤ left ∧ OpsSm l))) ∧ Below w.heap.size w w' :=
  (szOpS_any a n c l L U left w h0 h1 hU H).mono fun e w' ⟨⟨r, h, h2⟩, hb⟩ => ⟨⟨r, h, by
    have := H.len
    unfold OpsSm
    omega⟩, hb⟩

set_option maxHeartbeats 1000000 in
theorem szOpSS_any (a : Option Addr) (n c : Nat) (xs : List (List LOp)) (L U : Nat) (left : Int) (w : World) (h0 : 0 ≤ left) (h1 : left ≤ 1048576) (hU : U ≤ w.heap.size) (H : RowsAt 1 OpsE w L U a n xs) :
    Calls Try.prog 119 #[.slice a n c, .int .i64 left] w fun e w' => (∃ r : Int, e = .returned (.int .i64 r) ∧ (r = -1 ∨ (0 ≤ r ∧ r ≤ left ∧ n ≤ 1048576 ∧ ∀ x ∈ xs, OpsSm x))) ∧ Below w.heap.size w w' := by
  have hbd := H.bd
  unfold maxLen at hbd
  by_cases h : left - n < 0
  · go_enter Try.func119, Try.ntmps119
    go_wp2
    go_ret
    exact ⟨⟨-1, rfl, .inl rfl⟩, Below.refl _ _⟩
  · go_enter Try.func119, Try.ntmps119
    go_wp2
    go_loopg [1, 5] n (fun k l i wr => ∃ j : Nat, j ≤ n ∧ Hid (k = n - j) ∧ i = .int .i64 j ∧ (∃ r : Int, l = .int .i64 r ∧ 0 ≤ r ∧ r ≤ 1048576 ∧ Hid (r ≤ left) ∧ Hid (∀ x ∈ xs.take j, OpsSm x)) ∧ Below w.heap.size w wr)
    case atStart => exact ⟨0, Nat.zero_le _, by show _ = _; omega, rfl, ⟨_, rfl, by omega, by omega, by show _ ≤ _; omega, by show ∀ _, _; simp⟩, Below.refl _ _⟩
    case round =>
      obtain ⟨j, hj, hk, rfl, ⟨r, rfl, hr0, hr1, hrl, hsm⟩, hb⟩ := hrel
      by_cases hlt : j < n
      · obtain ⟨b, off, ha, hL, hbU, hc⟩ := H.at_ (by omega)
        subst ha
        obtain ⟨x, vs, he, hc, hE⟩ := hc j hlt
        have HE : Hid (xs[j]? = some x) := he
        clear he
        obtain ⟨oa, on, oc, rfl, hO⟩ := hE
        have c0 := hc 0 _ rfl
        simp only [Nat.add_zero, Nat.mul_one] at c0
        rw [← hb.cell (by simp; omega)] at c0
        clear hc
        go_wp2_with fail
        refine (szOpsE _ _ _ _ L U _ _ hr0 hr1 (by have := hb.size; omega) (hO.below hb hU)).mono ?_
        rintro y w1 ⟨⟨r1, rfl, hr1'⟩, hb1⟩
        have HR : Hid (r1 = -1 ∨ 0 ≤ r1 ∧ r1 ≤ r ∧ OpsSm x) := hr1'
        clear hr1'
        by_cases hneg : r1 < 0
        · go_wp2_with fail
          go_ret
          exact ⟨⟨-1, rfl, .inl rfl⟩, hb.trans (hb1.mono hb.size)⟩
        · go_wp2_with fail
          go_roundg (n - (j + 1))
          case measure => have := hk.out; omega
          case rel =>
            have h2 := HR.out
            have h4 := hrl.out
            refine ⟨j + 1, by omega, rfl, by go_num, ⟨r1, rfl, by omega, by omega, by show _ ≤ _; omega, ?_⟩, hb.trans (hb1.mono hb.size)⟩
            show ∀ z ∈ xs.take (j + 1), OpsSm z
            intro z hz
            have hjl : j < xs.length := (List.getElem?_eq_some_iff.1 HE.out).1
            rw [List.take_succ_eq_append_getElem hjl] at hz
            rcases List.mem_append.1 hz with hz | hz
            · exact hsm.out z hz
            · obtain rfl : z = xs[j] := by simpa using hz
              have e : xs[j] = x := (List.getElem?_eq_some_iff.1 HE.out).2
              rw [e]
              rcases h2 with h2 | h2
              · omega
              · exact h2.2.2
      · go_wp2_with fail
        go_ret
        have h4 := hrl.out
        have h5 := hsm.out
        rw [List.take_of_length_le (by have := H.len; omega)] at h5
        exact ⟨⟨r, rfl, .inr ⟨hr0, h4, by omega, h5⟩⟩, hb⟩

structure LogSm (l : LLog) : Prop where
  bases : l.bases.length ≤ 1048576
  list : l.list.length ≤ 1048576
theorem szLogE (q s : Int) (a : Option Addr) (n c : Nat) (a' : Option Addr) (n' c' : Nat) (l : LLog) (L U : Nat) (left : Int) (w : World) (h0 : 0 ≤ left) (h1 : left ≤ 1048576) (hU : U ≤ w.heap.size) (H : LogAt w L U q s a n a' n' l) :
    Calls Try.prog 20 #[.agg #[.int .i64 q, .int .i64 s, .slice a n c, .slice a' n' c'], .int .i64 left] w fun e w' => (∃ r : Int, e = .returned (.int .i64 r) ∧ (r = -1 ∨ (0 ≤ r ∧ r ≤ left ∧ LogSm l))) ∧ Below w.heap.size w w' :=
  (szLog_any q s a n c a' n' c' l L U left w h0 h1 hU H).mono fun e w' ⟨⟨r, h, h2⟩, hb⟩ => ⟨⟨r, h, by
    rcases h2 with h2 | h2
    · exact .inl h2
    · have := H.b.len
      have := H.o.len
      exact .inr ⟨h2.1, by omega, by omega, by omega⟩⟩, hb⟩

set_option maxHeartbeats 1000000 in
theorem szLogS_any (a : Option Addr) (n c : Nat) (xs : List LLog) (L U : Nat) (left : Int) (w : World) (h0 : 0 ≤ left) (h1 : left ≤ 1048576) (hU : U ≤ w.heap.size) (H : RowsAt 4 LogE w L U a n xs) :
    Calls Try.prog 6 #[.slice a n c, .int .i64 left] w fun e w' => (∃ r : Int, e = .returned (.int .i64 r) ∧ (r = -1 ∨ (0 ≤ r ∧ r ≤ left ∧ n ≤ 1048576 ∧ ∀ x ∈ xs, LogSm x))) ∧ Below w.heap.size w w' := by
  have hbd := H.bd
  unfold maxLen at hbd
  by_cases h : left - n < 0
  · go_enter Try.func6, Try.ntmps6
    go_wp2
    go_ret
    exact ⟨⟨-1, rfl, .inl rfl⟩, Below.refl _ _⟩
  · go_enter Try.func6, Try.ntmps6
    go_wp2
    go_loopg [1, 5] n (fun k l i wr => ∃ j : Nat, j ≤ n ∧ Hid (k = n - j) ∧ i = .int .i64 j ∧ (∃ r : Int, l = .int .i64 r ∧ 0 ≤ r ∧ r ≤ 1048576 ∧ Hid (r ≤ left) ∧ Hid (∀ x ∈ xs.take j, LogSm x)) ∧ Below w.heap.size w wr)
    case atStart => exact ⟨0, Nat.zero_le _, by show _ = _; omega, rfl, ⟨_, rfl, by omega, by omega, by show _ ≤ _; omega, by show ∀ _, _; simp⟩, Below.refl _ _⟩
    case round =>
      obtain ⟨j, hj, hk, rfl, ⟨r, rfl, hr0, hr1, hrl, hsm⟩, hb⟩ := hrel
      by_cases hlt : j < n
      · obtain ⟨b, off, ha, hL, hbU, hc⟩ := H.at_ (by omega)
        subst ha
        obtain ⟨x, vs, he, hc, hE⟩ := hc j hlt
        have HE : Hid (xs[j]? = some x) := he
        clear he
        obtain ⟨q, s, a1, n1, c1', a2, n2, c2', rfl, hL4⟩ := hE
        have c0 := hc 0 _ rfl
        have c1 := hc 1 _ rfl
        have c2 := hc 2 _ rfl
        have c3 := hc 3 _ rfl
        simp only [Nat.add_zero] at c0
        rw [← hb.cell (by simp; omega)] at c0 c1 c2 c3
        clear hc
        go_wp2_with fail
        refine (szLogE _ _ _ _ _ _ _ _ _ L U _ _ hr0 hr1 (by have := hb.size; omega) (hL4.below hb hU)).mono ?_
        rintro y w1 ⟨⟨r1, rfl, hr1'⟩, hb1⟩
        have HR : Hid (r1 = -1 ∨ 0 ≤ r1 ∧ r1 ≤ r ∧ LogSm x) := hr1'
        clear hr1'
        by_cases hneg : r1 < 0
        · go_wp2_with fail
          go_ret
          exact ⟨⟨-1, rfl, .inl rfl⟩, hb.trans (hb1.mono hb.size)⟩
        · go_wp2_with fail
          go_roundg (n - (j + 1))
          case measure => have := hk.out; omega
          case rel =>
            have h2 := HR.out
            have h4 := hrl.out
            refine ⟨j + 1, by omega, rfl, by go_num, ⟨r1, rfl, by omega, by omega, by show _ ≤ _; omega, ?_⟩, hb.trans (hb1.mono hb.size)⟩
            show ∀ z ∈ xs.take (j + 1), LogSm z
            intro z hz
            have hjl : j < xs.length := (List.getElem?_eq_some_iff.1 HE.out).1
            rw [List.take_succ_eq_append_getElem hjl] at hz
            rcases List.mem_append.1 hz with hz | hz
            · exact hsm.out z hz
            · obtain rfl : z = xs[j] := by simpa using hz
              have e : xs[j] = x := (List.getElem?_eq_some_iff.1 HE.out).2
              rw [e]
              rcases h2 with h2 | h2
              · omega
              · exact h2.2.2
      · go_wp2_with fail
        go_ret
        have h4 := hrl.out
        have h5 := hsm.out
        rw [List.take_of_length_le (by have := H.len; omega)] at h5
        exact ⟨⟨r, rfl, .inr ⟨hr0, h4, by omega, h5⟩⟩, hb⟩

end Go.Proofs.Ytohimbdmhljocaa

/- Copies of lists of what has parts of its own, of clients, messages, logs, worlds. -/
namespace Go.Proofs.Ytohimbdmhljocaa
open Go.RowKit Go.ChangeShapes Go.WideShapes

theorem hidMk {p : Prop} (h : p) : Hid p := h
/-- A box of one's own: its cells one by one. -/
def BoxI (W : World) (p : Nat) (t : TypeId) (vs : List Value) : Prop := W.rowIs p t vs.length fun i => vs[i]?.getD default
theorem BoxI.new {W : World} {A : Array Value} {t : TypeId} {p : Nat} (hp : p = W.heap.size) : BoxI (W.alloc (.cells A t)) p t A.toList := by
  subst hp
  have h := World.rowIs_alloc W A t (fun i => A.toList[i]?.getD default) (fun i hi => by simp [hi])
  exact h
theorem BoxI.lt {W : World} {p : Nat} {t : TypeId} {vs : List Value} (h : BoxI W p t vs) : p < W.heap.size := World.rowIs.lt h
theorem BoxI.alloc {W : World} {p : Nat} {t : TypeId} {vs : List Value} (h : BoxI W p t vs) (o : Obj) : BoxI (W.alloc o) p t vs := World.rowIs.alloc h o
theorem BoxI.set {W : World} {p : Nat} {t : TypeId} {vs : List Value} (h : BoxI W p t vs) (k : Nat) (v : Value) : BoxI (W.setCell ⟨p, k, none⟩ v) p t (vs.set k v) := by
  unfold BoxI
  rw [List.length_set]
  refine (World.rowIs.set h k v).congr fun i hi => ?_
  rw [List.getElem?_set]
  by_cases e : i = k
  · subst e
    simp [hi]
  · rw [if_neg e, if_neg (fun h => e h.symm)]
theorem BoxI.get {W : World} {p : Nat} {t : TypeId} {vs : List Value} (h : BoxI W p t vs) (k : Nat) (v : Value) (hk : vs[k]? = some v) : W.cell? ⟨p, k, none⟩ = some v := by
  have hl : k < vs.length := (List.getElem?_eq_some_iff.1 hk).1
  have := World.rowIs.cell h hl
  rw [hk] at this
  exact this
theorem infoOpSS : (Try.prog.info? 64).map (fun i => (i.zero.map (·.cells), i.size, i.bytes)) = some (some #[.slice none 0 0], 1, 24) := by kernel_rfl
set_option maxHeartbeats 2000000 in
theorem toOpSS_any (a : Option Addr) (n c : Nat) (xs : List (List LOp)) (L U : Nat) (w : World) (hn : n ≤ 1048576) (hS : ∀ x ∈ xs, OpsSm x) (hU : U ≤ w.heap.size) (H : RowsAt 1 OpsE w L U a n xs) :
    Calls Try.prog 123 #[.slice a n c] w fun e w' => (∃ b, e = .returned (.slice (some ⟨b, 0, none⟩) n n) ∧ RowsAt 1 OpsE w' w.heap.size w'.heap.size (some ⟨b, 0, none⟩) n xs) ∧ Below w.heap.size w w' := by
  have hmk := run_make_many 74 64 _ 1 24 Try.underlying74 infoOpSS n (by omega) (by omega)
  obtain ⟨f0, hf0⟩ := rowIs_many w #[.slice none 0 0] n 64
  have HF0 : Hid ((w.alloc (.cells (madeCells #[.slice none 0 0] n) 64)).rowIs w.heap.size 64 n f0) := hf0
  clear hf0
  go_enter Try.func123, Try.ntmps123
  go_wp2
  go_loopg [4] n (fun k i wr => ∃ j : Nat, j ≤ n ∧ Hid (k = n - j) ∧ i = .int .i64 j ∧ (∃ f, Hid (wr.rowIs w.heap.size 64 n f ∧ ∀ i, i < j → ∃ x vs, xs[i]? = some x ∧ vs.length = 1 ∧ (∀ k v, vs[k]? = some v → f (i * 1 + k) = v) ∧ OpsE wr (w.heap.size + 1) wr.heap.size vs x)) ∧ Below w.heap.size w wr)
  case atStart => exact ⟨0, Nat.zero_le _, by show _ = _; omega, rfl, ⟨f0, HF0.out, fun i hi => by omega⟩, (Below.refl _ _).alloc (Nat.le_refl _) _⟩
  case round =>
    obtain ⟨j, hj, hk, rfl, ⟨f, hf⟩, hb⟩ := hrel
    by_cases hlt : j < n
    · obtain ⟨b, off, ha, hL, hbU, hc⟩ := H.at_ (by omega)
      subst ha
      obtain ⟨x, vs, he, hc, hE⟩ := hc j hlt
      have hsx : OpsSm x := hS x (List.mem_of_getElem? he)
      have HE : Hid (xs[j]? = some x) := he
      clear he
      obtain ⟨oa, on, oc, rfl, hO⟩ := hE
      have c0 := hc 0 _ rfl
      simp only [Nat.add_zero, Nat.mul_one] at c0
      rw [← hb.cell (by simp; omega)] at c0
      clear hc
      have hrl := hf.out.1.lt
      go_wp2_with fail
      refine (toOpS_any _ _ _ _ L U _ (by have := hO.len; have := hsx; unfold OpsSm at this; omega) (by have := hb.size; omega) (hO.below hb hU)).mono ?_
      rintro y w1 ⟨⟨ob, rfl, hke⟩, hb1⟩
      have hrow := hf.out.1.of_block (hb1.block w.heap.size hf.out.1.lt)
      have g0 := hrow.cell (i := j) (by omega)
      have z0 := hrow.frozen (j)
      have HR : Hid (w1.rowIs w.heap.size 64 n f) := hrow
      clear hrow
      go_wp2_with fail
      go_roundg (n - (j + 1))
      case measure => have := hk.out; omega
      case rel =>
        have hbs := hb1.size
        refine ⟨j + 1, by omega, rfl, by go_num, ⟨_, (HR.out.set (j) (.slice (some ⟨ob, 0, none⟩) on on)), fun i hi => ?_⟩, ((hb.trans (hb1.mono hb.size)).setCell (by simp) _)⟩
        by_cases hij : i = j
        · subst hij
          refine ⟨x, [.slice (some ⟨ob, 0, none⟩) on on], HE.out, rfl, fun k v hv => ?_, ?_⟩
          · have hkk : k < 1 := (List.getElem?_eq_some_iff.1 hv).1
            have hcase : k = 0 := by omega
            subst hcase
            simp at hv ⊢; exact hv
          · refine eltOps.blocks (w := w1) (⟨_, _, _, rfl, hke.wide (by omega) (by simp)⟩) fun b h1 h2 => ?_
            iterate 1 refine (Below.heap_setCell _ _ _ b (by simp; omega)).trans ?_
            rfl
        · obtain ⟨x', vs', he', hl', q0, qk⟩ := hf.out.2 i (by omega)
          refine ⟨x', vs', he', hl', fun k v hv => ?_, ?_⟩
          · have hkk : k < 1 := by rw [← hl']; exact (List.getElem?_eq_some_iff.1 hv).1
            have hd := q0 k v hv
            show (if i * 1 + k = j then _ else f (i * 1 + k)) = v
            rw [if_neg (by omega)]
            exact hd
          · refine eltOps.wide (eltOps.blocks (eltOps.below qk hb1 (Nat.le_refl _)) fun b h1 h2 => ?_) (Nat.le_refl _) (by simp <;> omega)
            iterate 1 refine (Below.heap_setCell _ _ _ b (by simp; omega)).trans ?_
            rfl
    · go_wp2_with fail
      go_ret
      refine ⟨⟨w.heap.size, rfl, H.len, H.bd, fun hn0 => ⟨w.heap.size, 0, rfl, Nat.le_refl _, hf.out.1.lt, fun i hi => ?_⟩⟩, hb⟩
      obtain ⟨x', vs', he', hl', q0, qk⟩ := hf.out.2 i (by omega)
      refine ⟨x', vs', he', fun k v hv => ?_, eltOps.wide qk (by omega) (Nat.le_refl _)⟩
      have hkk : k < 1 := by rw [← hl']; exact (List.getElem?_eq_some_iff.1 hv).1
      rw [Nat.zero_add, hf.out.1.cell (by omega), q0 k v hv]

theorem infoLogS : (Try.prog.info? 66).map (fun i => (i.zero.map (·.cells), i.size, i.bytes)) = some (some #[.int .i64 0, .int .i64 0, .slice none 0 0, .slice none 0 0], 4, 64) := by kernel_rfl
set_option maxHeartbeats 2000000 in
theorem toLogS_any (a : Option Addr) (n c : Nat) (xs : List LLog) (L U : Nat) (w : World) (hn : n ≤ 1048576) (hS : ∀ x ∈ xs, LogSm x) (hU : U ≤ w.heap.size) (H : RowsAt 4 LogE w L U a n xs) :
    Calls Try.prog 8 #[.slice a n c] w fun e w' => (∃ b, e = .returned (.slice (some ⟨b, 0, none⟩) n n) ∧ RowsAt 4 LogE w' w.heap.size w'.heap.size (some ⟨b, 0, none⟩) n xs) ∧ Below w.heap.size w w' := by
  have hmk := run_make_many 25 66 _ 4 64 Try.underlying25 infoLogS n (by omega) (by omega)
  obtain ⟨f0, hf0⟩ := rowIs_many w #[.int .i64 0, .int .i64 0, .slice none 0 0, .slice none 0 0] (n * 4) 66
  have HF0 : Hid ((w.alloc (.cells (madeCells #[.int .i64 0, .int .i64 0, .slice none 0 0, .slice none 0 0] (n * 4)) 66)).rowIs w.heap.size 66 (n * 4) f0) := hf0
  clear hf0
  go_enter Try.func8, Try.ntmps8
  go_wp2
  go_loopg [4] n (fun k i wr => ∃ j : Nat, j ≤ n ∧ Hid (k = n - j) ∧ i = .int .i64 j ∧ (∃ f, Hid (wr.rowIs w.heap.size 66 (n * 4) f ∧ ∀ i, i < j → ∃ x vs, xs[i]? = some x ∧ vs.length = 4 ∧ (∀ k v, vs[k]? = some v → f (i * 4 + k) = v) ∧ LogE wr (w.heap.size + 1) wr.heap.size vs x)) ∧ Below w.heap.size w wr)
  case atStart => exact ⟨0, Nat.zero_le _, by show _ = _; omega, rfl, ⟨f0, HF0.out, fun i hi => by omega⟩, (Below.refl _ _).alloc (Nat.le_refl _) _⟩
  case round =>
    obtain ⟨j, hj, hk, rfl, ⟨f, hf⟩, hb⟩ := hrel
    by_cases hlt : j < n
    · obtain ⟨b, off, ha, hL, hbU, hc⟩ := H.at_ (by omega)
      subst ha
      obtain ⟨x, vs, he, hc, hE⟩ := hc j hlt
      have hsx : LogSm x := hS x (List.mem_of_getElem? he)
      have HE : Hid (xs[j]? = some x) := he
      clear he
      obtain ⟨q, s, a1, n1, c1', a2, n2, c2', rfl, hL4⟩ := hE
      have c0 := hc 0 _ rfl
      have c1 := hc 1 _ rfl
      have c2 := hc 2 _ rfl
      have c3 := hc 3 _ rfl
      simp only [Nat.add_zero] at c0
      rw [← hb.cell (by simp; omega)] at c0 c1 c2 c3
      clear hc
      have hrl := hf.out.1.lt
      go_wp2_with fail
      refine (toLog_any _ _ _ _ _ _ _ _ x L U _ (by have := hL4.b.len; have := hsx.bases; omega) (by have := hL4.o.len; have := hsx.list; omega) (by have := hb.size; omega) (hL4.below hb hU)).mono ?_
      rintro y w1 ⟨⟨lb, lb2, rfl, hke⟩, hb1⟩
      have hrow := hf.out.1.of_block (hb1.block w.heap.size hf.out.1.lt)
      have g0 := hrow.cell (i := j * 4) (by omega)
      have z0 := hrow.frozen (j * 4)
      have g1 := hrow.cell (i := j * 4 + 1) (by omega)
      have z1 := hrow.frozen (j * 4 + 1)
      have g2 := hrow.cell (i := j * 4 + 2) (by omega)
      have z2 := hrow.frozen (j * 4 + 2)
      have g3 := hrow.cell (i := j * 4 + 3) (by omega)
      have z3 := hrow.frozen (j * 4 + 3)
      have HR : Hid (w1.rowIs w.heap.size 66 (n * 4) f) := hrow
      clear hrow
      go_wp2_with fail
      go_roundg (n - (j + 1))
      case measure => have := hk.out; omega
      case rel =>
        have hbs := hb1.size
        refine ⟨j + 1, by omega, rfl, by go_num, ⟨_, ((((HR.out.set (j * 4) (.int .i64 q)).set (j * 4 + 1) (.int .i64 s)).set (j * 4 + 2) (.slice (some ⟨lb, 0, none⟩) n1 n1)).set (j * 4 + 3) (.slice (some ⟨lb2, 0, none⟩) n2 n2)), fun i hi => ?_⟩, (((((hb.trans (hb1.mono hb.size)).setCell (by simp) _).setCell (by simp) _).setCell (by simp) _).setCell (by simp) _)⟩
        by_cases hij : i = j
        · subst hij
          refine ⟨x, [.int .i64 q, .int .i64 s, .slice (some ⟨lb, 0, none⟩) n1 n1, .slice (some ⟨lb2, 0, none⟩) n2 n2], HE.out, rfl, fun k v hv => ?_, ?_⟩
          · have hkk : k < 4 := (List.getElem?_eq_some_iff.1 hv).1
            have hcase : k = 0 ∨ k = 1 ∨ k = 2 ∨ k = 3 := by omega
            rcases hcase with rfl | rfl | rfl | rfl
            all_goals (simp at hv ⊢; exact hv)
          · refine eltLog.blocks (w := w1) (⟨_, _, _, _, _, _, _, _, rfl, hke.wide (by omega) (by simp)⟩) fun b h1 h2 => ?_
            iterate 4 refine (Below.heap_setCell _ _ _ b (by simp; omega)).trans ?_
            rfl
        · obtain ⟨x', vs', he', hl', q0, qk⟩ := hf.out.2 i (by omega)
          refine ⟨x', vs', he', hl', fun k v hv => ?_, ?_⟩
          · have hkk : k < 4 := by rw [← hl']; exact (List.getElem?_eq_some_iff.1 hv).1
            have hd := q0 k v hv
            show (if i * 4 + k = j * 4 + 3 then _ else if i * 4 + k = j * 4 + 2 then _ else if i * 4 + k = j * 4 + 1 then _ else if i * 4 + k = j * 4 then _ else f (i * 4 + k)) = v
            rw [if_neg (by omega)]
            rw [if_neg (by omega)]
            rw [if_neg (by omega)]
            rw [if_neg (by omega)]
            exact hd
          · refine eltLog.wide (eltLog.blocks (eltLog.below qk hb1 (Nat.le_refl _)) fun b h1 h2 => ?_) (Nat.le_refl _) (by simp <;> omega)
            iterate 4 refine (Below.heap_setCell _ _ _ b (by simp; omega)).trans ?_
            rfl
    · go_wp2_with fail
      go_ret
      refine ⟨⟨w.heap.size, rfl, H.len, H.bd, fun hn0 => ⟨w.heap.size, 0, rfl, Nat.le_refl _, hf.out.1.lt, fun i hi => ?_⟩⟩, hb⟩
      obtain ⟨x', vs', he', hl', q0, qk⟩ := hf.out.2 i (by omega)
      refine ⟨x', vs', he', fun k v hv => ?_, eltLog.wide qk (by omega) (Nat.le_refl _)⟩
      have hkk : k < 4 := by rw [← hl']; exact (List.getElem?_eq_some_iff.1 hv).1
      rw [Nat.zero_add, hf.out.1.cell (by omega), q0 k v hv]

end Go.Proofs.Ytohimbdmhljocaa

/- Lists of what has parts of its own, clients, messages, logs, worlds: told as one. -/
namespace Go.Proofs.Ytohimbdmhljocaa
open Go.RowKit Go.ChangeShapes Go.WideShapes

set_option maxHeartbeats 2000000 in
theorem eqOpSS_same (a a' : Option Addr) (n c c' : Nat) (xs : List (List LOp)) (L U L' U' : Nat) (w : World) (hU : U ≤ w.heap.size) (hU' : U' ≤ w.heap.size) (H : RowsAt 1 OpsE w L U a n xs) (H' : RowsAt 1 OpsE w L' U' a' n xs) :
    Calls Try.prog 114 #[.slice a n c, .slice a' n c'] w fun e w' => e = .returned (.bool true) ∧ Below w.heap.size w w' := by
  have hbd := H.bd
  unfold maxLen at hbd
  go_enter Try.func114, Try.ntmps114
  go_wp2_with fail
  go_loopg [5] n (fun k i wr => ∃ j : Nat, j ≤ n ∧ Hid (k = n - j) ∧ i = .int .i64 j ∧ Below w.heap.size w wr)
  case atStart => exact ⟨0, Nat.zero_le _, by show _ = _; omega, rfl, Below.refl _ _⟩
  case round =>
    obtain ⟨j, hj, hk, rfl, hb⟩ := hrel
    by_cases hlt : j < n
    · obtain ⟨b, off, ha, hL, hbU, hc⟩ := H.at_ (by omega)
      obtain ⟨b', off', ha', hL', hbU', hc'⟩ := H'.at_ (by omega)
      subst ha ha'
      obtain ⟨x, vs, he, hc, hE⟩ := hc j hlt
      obtain ⟨x', vs', he2, hc', hE'⟩ := hc' j hlt
      obtain rfl : x = x' := by rw [he] at he2; simpa using he2
      obtain ⟨oa, on, oc, rfl, hO⟩ := hE
      obtain ⟨oa', on', oc', rfl, hO2⟩ := hE'
      obtain rfl : on = on' := by rw [hO.len, hO2.len]
      have c0 := hc 0 _ rfl
      simp only [Nat.add_zero, Nat.mul_one] at c0
      rw [← hb.cell (by simp; omega)] at c0
      have d0 := hc' 0 _ rfl
      simp only [Nat.add_zero, Nat.mul_one] at d0
      rw [← hb.cell (by simp; omega)] at d0
      have hlt' : (j : Int) < (n : Int) := by omega
      have hs1 := hb.size
      have hO := hO.below hb hU
      have hO2 := hO2.below hb hU'
      clear he he2 hc hc'
      go_wp2_with fail
      go_region_with (go_at_call 69; go_must (refine (eqOpS_same _ _ _ _ _ _ L U L' U' _ (by simp; omega) (by simp; omega) (hO.below (by repeat (first | exact Below.refl _ _ | refine Below.drew ?_)) (Nat.le_trans hU hs1)) (hO2.below (by repeat (first | exact Below.refl _ _ | refine Below.drew ?_)) (Nat.le_trans hU' hs1))).mono ?_; rintro e w1 ⟨rfl, hb1⟩))
      all_goals
        go_wp2_with fail
        go_roundg (n - (j + 1))
        case measure => have := hk.out; omega
        case rel => exact ⟨j + 1, by omega, rfl, by go_num, hb.trans (Below.trans (by repeat (first | exact Below.refl _ _ | refine Below.drew ?_)) (hb1.mono hb.size))⟩
    · obtain rfl : j = n := by omega
      go_wp2_with fail
      go_ret
      exact ⟨rfl, hb⟩

set_option maxHeartbeats 2000000 in
theorem eqLogS_same (a a' : Option Addr) (n c c' : Nat) (xs : List LLog) (L U L' U' : Nat) (w : World) (hU : U ≤ w.heap.size) (hU' : U' ≤ w.heap.size) (H : RowsAt 4 LogE w L U a n xs) (H' : RowsAt 4 LogE w L' U' a' n xs) :
    Calls Try.prog 10 #[.slice a n c, .slice a' n c'] w fun e w' => e = .returned (.bool true) ∧ Below w.heap.size w w' := by
  have hbd := H.bd
  unfold maxLen at hbd
  go_enter Try.func10, Try.ntmps10
  go_wp2_with fail
  go_loopg [5] n (fun k i wr => ∃ j : Nat, j ≤ n ∧ Hid (k = n - j) ∧ i = .int .i64 j ∧ Below w.heap.size w wr)
  case atStart => exact ⟨0, Nat.zero_le _, by show _ = _; omega, rfl, Below.refl _ _⟩
  case round =>
    obtain ⟨j, hj, hk, rfl, hb⟩ := hrel
    by_cases hlt : j < n
    · obtain ⟨b, off, ha, hL, hbU, hc⟩ := H.at_ (by omega)
      obtain ⟨b', off', ha', hL', hbU', hc'⟩ := H'.at_ (by omega)
      subst ha ha'
      obtain ⟨x, vs, he, hc, hE⟩ := hc j hlt
      obtain ⟨x', vs', he2, hc', hE'⟩ := hc' j hlt
      obtain rfl : x = x' := by rw [he] at he2; simpa using he2
      obtain ⟨q, s, a1, n1, c1', a2, n2, c2', rfl, hL4⟩ := hE
      obtain ⟨q', s', a1', n1', c1'', a2', n2', c2'', rfl, hM4⟩ := hE'
      obtain rfl : n1 = n1' := by rw [hL4.b.len, hM4.b.len]
      obtain rfl : n2 = n2' := by rw [hL4.o.len, hM4.o.len]
      obtain rfl : q = q' := by rw [hL4.q, hM4.q]
      obtain rfl : s = s' := by rw [hL4.s, hM4.s]
      have c0 := hc 0 _ rfl
      have c1 := hc 1 _ rfl
      have c2 := hc 2 _ rfl
      have c3 := hc 3 _ rfl
      simp only [Nat.add_zero] at c0
      rw [← hb.cell (by simp; omega)] at c0 c1 c2 c3
      have d0 := hc' 0 _ rfl
      have d1 := hc' 1 _ rfl
      have d2 := hc' 2 _ rfl
      have d3 := hc' 3 _ rfl
      simp only [Nat.add_zero] at d0
      rw [← hb.cell (by simp; omega)] at d0 d1 d2 d3
      have hlt' : (j : Int) < (n : Int) := by omega
      have hs1 := hb.size
      have hL4 := hL4.below hb hU
      have hM4 := hM4.below hb hU'
      clear he he2 hc hc'
      go_wp2_with fail
      go_region_with (go_at_call 24; go_must (refine (eqLog_same _ _ _ _ _ _ _ _ _ _ _ _ x L U L' U' _ (by simp; omega) (by simp; omega) (hL4.below (by repeat (first | exact Below.refl _ _ | refine Below.drew ?_)) (Nat.le_trans hU hs1)) (hM4.below (by repeat (first | exact Below.refl _ _ | refine Below.drew ?_)) (Nat.le_trans hU' hs1))).mono ?_; rintro e w1 ⟨rfl, hb1⟩))
      all_goals
        go_wp2_with fail
        go_roundg (n - (j + 1))
        case measure => have := hk.out; omega
        case rel => exact ⟨j + 1, by omega, rfl, by go_num, hb.trans (Below.trans (by repeat (first | exact Below.refl _ _ | refine Below.drew ?_)) (hb1.mono hb.size))⟩
    · obtain rfl : j = n := by omega
      go_wp2_with fail
      go_ret
      exact ⟨rfl, hb⟩

end Go.Proofs.Ytohimbdmhljocaa

/- The closed facts on the whole program, proved once. -/
namespace Go.Proofs.Ytohimbdmhljocaa
theorem fLaid : laidOutB Try.prog = true := by kernel_rfl
theorem fMaps : mapsRowed Try.prog = true := by kernel_rfl
theorem fStops : (Try.prog.stops == []) = true := by kernel_rfl
theorem fKnobs : (Try.prog.stopKnobs == []) = true := by kernel_rfl
theorem fKeys : (false == Try.prog.plainKeys) = true := by kernel_rfl
theorem fHeard : Try.prog.stopsHeard = true := by kernel_rfl

/-! The words of the program's head: the first three are what is asked; what comes behind them is left as it is. -/
def chars (l : List Nat) : List Char := l.map Char.ofNat
def w0 : List Nat := [104, 97, 114, 110, 101, 115, 115]
def w1 : List Nat := [56, 98, 100, 98, 101, 98, 53, 57, 56, 101, 56, 51, 53, 100, 97, 101, 51, 51, 50, 100, 56, 99, 101, 97, 55, 97, 101, 101, 57, 57, 53, 98, 100, 102, 49, 98, 98, 49, 55, 55, 50, 49, 49, 54, 99, 54, 51, 55, 98, 55, 97, 98, 56, 49, 51, 99, 48, 100, 56, 54, 99, 57, 57, 50]
def w2 : List Nat := [99, 117, 116]
def w3 : List Nat := [97, 116, 32, 108, 111, 111, 112, 46, 101, 120, 97, 109, 112, 108, 101, 47, 115, 104, 105, 101, 108, 105, 110, 103, 47, 108, 97, 119, 115, 46, 70, 110, 69, 120, 97, 99, 116, 84, 111, 108, 100, 72, 97, 115, 32, 108, 111, 111, 112, 46, 101, 120, 97, 109, 112, 108, 101, 47, 115, 104, 105, 101, 108, 105, 110, 103, 47, 108, 97, 119, 115, 46, 70, 110, 69, 120, 97, 99, 116, 87, 111, 114, 108, 100, 79, 112, 101, 110, 32, 108, 111, 111, 112, 46, 101, 120, 97, 109, 112, 108, 101, 47, 115, 104, 105, 101, 108, 105, 110, 103, 47, 108, 97, 119, 115, 46, 70, 110, 69, 120, 97, 99, 116, 87, 111, 114, 108, 100, 83, 97, 109, 101]
theorem signs_word : ∀ (l r : List Char), (l.all fun x => x.toNat != 32) = true → wordsSigns (l ++ Char.ofNat 32 :: r) = l :: wordsSigns r
  | [], r, _ => rfl
  | x :: l, r, h => by
    simp only [List.all_cons, Bool.and_eq_true, bne_iff_ne, ne_eq] at h
    have ih := signs_word l r h.2
    have hx : x ≠ Char.ofNat 32 := fun e => h.1 (by rw [e]; rfl)
    rw [List.cons_append, wordsSigns.eq_3 x _ (fun e => hx e), ih]
theorem head_chars : Try.prog.initOrder.toList = chars w0 ++ Char.ofNat 32 :: (chars w1 ++ Char.ofNat 32 :: (chars w2 ++ Char.ofNat 32 :: chars w3)) := by
  have h : (String.ofList (chars w0 ++ Char.ofNat 32 :: (chars w1 ++ Char.ofNat 32 :: (chars w2 ++ Char.ofNat 32 :: chars w3)))).toList = chars w0 ++ Char.ofNat 32 :: (chars w1 ++ Char.ofNat 32 :: (chars w2 ++ Char.ofNat 32 :: chars w3)) := String.toList_ofList
  exact (congrArg String.toList (show Try.prog.initOrder = String.ofList (chars w0 ++ Char.ofNat 32 :: (chars w1 ++ Char.ofNat 32 :: (chars w2 ++ Char.ofNat 32 :: chars w3))) by kernel_rfl)).trans h
theorem head_words : wordsSigns Try.prog.initOrder.toList = chars w0 :: chars w1 :: chars w2 :: wordsSigns (chars w3) := by
  rw [head_chars, signs_word _ _ (by kernel_rfl), signs_word _ _ (by kernel_rfl), signs_word _ _ (by kernel_rfl)]
theorem behind_main (h s : List Char) (r : List (List Char)) (e : ((h == "harness".toList || h == "ownmain".toList) && isSumSigns s) = true) : behindMainWord (h :: s :: r) = r := by
  unfold behindMainWord
  simp only [e, if_true]
theorem head_behind : ∃ ws, behindMainWord (wordsSigns Try.prog.initOrder.toList) = chars w2 :: ws :=
  ⟨_, by rw [head_words]; exact behind_main _ _ _ (by kernel_rfl)⟩
theorem lifts_of (c : List Char) (ws : List (List Char)) : ∀ (os : List String), (os.all fun o => !(c == o.toList)) = true → stripLifts os (c :: ws) = ([], c :: ws)
  | [], _ => rfl
  | o :: os, h => by
    simp only [List.all_cons, Bool.and_eq_true, Bool.not_eq_true'] at h
    unfold stripLifts
    rw [if_neg (by rw [h.1]; simp)]
    exact lifts_of c ws os h.2
theorem fLater : Try.prog.laysLater = false := by kernel_rfl
theorem fReflect : Try.prog.bearsReflect = false := by kernel_rfl
theorem fDoor : Try.prog.doorFits [] = true := by kernel_rfl
theorem lifts_head {P : Program} {c : List Char} {ws : List (List Char)} (hw : behindMainWord (wordsSigns P.initOrder.toList) = c :: ws) (hl : (liftWords.all fun o => !(c == o.toList)) = true) : P.headLifts = [] := by
  unfold Program.headLifts
  rw [hw, lifts_of c ws _ hl]
  simp only [ite_self]
theorem enter_of {P : Program} {c : List Char} {ws : List (List Char)} (hw : behindMainWord (wordsSigns P.initOrder.toList) = c :: ws) (hl : (liftWords.all fun o => !(c == o.toList)) = true)
    (hc : (some c == some "cut".toList) = true) (h1 : P.laysLater = false) (h2 : P.bearsReflect = false) (h3 : P.doorFits [] = true) : P.mayEnter = true := by
  unfold Program.mayEnter
  rw [hw]
  simp only [lifts_of c ws _ hl, h1, h2, h3, List.head?_cons, hc, List.contains_nil, Bool.not_false, Bool.or_true, Bool.and_true]
theorem final_of {P : Program} {c : List Char} {ws : List (List Char)} (hw : behindMainWord (wordsSigns P.initOrder.toList) = c :: ws) (hl : (liftWords.all fun o => !(c == o.toList)) = true)
    (hc : (some c == some "carried".toList) = false) : P.liftsFinal = false := by
  unfold Program.liftsFinal
  rw [lifts_head hw hl, hw]
  simp only [List.head?_cons, hc, Bool.false_and, List.contains_nil, Bool.or_false]
theorem make_of {P : Program} {c : List Char} {ws : List (List Char)} (hw : behindMainWord (wordsSigns P.initOrder.toList) = c :: ws)
    (h1 : (c == "gc".toList || c == "spec".toList) = false) (h2 : (c == "cut".toList) = true) : P.make = some .cut := by
  unfold Program.make
  rw [hw]
  simp only [h1, h2, Bool.true_or, if_true, Bool.false_eq_true, if_false]
theorem fEnter : Try.prog.mayEnter = true := by
  obtain ⟨ws, hw⟩ := head_behind
  exact enter_of hw (by kernel_rfl) (by kernel_rfl) fLater fReflect fDoor
theorem fFinal : (Rows.fnExactWorldOpenRow.lifted == Try.prog.liftsFinal) = true := by
  obtain ⟨ws, hw⟩ := head_behind
  rw [final_of hw (by kernel_rfl) (by kernel_rfl)]; rfl
theorem fMake : (Try.prog.make == some Rows.fnExactWorldOpenRow.make) = true := by
  obtain ⟨ws, hw⟩ := head_behind
  rw [make_of hw (by kernel_rfl) (by kernel_rfl)]; rfl
end Go.Proofs.Ytohimbdmhljocaa

/- How many logs there are of each client and number: the map of the program. -/
namespace Go.Proofs.Ytohimbdmhljocaa
open Go.RowKit Go.ChangeShapes Go.WideShapes
open Go.MapKept (Stamped)
open Go.ChangeMaps (setBlock)
set_option maxRecDepth 100000 in
theorem mkRow : (109 : TypeId) < Try.prog.types.size := of_decide_eq_true (by kernel_rfl)
set_option maxRecDepth 100000 in
theorem mkDeep : Try.prog.keyTypeAt (Try.prog.types.size + 1) 109 = true := by kernel_rfl
theorem mkCells : Try.prog.cellsOf 109 = 2 := by kernel_rfl
set_option maxRecDepth 100000 in
theorem mkWide : (match Try.prog.underlying 109 with | some (.array _ _) | some (.struct _) => true | _ => false) = true := by kernel_rfl
set_option maxRecDepth 100000 in
theorem mkLaw : Go.WideMaps.KeyLaw Try.prog 109 := deep_law_laid fLaid (m := 2) (by omega) mkRow (by kernel_rfl) mkWide
set_option maxRecDepth 100000 in
theorem mkFormed {c0 c1 : Value} : (Value.agg #[c0, c1]).formed Try.prog 109 = true := by simp [Value.formed, Try.underlying109, mkCells]
def ownV (q s : Int) : Value := .agg #[.int .i64 q, .int .i64 s]
def Fits (q : Int) : Prop := (Lit.int .i64 q).wf = true

set_option maxRecDepth 100000 in
theorem key_lit {q s : Int} (hq : Fits q) (hs : Fits s) : ∃ kl, keyOf Try.prog 109 (ownV q s) = some kl := by
  have c3 : Try.prog.cellsOf 3 = 1 := by kernel_rfl
  have h := trod_struct2_mk (H := Unit) (enc := fun _ => ()) (w := default) (base := 0) (spare := fun _ => true) (held := false) (n := 1) (cs := [.int .i64 q, .int .i64 s]) Try.underlying109 (by simp [mkCells]) (by simp [c3]; exact trod_int_mk 0 Try.underlying3 hq) (by simp [c3]; exact trod_int_mk 0 Try.underlying3 hs)
  exact ⟨_, (keyOf_asKey mkDeep mkWide (v := ownV q s) mkFormed ⟨_, h⟩).1⟩
/-- The map behind the first j logs. -/
structure CM (es : Array MapEntry) (clock : Nat) (p : List LLog) (j : Nat) : Prop where
  st : Stamped es clock
  ks : ∀ x ∈ es.toList, ∃ q s, x.key = ownV q s ∧ Fits q ∧ Fits s
  vs : ∀ x ∈ es.toList, ∃ n : Nat, x.val = .int .i64 n ∧ 1 ≤ n ∧ n ≤ j
  has : ∀ q s, (∃ x ∈ es.toList, x.key = ownV q s) ↔ ∃ k l, k < j ∧ p[k]? = some l ∧ l.who = q ∧ l.seq = s
def Keys (es : Array MapEntry) : Prop := ∀ x ∈ es.toList, ∃ l, keyOf Try.prog 109 x.key = some l
theorem CM.keys {es : Array MapEntry} {clock : Nat} {p : List LLog} {j : Nat} (h : CM es clock p j) : Keys es := fun x hx => by
  obtain ⟨q, s, e, hq, hs⟩ := h.ks x hx
  rw [e]; exact key_lit hq hs
theorem look_any {W : World} {b : Nat} {es : Array MapEntry} {clock : Nat} {q s : Int} (hb : W.heap[b]? = some (.map es clock)) (hk : Keys es) (hq : Fits q) (hs : Fits s) :
    ((Instr.lookup 69 (.map (some b)) (ownV q s) false).run Try.prog W = .ok (.int .i64 0) W ∧ ∀ x ∈ es.toList, x.key ≠ ownV q s) ∨ ∃ (i : Nat) (e : MapEntry), es.toList[i]? = some e ∧ e.key = ownV q s ∧ (Instr.lookup 69 (.map (some b)) (ownV q s) false).run Try.prog W = .ok e.val W := by
  obtain ⟨kl, hkey⟩ := key_lit hq hs
  rcases mkLaw.find W hkey es.toList hk with ⟨h1, h2⟩ | ⟨i, e, h1, h2, h3⟩
  · exact .inl ⟨by simp [Instr.lookup, run_underlying Try.underlying69, MapKept.run_getObj_map hb, mkLaw.check W es.isEmpty hkey, h1, Result.andThen], h2⟩
  · exact .inr ⟨i, e, h2, h3, by simp [Instr.lookup, run_underlying Try.underlying69, MapKept.run_getObj_map hb, mkLaw.check W es.isEmpty hkey, h1, Result.andThen]⟩
/-- A map in which an entry of this key stands, at its place. -/
structure CE (es es1 : Array MapEntry) (clock1 : Nat) (key : Value) (i : Nat) (e0 : MapEntry) (n : Nat) : Prop where
  st : Stamped es1 clock1
  at_ : es1.toList[i]? = some e0
  key : e0.key = key
  val : e0.val = .int .i64 n
  old : ∀ x ∈ es1.toList, x = e0 ∨ x ∈ es.toList
  sub : ∀ x ∈ es.toList, ∃ y ∈ es1.toList, y.key = x.key
theorem entry_any {W : World} {b : Nat} {es : Array MapEntry} {clock : Nat} {p : List LLog} {j : Nat} {q s : Int} (hb : W.heap[b]? = some (.map es clock)) (hC : CM es clock p j) (hq : Fits q) (hs : Fits s) :
    ∃ es1 clock1 i e0 n, CE es es1 clock1 (ownV q s) i e0 n ∧ n ≤ j ∧ (Instr.lookup 69 (.map (some b)) (ownV q s) false).run Try.prog W = .ok (.int .i64 (n : Int)) W ∧
      (Instr.mapEntry 69 (.map (some b)) (ownV q s)).run Try.prog W = .ok (.tuple #[.int .i64 (n : Int), goInt e0.born]) (setBlock W b (.map es1 clock1)) := by
  obtain ⟨kl, hkey⟩ := key_lit hq hs
  rcases mkLaw.find W hkey es.toList hC.keys with ⟨h1, h2⟩ | ⟨i, e, h1, h2, h3⟩
  · refine ⟨es.push ⟨ownV q s, .int .i64 0, clock⟩, clock + 1, es.size, ⟨ownV q s, .int .i64 0, clock⟩, 0, ⟨MapKept.stamped_push hC.st h2, by simp, rfl, rfl, fun x hx => ?_, fun x hx => ⟨x, by simp [hx], rfl⟩⟩, Nat.zero_le _, ?_, ?_⟩
    · simp only [Array.toList_push, List.mem_append, List.mem_singleton] at hx
      rcases hx with hx | hx
      · exact .inr hx
      · exact .inl hx
    · simp [Instr.lookup, run_underlying Try.underlying69, MapKept.run_getObj_map hb, mkLaw.check W es.isEmpty hkey, h1, Result.andThen]
    · simp [Instr.mapEntry, run_underlying Try.underlying69, MapKept.run_getObj_map hb, mkLaw.check W false hkey, h1, MapKept.run_setObj_map _ hb, Result.andThen, setBlock]
  · have he := List.mem_of_getElem? h2
    obtain ⟨n, hv, hn1, hn2⟩ := hC.vs e he
    have hi : es[i]? = some e := by rw [← Array.getElem?_toList]; exact h2
    have hmod : (es.modify i fun e => { e with key := ownV q s }) = es := by
      apply Array.ext_getElem?
      intro k
      rw [Array.getElem?_modify]
      split
      · rename_i hk; subst hk; rw [hi]; simp [← h3]
      · rfl
    refine ⟨es, clock, i, e, n, ⟨hC.st, h2, h3, hv, fun x hx => .inr hx, fun x hx => ⟨x, hx, rfl⟩⟩, hn2, ?_, ?_⟩
    · simp [Instr.lookup, run_underlying Try.underlying69, MapKept.run_getObj_map hb, mkLaw.check W es.isEmpty hkey, h1, Result.andThen, hv]
    · simp [Instr.mapEntry, run_underlying Try.underlying69, MapKept.run_getObj_map hb, mkLaw.check W false hkey, h1, hi, h3, mkLaw.stays W hkey, MapKept.run_setObj_map _ hb, Result.andThen, setBlock, hv, hmod]
theorem look_entry {W : World} {b : Nat} {es es1 : Array MapEntry} {clock clock1 : Nat} {p : List LLog} {j : Nat} {q s : Int} {i : Nat} {e0 : MapEntry} {n : Nat} (hb : W.heap[b]? = some (.map es1 clock1)) (hC : CM es clock p j) (hE : CE es es1 clock1 (ownV q s) i e0 n) (hq : Fits q) (hs : Fits s) :
    (Instr.lookup 69 (.map (some b)) (ownV q s) false).run Try.prog W = .ok (.int .i64 (n : Int)) W := by
  have hk : Keys es1 := fun x hx => by
    rcases hE.old x hx with rfl | h
    · rw [hE.key]; exact key_lit hq hs
    · exact hC.keys x h
  rcases look_any hb hk hq hs with ⟨_, h2⟩ | ⟨i2, e2, h1, h2, h3⟩
  · exact absurd hE.key (h2 e0 (List.mem_of_getElem? hE.at_))
  · rw [h3]
    have : i2 = i := by
      have hl1 := (List.getElem?_eq_some_iff.1 h1).1
      have hl2 := (List.getElem?_eq_some_iff.1 hE.at_).1
      have hnd := hE.st.2.2
      refine (List.getElem_inj (xs := es1.toList.map (fun x : MapEntry => x.key)) (h₀ := by simpa using hl1) (h₁ := by simpa using hl2) hnd).1 ?_
      simp only [List.getElem_map]
      rw [(List.getElem?_eq_some_iff.1 h1).2, (List.getElem?_eq_some_iff.1 hE.at_).2, h2, hE.key]
    subst this
    rw [hE.at_] at h1
    cases h1
    rw [hE.val]
theorem store_any {W : World} {b : Nat} {es es1 : Array MapEntry} {clock1 : Nat} {key : Value} {i : Nat} {e0 : MapEntry} {n : Nat} (hb : W.heap[b]? = some (.map es1 clock1)) (hE : CE es es1 clock1 key i e0 n) (v : Value) :
    (Instr.entryStore 69 (.map (some b)) (.int .i64 (e0.born : Int)) v).run Try.prog W = .ok () (setBlock W b (.map (es1.modify i fun e => { e with val := v }) clock1)) := by
  have h := Go.WideElems.findIdx_born hE.st.2.1 hE.at_
  simp [Instr.entryStore, MapKept.run_getObj_map hb, Go.WideElems.findIdx_arr, h, MapKept.run_setObj_map _ hb, Result.andThen, setBlock, asInt, asIntOf]
theorem CM.step {es es1 : Array MapEntry} {clock clock1 : Nat} {p : List LLog} {j : Nat} {l : LLog} {i : Nat} {e0 : MapEntry} {n : Nat} (hC : CM es clock p j) (hE : CE es es1 clock1 (ownV l.who l.seq) i e0 n) (hl : p[j]? = some l) (hq : Fits l.who) (hs : Fits l.seq) (hn : n ≤ j) :
    CM (es1.modify i fun e => { e with val := .int .i64 ((n : Int) + 1) }) clock1 p (j + 1) := by
  have hkeys : (es1.modify i fun e => { e with val := .int .i64 ((n : Int) + 1) }).toList.map (·.key) = es1.toList.map (·.key) := MapKept.modify_keys i _ (fun e _ => rfl)
  have hmem : ∀ x ∈ (es1.modify i fun e => { e with val := .int .i64 ((n : Int) + 1) }).toList, (x.key = ownV l.who l.seq ∧ x.val = .int .i64 ((n + 1 : Nat) : Int)) ∨ (x ∈ es.toList) ∨ (x = e0 ∧ x.key = ownV l.who l.seq) := by
    intro x hx
    rcases MapFrom.mem_modify hx with hx | ⟨e, he, rfl⟩
    · rcases hE.old x hx with rfl | h
      · exact .inr (.inr ⟨rfl, hE.key⟩)
      · exact .inr (.inl h)
    · have : es1.toList[i]? = some e := by rw [Array.getElem?_toList]; exact he
      rw [hE.at_] at this
      cases this
      exact .inl ⟨hE.key, by simp⟩
  have hfe : ({ e0 with val := .int .i64 ((n : Int) + 1) } : MapEntry) ∈ (es1.modify i fun e => { e with val := .int .i64 ((n : Int) + 1) }).toList := by
    refine List.mem_of_getElem? (i := i) ?_
    rw [Array.getElem?_toList, Array.getElem?_modify, if_pos rfl, ← Array.getElem?_toList, hE.at_]
    rfl
  have hst : Stamped (es1.modify i fun e => { e with val := .int .i64 ((n : Int) + 1) }) clock1 := MapKept.stamped_modify hE.st i _ (fun e _ => rfl) (fun e _ _ => rfl)
  have hpw := ((MapKept.stamped_iff _ _).1 hst).2.2
  have hnew : ∀ x ∈ (es1.modify i fun e => { e with val := .int .i64 ((n : Int) + 1) }).toList, x = { e0 with val := .int .i64 ((n : Int) + 1) } ∨ x ∈ es.toList := by
    intro x hx
    by_cases hk : x.key = ownV l.who l.seq
    · exact .inl (Go.entry_eq_of_key hpw hx hfe (by rw [hk]; exact hE.key.symm))
    · rcases hmem x hx with h | h | h
      · exact absurd h.1 hk
      · exact .inr h
      · exact absurd h.2 hk
  refine ⟨hst, fun x hx => ?_, fun x hx => ?_, fun q s => ?_⟩
  · rcases hnew x hx with rfl | h
    · exact ⟨l.who, l.seq, hE.key, hq, hs⟩
    · exact hC.ks x h
  · rcases hnew x hx with rfl | h
    · exact ⟨n + 1, by simp, by omega, by omega⟩
    · obtain ⟨m, h1, h2, h3⟩ := hC.vs x h
      exact ⟨m, h1, h2, by omega⟩
  · have hks : (∃ x ∈ (es1.modify i fun e => { e with val := .int .i64 ((n : Int) + 1) }).toList, x.key = ownV q s) ↔ ∃ x ∈ es1.toList, x.key = ownV q s := by
      have h1 : ownV q s ∈ (es1.modify i fun e => { e with val := .int .i64 ((n : Int) + 1) }).toList.map (·.key) ↔ ownV q s ∈ es1.toList.map (·.key) := by rw [hkeys]
      simpa using h1
    rw [hks]
    constructor
    · rintro ⟨x, hx, hk⟩
      rcases hE.old x hx with rfl | h
      · rw [hE.key] at hk
        simp only [ownV, Value.agg.injEq] at hk
        have h2 : l.who = q ∧ l.seq = s := by simpa using hk
        exact ⟨j, l, by omega, hl, h2.1, h2.2⟩
      · obtain ⟨k, a, h1, h2⟩ := (hC.has q s).1 ⟨x, h, hk⟩
        exact ⟨k, a, by omega, h2⟩
    · rintro ⟨k, a, h1, h2, h3, h4⟩
      by_cases e : k = j
      · subst e
        rw [hl] at h2
        cases h2
        exact ⟨e0, List.mem_of_getElem? hE.at_, by rw [hE.key, h3, h4]⟩
      · obtain ⟨x, hx, hk⟩ := (hC.has q s).2 ⟨k, a, by omega, h2, h3, h4⟩
        obtain ⟨y, hy, hyk⟩ := hE.sub x hx
        exact ⟨y, hy, by rw [hyk, hk]⟩
end Go.Proofs.Ytohimbdmhljocaa
