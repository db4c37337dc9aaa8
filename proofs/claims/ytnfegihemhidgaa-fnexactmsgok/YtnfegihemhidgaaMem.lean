/- What trees, objects and names are in memory; contracts of the law's szTree and toTree. -/
import Derived.Test.YtnfegihemhidgaaWord
import Derived.Deep.QuietTactic
import Derived.BigQuiet
import Derived.Deep.RegionWith
import Derived.Deep.LoopGhost
import Derived.Deep.OwnRows
import Derived.Outline
namespace Go.Proofs.Ytnfegihemhidgaa
open Go.RowKit

structure LEnt where
  name : ByteArray
  id : Int
structure LObj where
  kind : Int
  ver : Int
  text : ByteArray
  kids : List LEnt

theorem cells126 : Try.prog.cellsOf 119 = 2 := by kernel_rfl

set_option maxHeartbeats 400000 in
theorem szEnt_any (s : ByteArray) (i left : Int) (w : World) (h0 : 0 ≤ left) (h1 : left ≤ 1048576) (hs : s.size ≤ maxLen) :
    Calls Try.prog 85 #[.agg #[.string s, .int .i64 i], .int .i64 left] w fun e w' => (∃ r : Int, e = .returned (.int .i64 r) ∧ (r = -1 ∨ (0 ≤ r ∧ r = left - s.size))) ∧ Below w.heap.size w w' := by
  unfold maxLen at hs
  by_cases h : left - s.size < 0
  · go_enter Try.func85, Try.ntmps85
    go_wp2
    go_ret
    exact ⟨⟨-1, rfl, .inl rfl⟩, (Below.refl _ _).alloc (Nat.le_refl _) _⟩
  · go_enter Try.func85, Try.ntmps85
    go_wp2
    go_ret
    exact ⟨⟨left - s.size, rfl, .inr ⟨by omega, rfl⟩⟩, (Below.refl _ _).alloc (Nat.le_refl _) _⟩


theorem eqEnt_same (s : ByteArray) (i : Int) (w : World) :
    Calls Try.prog 96 #[.agg #[.string s, .int .i64 i], .agg #[.string s, .int .i64 i]] w fun e w' => e = .returned (.bool true) ∧ Below w.heap.size w w' := by
  go_enter Try.func96, Try.ntmps96
  go_wp2
  go_ret
  exact ⟨by simp, ((Below.refl _ _).alloc (Nat.le_refl _) _).alloc (by simp) _⟩

theorem toEnt_any (s : ByteArray) (i : Int) (w : World) :
    Calls Try.prog 86 #[.agg #[.string s, .int .i64 i]] w fun e w' => e = .returned (.agg #[.string s, .int .i64 i]) ∧ Below w.heap.size w w' := by
  go_enter Try.func86, Try.ntmps86
  go_wp2
  exact bodyPost_ret (v := .agg #[.string s, .int .i64 i]) (by simp [results, Try.results86, go_sem]) rfl ⟨rfl, by
    repeat (first | exact Below.refl _ _ | refine Below.setCell ?_ (by simp <;> omega) _ | refine Below.alloc ?_ (by simp <;> omega) _)⟩

/-- What a slice of names is: its length; if there is one, an address, and at it the names. All of it lies in blocks from L on and below U. -/
structure EntsAt (w : World) (L U : Nat) (a : Option Addr) (n : Nat) (es : List LEnt) : Prop where
  len : n = es.length
  bd : n ≤ maxLen
  at_ : n ≠ 0 → ∃ b off, a = some ⟨b, off, none⟩ ∧ L ≤ b ∧ b < U ∧ ∀ i, i < n → ∃ e, es[i]? = some e ∧ e.name.size ≤ maxLen ∧ w.cell? ⟨b, off + i * 2, none⟩ = some (.string e.name) ∧ w.cell? ⟨b, off + i * 2 + 1, none⟩ = some (.int .i64 e.id)

def tot (es : List LEnt) : Nat := (es.map fun e => e.name.size).sum


theorem tot_take {es : List LEnt} {j : Nat} {e : LEnt} (h : es[j]? = some e) : tot (es.take (j + 1)) = tot (es.take j) + e.name.size := by
  have hj : j < es.length := (List.getElem?_eq_some_iff.1 h).1
  rw [List.take_succ_eq_append_getElem hj]
  have : es[j] = e := (List.getElem?_eq_some_iff.1 h).2
  simp [tot, this]

set_option maxHeartbeats 400000 in
theorem szEntS_any (a : Option Addr) (n c : Nat) (es : List LEnt) (L U : Nat) (left : Int) (w : World) (h0 : 0 ≤ left) (h1 : left ≤ 1048576) (hU : U ≤ w.heap.size) (H : EntsAt w L U a n es) :
    Calls Try.prog 77 #[.slice a n c, .int .i64 left] w fun e w' => (∃ r : Int, e = .returned (.int .i64 r) ∧ (r = -1 ∨ (0 ≤ r ∧ r = left - n - tot es))) ∧ Below w.heap.size w w' := by
  have hbd := H.bd
  unfold maxLen at hbd
  by_cases h : left - n < 0
  · go_enter Try.func77, Try.ntmps77
    go_wp2
    go_ret
    exact ⟨⟨-1, rfl, .inl rfl⟩, Below.refl _ _⟩
  · go_enter Try.func77, Try.ntmps77
    go_wp2
    go_loopg [1, 5] n (fun k l i wr => ∃ j : Nat, j ≤ n ∧ Hid (k = n - j) ∧ i = .int .i64 j ∧ (∃ r : Int, l = .int .i64 r ∧ 0 ≤ r ∧ r ≤ 1048576 ∧ Hid (r = left - n - tot (es.take j))) ∧ Below w.heap.size w wr)
    case atStart => exact ⟨0, Nat.zero_le _, by show _ = _; omega, rfl, ⟨_, rfl, by omega, by omega, by show _ = _; simp [tot]⟩, Below.refl _ _⟩
    case round =>
      obtain ⟨j, hj, hk, rfl, ⟨r, rfl, hr0, hr1, hr⟩, hb⟩ := hrel
      by_cases hlt : j < n
      · obtain ⟨b, off, ha, hL, hbU, hc⟩ := H.at_ (by omega)
        subst ha
        obtain ⟨e, he, hsz, hc0, hc1⟩ := hc j hlt
        rw [← hb.cell (by simp; omega)] at hc0 hc1
        have HE : Hid (es[j]? = some e) := he
        clear he hc
        go_wp2_with fail
        refine (szEnt_any _ _ _ _ hr0 hr1 hsz).mono ?_
        rintro x w1 ⟨⟨r1, rfl, hr1'⟩, hb1⟩
        have HR : Hid (r1 = -1 ∨ 0 ≤ r1 ∧ r1 = r - e.name.size) := hr1'
        clear hr1'
        by_cases hneg : r1 < 0
        · go_wp2_with fail
          go_ret
          exact ⟨⟨-1, rfl, .inl rfl⟩, hb.trans (hb1.mono hb.size)⟩
        · go_wp2_with fail
          go_roundg (n - (j + 1))
          case measure => have := hk.out; omega
          case rel =>
            have := HR.out
            have h3 := tot_take HE.out
            have h4 := hr.out
            exact ⟨j + 1, by omega, rfl, by go_num, ⟨r1, rfl, by omega, by omega, by show _ = _; omega⟩, hb.trans (hb1.mono hb.size)⟩
      · go_wp2_with fail
        go_ret
        have h4 := hr.out
        rw [List.take_of_length_le (by have := H.len; omega)] at h4
        exact ⟨⟨r, rfl, .inr ⟨hr0, h4⟩⟩, hb⟩

theorem EntsAt.below {w w' : World} {L U B : Nat} {a : Option Addr} {n : Nat} {es : List LEnt} (h : EntsAt w L U a n es) (hb : Below B w w') (hU : U ≤ B) : EntsAt w' L U a n es :=
  ⟨h.len, h.bd, fun hn => by
    obtain ⟨b, off, ha, hL, hbU, hc⟩ := h.at_ hn
    refine ⟨b, off, ha, hL, hbU, fun i hi => ?_⟩
    obtain ⟨e, he, hs, h0, h1⟩ := hc i hi
    exact ⟨e, he, hs, by rw [hb.cell (by simp; omega)]; exact h0, by rw [hb.cell (by simp; omega)]; exact h1⟩⟩
theorem EntsAt.wide {w : World} {L U L' U' : Nat} {a : Option Addr} {n : Nat} {es : List LEnt} (h : EntsAt w L U a n es) (hL' : L' ≤ L) (hU : U ≤ U') : EntsAt w L' U' a n es :=
  ⟨h.len, h.bd, fun hn => by
    obtain ⟨b, off, ha, hL, hbU, hc⟩ := h.at_ hn
    exact ⟨b, off, ha, by omega, by omega, hc⟩⟩
theorem EntsAt.setCell {w : World} {L U : Nat} {a : Option Addr} {n : Nat} {es : List LEnt} (h : EntsAt w L U a n es) (p : Addr) (v : Value) (hp : p.block < L) : EntsAt (w.setCell p v) L U a n es :=
  ⟨h.len, h.bd, fun hn => by
    obtain ⟨b, off, ha, hL, hbU, hc⟩ := h.at_ hn
    refine ⟨b, off, ha, hL, hbU, fun i hi => ?_⟩
    obtain ⟨e, he, hs, h0, h1⟩ := hc i hi
    have hk := Below.heap_setCell w p v b (by omega)
    exact ⟨e, he, hs, by rw [World.cell?_of_block (w := w) hk]; exact h0, by rw [World.cell?_of_block (w := w) hk]; exact h1⟩⟩

theorem bcell {W w1 : World} (hb : Below W.heap.size W w1) : (∀ b o, b < W.heap.size → w1.cell? ⟨b, o, none⟩ = W.cell? ⟨b, o, none⟩) ∧ (∀ b o, b < W.heap.size → w1.frozen? ⟨b, o, none⟩ = W.frozen? ⟨b, o, none⟩) :=
  ⟨fun b o h => hb.cell (p := ⟨b, o, none⟩) h, fun b o h => hb.frozen (p := ⟨b, o, none⟩) h⟩

theorem run_make_many (t e : TypeId) (zs : Array Value) (size bytes : Nat) (ht : Try.prog.underlying t = some (.slice e)) (hinfo : (Try.prog.info? e).map (fun i => (i.zero.map (·.cells), i.size, i.bytes)) = some (some zs, size, bytes))
    (n : Nat) (hbytes : bytes * n ≤ 281474976710656) (h63 : n ≤ 9223372036854775807) (w : World) :
    (Instr.makeSlice t (.int .i64 (n : Int)) (.int .i64 (n : Int))).run Try.prog w = .ok (.slice (some ⟨w.heap.size, 0, none⟩) n n) (w.alloc (.cells (madeCells zs (n * size)) e)) := by
  obtain ⟨i, hi, hq⟩ := Option.map_eq_some_iff.1 hinfo
  simp only [Prod.mk.injEq, Option.map_eq_some_iff] at hq
  obtain ⟨⟨z, hz, hzc⟩, hsz, hby⟩ := hq
  have hb' : (i.bytes : Int) * (n : Int) ≤ 281474976710656 := by
    rw [hby]
    have h : ((bytes * n : Nat) : Int) ≤ 281474976710656 := by omega
    rwa [Int.natCast_mul] at h
  have hr := run_make (P := Try.prog) w t e i z ht hi hz .i64 .i64 n n (by omega) (Int.le_refl _) hb' (by omega)
  simp only [Int.toNat_natCast, hsz, hzc] at hr
  exact hr

theorem rowIs_many (w : World) (zs : Array Value) (n : Nat) (t : TypeId) : ∃ f, (w.alloc (.cells (madeCells zs n) t)).rowIs w.heap.size t n f := by
  refine ⟨fun i => (madeCells zs n)[i]?.getD default, ?_⟩
  have := World.rowIs_alloc w (madeCells zs n) t (fun i => (madeCells zs n)[i]?.getD default) (fun i hi => by simp [hi])
  rwa [size_madeCells] at this

theorem info47 : (Try.prog.info? 99).map (fun i => (i.zero.map (·.cells), i.size, i.bytes)) = some (some #[.string ByteArray.empty, .int .i64 0], 2, 24) := by kernel_rfl
theorem info34 : (Try.prog.info? 68).map (fun i => (i.zero.map (·.cells), i.size, i.bytes)) = some (some #[.int .i64 0, .int .i64 0, .string ByteArray.empty, .slice none 0 0], 4, 56) := by kernel_rfl

set_option maxHeartbeats 400000 in
theorem toEntS_any (a : Option Addr) (n c : Nat) (es : List LEnt) (L U : Nat) (w : World) (hn : n ≤ 1048576) (hU : U ≤ w.heap.size) (H : EntsAt w L U a n es) :
    Calls Try.prog 80 #[.slice a n c] w fun e w' => (∃ b, e = .returned (.slice (some ⟨b, 0, none⟩) n n) ∧ EntsAt w' w.heap.size w'.heap.size (some ⟨b, 0, none⟩) n es) ∧ Below w.heap.size w w' := by
  have hmk := run_make_many 66 99 _ 2 24 Try.underlying66 info47 n (by omega) (by omega)
  obtain ⟨f0, hf0⟩ := rowIs_many w #[.string ByteArray.empty, .int .i64 0] (n * 2) 99
  have HF0 : Hid ((w.alloc (.cells (madeCells #[.string ByteArray.empty, .int .i64 0] (n * 2)) 99)).rowIs w.heap.size 99 (n * 2) f0) := hf0
  clear hf0
  go_enter Try.func80, Try.ntmps80
  go_wp2
  go_loopg [4] n (fun k i wr => ∃ j : Nat, j ≤ n ∧ Hid (k = n - j) ∧ i = .int .i64 j ∧ (∃ f, Hid (wr.rowIs w.heap.size 99 (n * 2) f ∧ ∀ i, i < j → ∃ e, es[i]? = some e ∧ f (i * 2) = .string e.name ∧ f (i * 2 + 1) = .int .i64 e.id)) ∧ Below w.heap.size w wr)
  case atStart => exact ⟨0, Nat.zero_le _, by show _ = _; omega, rfl, ⟨f0, HF0.out, fun i hi => by omega⟩, (Below.refl _ _).alloc (Nat.le_refl _) _⟩
  case round =>
    obtain ⟨j, hj, hk, rfl, ⟨f, hf⟩, hb⟩ := hrel
    by_cases hlt : j < n
    · obtain ⟨b, off, ha, hL, hbU, hc⟩ := H.at_ (by omega)
      subst ha
      obtain ⟨e, he, hsz, hc0, hc1⟩ := hc j hlt
      rw [← hb.cell (by simp; omega)] at hc0 hc1
      have HE : Hid (es[j]? = some e) := he
      clear he hc
      go_wp2_with fail
      refine (toEnt_any _ _ _).mono ?_
      rintro x w1 ⟨rfl, hb1⟩
      have hrow := hf.out.1.of_block (hb1.block w.heap.size hf.out.1.lt)
      have g0 := hrow.cell (i := j * 2) (by omega)
      have g1 := hrow.cell (i := j * 2 + 1) (by omega)
      have z0 := hrow.frozen (j * 2)
      have z1 := hrow.frozen (j * 2 + 1)
      have HR : Hid (w1.rowIs w.heap.size 99 (n * 2) f) := hrow
      clear hrow
      go_wp2_with fail
      go_roundg (n - (j + 1))
      case measure => have := hk.out; omega
      case rel =>
        refine ⟨j + 1, by omega, rfl, by go_num, ⟨_, (HR.out.set (j * 2) (.string e.name)).set (j * 2 + 1) (.int .i64 e.id), fun i hi => ?_⟩, ((hb.trans (hb1.mono hb.size)).setCell (by simp) _).setCell (by simp) _⟩
        by_cases hij : i = j
        · subst hij
          exact ⟨e, HE.out, by simp, by simp⟩
        · obtain ⟨e', he', q0, q1⟩ := hf.out.2 i (by omega)
          refine ⟨e', he', ?_, ?_⟩
          · show (if i * 2 = j * 2 + 1 then _ else if i * 2 = j * 2 then _ else f (i * 2)) = _
            rw [if_neg (by omega), if_neg (by omega)]; exact q0
          · show (if i * 2 + 1 = j * 2 + 1 then _ else if i * 2 + 1 = j * 2 then _ else f (i * 2 + 1)) = _
            rw [if_neg (by omega), if_neg (by omega)]; exact q1
    · go_wp2_with fail
      go_ret
      refine ⟨⟨w.heap.size, rfl, H.len, H.bd, fun hn0 => ⟨w.heap.size, 0, rfl, Nat.le_refl _, hf.out.1.lt, fun i hi => ?_⟩⟩, hb⟩
      obtain ⟨e', he', q0, q1⟩ := hf.out.2 i (by omega)
      obtain ⟨b, off, ha, hL, hbU, hc⟩ := H.at_ hn0
      obtain ⟨e2, he2, hsz, _, _⟩ := hc i hi
      rw [he'] at he2
      cases he2
      exact ⟨e', he', hsz, by rw [← q0, Nat.zero_add]; exact hf.out.1.cell (by omega), by rw [← q1, Nat.zero_add]; exact hf.out.1.cell (by omega)⟩

/-- What a slice of objects is. -/
structure ObjsAt (w : World) (L U : Nat) (a : Option Addr) (n : Nat) (os : List LObj) : Prop where
  len : n = os.length
  bd : n ≤ maxLen
  at_ : n ≠ 0 → ∃ b off, a = some ⟨b, off, none⟩ ∧ L ≤ b ∧ b < U ∧ ∀ i, i < n → ∃ o ka kn kc, os[i]? = some o ∧ o.text.size ≤ maxLen ∧ w.cell? ⟨b, off + i * 4, none⟩ = some (.int .i64 o.kind) ∧ w.cell? ⟨b, off + i * 4 + 1, none⟩ = some (.int .i64 o.ver) ∧ w.cell? ⟨b, off + i * 4 + 2, none⟩ = some (.string o.text) ∧ w.cell? ⟨b, off + i * 4 + 3, none⟩ = some (.slice ka kn kc) ∧ EntsAt w L U ka kn o.kids

theorem ObjsAt.below {w w' : World} {L U B : Nat} {a : Option Addr} {n : Nat} {os : List LObj} (h : ObjsAt w L U a n os) (hb : Below B w w') (hU : U ≤ B) : ObjsAt w' L U a n os :=
  ⟨h.len, h.bd, fun hn => by
    obtain ⟨b, off, ha, hL, hbU, hc⟩ := h.at_ hn
    refine ⟨b, off, ha, hL, hbU, fun i hi => ?_⟩
    obtain ⟨o, ka, kn, kc, he, hs, h0, h1, h2, h3, hk⟩ := hc i hi
    exact ⟨o, ka, kn, kc, he, hs, by rw [hb.cell (by simp; omega)]; exact h0, by rw [hb.cell (by simp; omega)]; exact h1, by rw [hb.cell (by simp; omega)]; exact h2, by rw [hb.cell (by simp; omega)]; exact h3, hk.below hb hU⟩⟩
theorem ObjsAt.wide {w : World} {L U L' U' : Nat} {a : Option Addr} {n : Nat} {os : List LObj} (h : ObjsAt w L U a n os) (hL' : L' ≤ L) (hU : U ≤ U') : ObjsAt w L' U' a n os :=
  ⟨h.len, h.bd, fun hn => by
    obtain ⟨b, off, ha, hL, hbU, hc⟩ := h.at_ hn
    refine ⟨b, off, ha, by omega, by omega, fun i hi => ?_⟩
    obtain ⟨o, ka, kn, kc, he, hs, h0, h1, h2, h3, hk⟩ := hc i hi
    exact ⟨o, ka, kn, kc, he, hs, h0, h1, h2, h3, hk.wide hL' hU⟩⟩

theorem ObjsAt.setCell {w : World} {L U : Nat} {a : Option Addr} {n : Nat} {os : List LObj} (h : ObjsAt w L U a n os) (p : Addr) (v : Value) (hp : p.block < L) : ObjsAt (w.setCell p v) L U a n os :=
  ⟨h.len, h.bd, fun hn => by
    obtain ⟨b, off, ha, hL, hbU, hc⟩ := h.at_ hn
    refine ⟨b, off, ha, hL, hbU, fun i hi => ?_⟩
    obtain ⟨o, ka, kn, kc, he, hs, h0, h1, h2, h3, hk⟩ := hc i hi
    have hk' := Below.heap_setCell w p v b (by omega)
    exact ⟨o, ka, kn, kc, he, hs, by rw [World.cell?_of_block (w := w) hk']; exact h0, by rw [World.cell?_of_block (w := w) hk']; exact h1, by rw [World.cell?_of_block (w := w) hk']; exact h2, by rw [World.cell?_of_block (w := w) hk']; exact h3, hk.setCell p v hp⟩⟩

def totO (o : LObj) : Nat := o.text.size + o.kids.length + tot o.kids
def totT (os : List LObj) : Nat := (os.map totO).sum
theorem totT_take {os : List LObj} {j : Nat} {o : LObj} (h : os[j]? = some o) : totT (os.take (j + 1)) = totT (os.take j) + totO o := by
  have hj : j < os.length := (List.getElem?_eq_some_iff.1 h).1
  rw [List.take_succ_eq_append_getElem hj]
  have : os[j] = o := (List.getElem?_eq_some_iff.1 h).2
  simp [totT, this]

set_option maxHeartbeats 400000 in
theorem szObj_any (k v : Int) (s : ByteArray) (a : Option Addr) (n c : Nat) (es : List LEnt) (L U : Nat) (left : Int) (w : World) (h0 : 0 ≤ left) (h1 : left ≤ 1048576) (hs : s.size ≤ maxLen) (hU : U ≤ w.heap.size) (H : EntsAt w L U a n es) :
    Calls Try.prog 58 #[.agg #[.int .i64 k, .int .i64 v, .string s, .slice a n c], .int .i64 left] w fun e w' => (∃ r : Int, e = .returned (.int .i64 r) ∧ (r = -1 ∨ (0 ≤ r ∧ r = left - s.size - n - tot es))) ∧ Below w.heap.size w w' := by
  unfold maxLen at hs
  by_cases h : left - s.size < 0
  · go_enter Try.func58, Try.ntmps58
    go_wp2
    go_ret
    exact ⟨⟨-1, rfl, .inl rfl⟩, (Below.refl _ _).alloc (Nat.le_refl _) _⟩
  · go_enter Try.func58, Try.ntmps58
    go_wp2_with fail
    refine (szEntS_any _ _ _ _ L U _ _ (by omega) (by omega) (by simp; omega) (H.below ((Below.refl _ _).alloc (Nat.le_refl _) _) hU)).mono ?_
    rintro x w1 ⟨⟨r, rfl, hr⟩, hb⟩
    have HR : Hid (r = -1 ∨ 0 ≤ r ∧ r = left - s.size - n - tot es) := hr
    clear hr
    have hb' : Below w.heap.size w w1 := ((Below.refl _ _).alloc (Nat.le_refl _) _).trans (hb.mono (by simp))
    by_cases hneg : r < 0
    · go_wp2_with fail
      go_ret
      exact ⟨⟨-1, rfl, .inl rfl⟩, hb'⟩
    · go_wp2_with fail
      go_ret
      exact ⟨⟨r, rfl, HR.out⟩, hb'⟩

set_option maxHeartbeats 400000 in
theorem szObjS_any (a : Option Addr) (n c : Nat) (os : List LObj) (L U : Nat) (left : Int) (w : World) (h0 : 0 ≤ left) (h1 : left ≤ 1048576) (hU : U ≤ w.heap.size) (H : ObjsAt w L U a n os) :
    Calls Try.prog 32 #[.slice a n c, .int .i64 left] w fun e w' => (∃ r : Int, e = .returned (.int .i64 r) ∧ (r = -1 ∨ (0 ≤ r ∧ r = left - n - totT os))) ∧ Below w.heap.size w w' := by
  have hbd := H.bd
  unfold maxLen at hbd
  by_cases h : left - n < 0
  · go_enter Try.func32, Try.ntmps32
    go_wp2
    go_ret
    exact ⟨⟨-1, rfl, .inl rfl⟩, Below.refl _ _⟩
  · go_enter Try.func32, Try.ntmps32
    go_wp2
    go_loopg [1, 5] n (fun k l i wr => ∃ j : Nat, j ≤ n ∧ Hid (k = n - j) ∧ i = .int .i64 j ∧ (∃ r : Int, l = .int .i64 r ∧ 0 ≤ r ∧ r ≤ 1048576 ∧ Hid (r = left - n - totT (os.take j))) ∧ Below w.heap.size w wr)
    case atStart => exact ⟨0, Nat.zero_le _, by show _ = _; omega, rfl, ⟨_, rfl, by omega, by omega, by show _ = _; simp [totT]⟩, Below.refl _ _⟩
    case round =>
      obtain ⟨j, hj, hk, rfl, ⟨r, rfl, hr0, hr1, hr⟩, hb⟩ := hrel
      by_cases hlt : j < n
      · obtain ⟨b, off, ha, hL, hbU, hc⟩ := H.at_ (by omega)
        subst ha
        obtain ⟨o, ka, kn, kc, he, hsz, hc0, hc1, hc2, hc3, hks⟩ := hc j hlt
        rw [← hb.cell (by simp; omega)] at hc0 hc1 hc2 hc3
        have HE : Hid (os[j]? = some o) := he
        clear he hc
        go_wp2_with fail
        refine (szObj_any _ _ _ _ _ _ _ L U _ _ hr0 hr1 hsz (by have := hb.size; omega) (hks.below hb hU)).mono ?_
        rintro x w1 ⟨⟨r1, rfl, hr1'⟩, hb1⟩
        have hkl := hks.len
        have HR : Hid (r1 = -1 ∨ 0 ≤ r1 ∧ r1 = r - o.text.size - o.kids.length - tot o.kids) := by rw [← hkl]; exact hr1'
        clear hr1' hkl hks
        by_cases hneg : r1 < 0
        · go_wp2_with fail
          go_ret
          exact ⟨⟨-1, rfl, .inl rfl⟩, hb.trans (hb1.mono hb.size)⟩
        · go_wp2_with fail
          go_roundg (n - (j + 1))
          case measure => have := hk.out; omega
          case rel =>
            have := HR.out
            have h3 := totT_take HE.out
            have h4 := hr.out
            unfold totO at h3
            exact ⟨j + 1, by omega, rfl, by go_num, ⟨r1, rfl, by omega, by omega, by show _ = _; omega⟩, hb.trans (hb1.mono hb.size)⟩
      · go_wp2_with fail
        go_ret
        have h4 := hr.out
        rw [List.take_of_length_le (by have := H.len; omega)] at h4
        exact ⟨⟨r, rfl, .inr ⟨hr0, h4⟩⟩, hb⟩

theorem szTree_any (a : Option Addr) (n c : Nat) (os : List LObj) (L U : Nat) (left : Int) (w : World) (h0 : 0 ≤ left) (h1 : left ≤ 1048576) (hU : U ≤ w.heap.size) (H : ObjsAt w L U a n os) :
    Calls Try.prog 13 #[.agg #[.slice a n c], .int .i64 left] w fun e w' => (∃ r : Int, e = .returned (.int .i64 r) ∧ (r = -1 ∨ (0 ≤ r ∧ r = left - n - totT os))) ∧ Below w.heap.size w w' := by
  go_enter Try.func13, Try.ntmps13
  go_wp2_with fail
  refine (szObjS_any _ _ _ _ L U _ _ h0 h1 (by simp; omega) (H.below ((Below.refl _ _).alloc (Nat.le_refl _) _) hU)).mono ?_
  rintro x w1 ⟨⟨r, rfl, hr⟩, hb⟩
  have HR : Hid (r = -1 ∨ 0 ≤ r ∧ r = left - n - totT os) := hr
  clear hr
  have hb' : Below w.heap.size w w1 := ((Below.refl _ _).alloc (Nat.le_refl _) _).trans (hb.mono (by simp))
  by_cases hneg : r < 0
  · go_wp2_with fail
    go_ret
    exact ⟨⟨-1, rfl, .inl rfl⟩, hb'⟩
  · go_wp2_with fail
    go_ret
    exact ⟨⟨r, rfl, HR.out⟩, hb'⟩

set_option maxHeartbeats 400000 in
theorem toObj_any (k v : Int) (s : ByteArray) (a : Option Addr) (n c : Nat) (es : List LEnt) (L U : Nat) (w : World) (hn : n ≤ 1048576) (hU : U ≤ w.heap.size) (H : EntsAt w L U a n es) :
    Calls Try.prog 67 #[.agg #[.int .i64 k, .int .i64 v, .string s, .slice a n c]] w fun e w' => (∃ b, e = .returned (.agg #[.int .i64 k, .int .i64 v, .string s, .slice (some ⟨b, 0, none⟩) n n]) ∧ EntsAt w' w.heap.size w'.heap.size (some ⟨b, 0, none⟩) n es) ∧ Below w.heap.size w w' := by
  go_enter Try.func67, Try.ntmps67
  go_wp2_with fail
  refine (toEntS_any _ _ _ _ L U _ hn (by simp; omega) (H.below ((((Below.refl _ _).alloc (Nat.le_refl _) _).alloc (by simp) _).alloc (by simp; omega) _) hU)).mono ?_
  rintro x w1 ⟨⟨b, rfl, hk⟩, hb⟩
  obtain ⟨hc, hf⟩ := bcell hb
  have hz : w.heap.size + 3 ≤ w1.heap.size := by have := hb.size; simp at this; omega
  have hb0 : Below w.heap.size w w1 := ((((Below.refl _ _).alloc (Nat.le_refl _) _).alloc (by simp) _).alloc (by simp; omega) _).trans (hb.mono (by simp; omega))
  go_wp2_with fail
  refine bodyPost_ret (v := .agg #[.int .i64 k, .int .i64 v, .string s, .slice (some ⟨b, 0, none⟩) n n]) (by simp [results, Try.results67, go_sem, hc]) rfl ⟨⟨b, rfl, ?_⟩, ?_⟩
  · refine EntsAt.wide (L := w.heap.size + 3) (U := w1.heap.size) ?_ (by omega) (by simp)
    have hk' : EntsAt w1 (w.heap.size + 3) w1.heap.size (some ⟨b, 0, none⟩) n es := hk.wide (by simp) (Nat.le_refl _)
    repeat (first | exact hk' | refine EntsAt.setCell ?_ _ _ (by simp <;> omega))
  · repeat (first | exact hb0 | refine Below.setCell ?_ (by simp <;> omega) _)

def Sizes (os : List LObj) (M : Nat) : Prop := ∀ o ∈ os, o.kids.length ≤ M

set_option maxHeartbeats 800000 in
theorem toObjS_any (a : Option Addr) (n c : Nat) (os : List LObj) (L U : Nat) (w : World) (hn : n ≤ 1048576) (hS : Sizes os 1048576) (hU : U ≤ w.heap.size) (H : ObjsAt w L U a n os) :
    Calls Try.prog 40 #[.slice a n c] w fun e w' => (∃ b, e = .returned (.slice (some ⟨b, 0, none⟩) n n) ∧ ObjsAt w' w.heap.size w'.heap.size (some ⟨b, 0, none⟩) n os) ∧ Below w.heap.size w w' := by
  have hmk := run_make_many 37 68 _ 4 56 Try.underlying37 info34 n (by omega) (by omega)
  obtain ⟨f0, hf0⟩ := rowIs_many w #[.int .i64 0, .int .i64 0, .string ByteArray.empty, .slice none 0 0] (n * 4) 68
  have HF0 : Hid ((w.alloc (.cells (madeCells #[.int .i64 0, .int .i64 0, .string ByteArray.empty, .slice none 0 0] (n * 4)) 68)).rowIs w.heap.size 68 (n * 4) f0) := hf0
  clear hf0
  go_enter Try.func40, Try.ntmps40
  go_wp2
  go_loopg [4] n (fun k i wr => ∃ j : Nat, j ≤ n ∧ Hid (k = n - j) ∧ i = .int .i64 j ∧ (∃ f, Hid (wr.rowIs w.heap.size 68 (n * 4) f ∧ ∀ i, i < j → ∃ o ka kn kc, os[i]? = some o ∧ f (i * 4) = .int .i64 o.kind ∧ f (i * 4 + 1) = .int .i64 o.ver ∧ f (i * 4 + 2) = .string o.text ∧ f (i * 4 + 3) = .slice ka kn kc ∧ EntsAt wr (w.heap.size + 1) wr.heap.size ka kn o.kids)) ∧ Below w.heap.size w wr)
  case atStart => exact ⟨0, Nat.zero_le _, by show _ = _; omega, rfl, ⟨f0, HF0.out, fun i hi => by omega⟩, (Below.refl _ _).alloc (Nat.le_refl _) _⟩
  case round =>
    obtain ⟨j, hj, hk, rfl, ⟨f, hf⟩, hb⟩ := hrel
    by_cases hlt : j < n
    · obtain ⟨b, off, ha, hL, hbU, hc⟩ := H.at_ (by omega)
      subst ha
      obtain ⟨o, ka, kn, kc, he, hsz, hc0, hc1, hc2, hc3, hks⟩ := hc j hlt
      have hkn : kn ≤ 1048576 := by rw [hks.len]; exact hS o (List.mem_of_getElem? he)
      rw [← hb.cell (by simp; omega)] at hc0 hc1 hc2 hc3
      have HE : Hid (os[j]? = some o) := he
      clear he hc
      have hrl := hf.out.1.lt
      go_wp2_with fail
      refine (toObj_any _ _ _ _ _ _ _ L U _ hkn (by have := hb.size; omega) (hks.below hb hU)).mono ?_
      rintro x w1 ⟨⟨kb, rfl, hke⟩, hb1⟩
      have hrow := hf.out.1.of_block (hb1.block w.heap.size hf.out.1.lt)
      have g0 := hrow.cell (i := j * 4) (by omega)
      have g1 := hrow.cell (i := j * 4 + 1) (by omega)
      have g2 := hrow.cell (i := j * 4 + 2) (by omega)
      have g3 := hrow.cell (i := j * 4 + 3) (by omega)
      have z0 := hrow.frozen (j * 4)
      have z1 := hrow.frozen (j * 4 + 1)
      have z2 := hrow.frozen (j * 4 + 2)
      have z3 := hrow.frozen (j * 4 + 3)
      have HR : Hid (w1.rowIs w.heap.size 68 (n * 4) f) := hrow
      clear hrow
      go_wp2_with fail
      go_roundg (n - (j + 1))
      case measure => have := hk.out; omega
      case rel =>
        have hbs := hb1.size
        refine ⟨j + 1, by omega, rfl, by go_num, ⟨_, (((HR.out.set (j * 4) (.int .i64 o.kind)).set (j * 4 + 1) (.int .i64 o.ver)).set (j * 4 + 2) (.string o.text)).set (j * 4 + 3) (.slice (some ⟨kb, 0, none⟩) kn kn), fun i hi => ?_⟩, ((((hb.trans (hb1.mono hb.size)).setCell (by simp) _).setCell (by simp) _).setCell (by simp) _).setCell (by simp) _⟩
        by_cases hij : i = j
        · subst hij
          refine ⟨o, _, _, _, HE.out, by simp, by simp, by simp, by simp; exact ⟨rfl, rfl, rfl⟩, ?_⟩
          refine EntsAt.wide (L := wr.heap.size) (U := w1.heap.size) ?_ (by omega) (by simp)
          repeat (first | exact hke | refine EntsAt.setCell ?_ _ _ (by simp <;> omega))
        · obtain ⟨o', ka', kn', kc', he', q0, q1, q2, q3, qk⟩ := hf.out.2 i (by omega)
          refine ⟨o', ka', kn', kc', he', ?_, ?_, ?_, ?_, ?_⟩
          · rw [if_neg (by omega), if_neg (by omega), if_neg (by omega), if_neg (by omega)]; exact q0
          · rw [if_neg (by omega), if_neg (by omega), if_neg (by omega), if_neg (by omega)]; exact q1
          · rw [if_neg (by omega), if_neg (by omega), if_neg (by omega), if_neg (by omega)]; exact q2
          · rw [if_neg (by omega), if_neg (by omega), if_neg (by omega), if_neg (by omega)]; exact q3
          · refine EntsAt.wide (L := w.heap.size + 1) (U := wr.heap.size) ?_ (by omega) (by simp; omega)
            have qk' := qk.below hb1 (Nat.le_refl _)
            repeat (first | exact qk' | refine EntsAt.setCell ?_ _ _ (by simp))
    · go_wp2_with fail
      go_ret
      refine ⟨⟨w.heap.size, rfl, H.len, H.bd, fun hn0 => ⟨w.heap.size, 0, rfl, Nat.le_refl _, hf.out.1.lt, fun i hi => ?_⟩⟩, hb⟩
      obtain ⟨o', ka', kn', kc', he', q0, q1, q2, q3, qk⟩ := hf.out.2 i (by omega)
      obtain ⟨b, off, ha, hL, hbU, hc⟩ := H.at_ hn0
      obtain ⟨o2, _, _, _, he2, hsz, _⟩ := hc i hi
      rw [he'] at he2
      cases he2
      refine ⟨o', ka', kn', kc', he', hsz, ?_, ?_, ?_, ?_, qk.wide (by omega) (Nat.le_refl _)⟩
      · rw [← q0, Nat.zero_add]; exact hf.out.1.cell (by omega)
      · rw [← q1, Nat.zero_add]; exact hf.out.1.cell (by omega)
      · rw [← q2, Nat.zero_add]; exact hf.out.1.cell (by omega)
      · rw [← q3, Nat.zero_add]; exact hf.out.1.cell (by omega)

set_option maxHeartbeats 400000 in
theorem toTree_any (a : Option Addr) (n c : Nat) (os : List LObj) (L U : Nat) (w : World) (hn : n ≤ 1048576) (hS : Sizes os 1048576) (hU : U ≤ w.heap.size) (H : ObjsAt w L U a n os) :
    Calls Try.prog 18 #[.agg #[.slice a n c]] w fun e w' => (∃ b, e = .returned (.agg #[.slice (some ⟨b, 0, none⟩) n n]) ∧ ObjsAt w' w.heap.size w'.heap.size (some ⟨b, 0, none⟩) n os) ∧ Below w.heap.size w w' := by
  go_enter Try.func18, Try.ntmps18
  go_wp2_with fail
  refine (toObjS_any _ _ _ _ L U _ hn hS (by simp; omega) (H.below ((((Below.refl _ _).alloc (Nat.le_refl _) _).alloc (by simp) _).alloc (by simp; omega) _) hU)).mono ?_
  rintro x w1 ⟨⟨b, rfl, hk⟩, hb⟩
  obtain ⟨hc, hf⟩ := bcell hb
  have hz : w.heap.size + 3 ≤ w1.heap.size := by have := hb.size; simp at this; omega
  have hb0 : Below w.heap.size w w1 := ((((Below.refl _ _).alloc (Nat.le_refl _) _).alloc (by simp) _).alloc (by simp; omega) _).trans (hb.mono (by simp; omega))
  go_wp2_with fail
  refine bodyPost_ret (v := .agg #[.slice (some ⟨b, 0, none⟩) n n]) (by simp [results, Try.results18, go_sem, hc]) rfl ⟨⟨b, rfl, ?_⟩, ?_⟩
  · refine ObjsAt.wide (L := w.heap.size + 3) (U := w1.heap.size) ?_ (by omega) (by simp)
    have hk' : ObjsAt w1 (w.heap.size + 3) w1.heap.size (some ⟨b, 0, none⟩) n os := hk.wide (by simp) (Nat.le_refl _)
    repeat (first | exact hk' | refine ObjsAt.setCell ?_ _ _ (by simp <;> omega))
  · repeat (first | exact hb0 | refine Below.setCell ?_ (by simp <;> omega) _)

end Go.Proofs.Ytnfegihemhidgaa
