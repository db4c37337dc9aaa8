import Derived.Test.YtdjffkiiglilnaaReader
import Derived.Test.YtdjffkiiglilnaaEq
import Derived.OwnWalk
import Derived.Deep.AppendLies
import Derived.Deep.Onto
import Derived.Test.YtdjffkiiglilnaaMark
/- Draws over a tree: one of a list of numbers; the numbers of the objects of a kind. -/
namespace Go.Proofs.Ytdjffkiiglilnaa
open Go.RowKit

/-- One of a list of numbers. -/
def NumEnd (G : Int → Prop) (e : Ending) : Prop := ∃ z : Int, e = .returned (.int .i64 z) ∧ G z

set_option maxHeartbeats 400000 in
theorem num_any (G : Int → Prop) (rb p lb q c : Nat) (w : World) (hp : p ≤ 1000000) (hq : 1 ≤ q) (hq2 : q ≤ 1000000) (hlb : lb ≠ rb) (H : RdAt w rb p) (hc : ∀ i, i < q → ∃ z : Int, w.cell? ⟨lb, i, none⟩ = some (.int .i64 z) ∧ G z) :
    Calls Try.prog 88 #[.pointer (some ⟨rb, 0, none⟩), .slice (some ⟨lb, 0, none⟩) q c] w fun e w' => NumEnd G e ∧ RdAt w' rb (p + 1) ∧ Drawn w w' rb := by
  go_enter Try.func88, Try.ntmps88
  go_wp2_with fail
  refine (pick_rd rb p q _ hp hq hq2 H).mono ?_
  rintro e w1 ⟨⟨x, rfl, hx⟩, hr, hd⟩
  obtain ⟨s, hs, hsz⟩ := hc x hx
  have hs1 : w1.cell? ⟨lb, x, none⟩ = some (.int .i64 s) := by rw [hd.cell (by simpa using hlb)]; exact hs
  have hx' : (x : Int) < (q : Int) := by omega
  clear hs hc
  go_wp2_with fail
  go_ret
  exact ⟨⟨s, rfl, hsz⟩, hr, hd⟩

/-- Whether an object is of a kind, or of any but none. -/
def liveB (kind : Int) (o : LObj) : Bool := !decide (o.kind = 0) && (decide (kind = 0) || decide (o.kind = kind))
/-- The numbers of the objects of a kind among the first k. -/
def liveL (os : List LObj) (kind : Int) (k : Nat) : List Nat := (List.range k).filter fun i => match os[i]? with | some o => liveB kind o | none => false
theorem liveL_le (os : List LObj) (kind : Int) (k : Nat) : (liveL os kind k).length ≤ k := by
  have := List.length_filter_le (fun i => match os[i]? with | some o => liveB kind o | none => false) (List.range k)
  simpa [liveL] using this
theorem liveL_yes {os : List LObj} {kind : Int} {k : Nat} {o : LObj} (h : os[k]? = some o) (hb : liveB kind o = true) : liveL os kind (k + 1) = liveL os kind k ++ [k] := by
  simp [liveL, List.range_succ, List.filter_append, h, hb]
theorem liveL_no {os : List LObj} {kind : Int} {k : Nat} {o : LObj} (h : os[k]? = some o) (hb : liveB kind o = false) : liveL os kind (k + 1) = liveL os kind k := by
  simp [liveL, List.range_succ, List.filter_append, h, hb]

def OwnInts (w : World) (B : Nat) (v : Value) (l : List Nat) : Prop := w.ownsRow B 3 1 v l.length (l.map fun i : Nat => Value.int .i64 i)
theorem infoI : (Try.prog.info? 3).map (fun i => (i.zero, i.size, i.bytes)) = some (some (.int .i64 0), 1, 8) := by kernel_rfl

theorem below_grown {B : Nat} {w w1 w2 : World} {row : Option Nat} (h : Below B w w1) (hg : w1.grownBy w2 row) (hr : ∀ k, row = some k → B ≤ k) (hs : B ≤ w1.heap.size) : Below B w w2 :=
  h.trans ⟨hg.os, hg.tape, hg.output, hg.size, fun k hk => hg.block k (by omega) (fun e => by have := hr k e.symm; omega)⟩

theorem one_at {w : World} {u v : Value} {t : TypeId} {i : Nat} (h : [v][i]? = some u) : (w.alloc (Obj.cells #[v] t)).cell? ((⟨w.heap.size, 0, none⟩ : Addr).add i) = some u := by
  match i, h with
  | 0, h => simp at h; subst h; simp [Addr.add]
theorem keepInts {wr w0 w1 : World} {B : Nat} {u v' : Value} {l : List Nat} {j : Nat} {y : Value} {o1 : Obj} (hown : Hid (OwnInts wr (B + 1) u l)) (hbx : wr.cell? ⟨B, 0, none⟩ = some y) (hb : Below (B + 1) w0 wr) (hsz : B + 1 ≤ wr.heap.size)
    (hown' : w1.ownsRow (B + 1) 3 1 v' (l.length + 1) (l.map (fun i : Nat => Value.int .i64 i) ++ [Value.int .i64 (j : Int)])) (hgrow : (wr.alloc o1).grownBy w1 u.ownBlock) :
    OwnInts w1 (B + 1) v' (l ++ [j]) ∧ w1.cell? ⟨B, 0, none⟩ = some y ∧ Below (B + 1) w0 w1 := by
  have hr : ∀ k, u.ownBlock = some k → B + 1 ≤ k := fun k e => (hown.out.lt k e).1
  have hb1 : Below (B + 1) wr w1 := below_grown ((Below.refl _ _).alloc (by omega) _) hgrow hr (by simp; omega)
  exact ⟨by simpa [OwnInts] using hown', by rw [hb1.cell (by simp)]; exact hbx, hb.trans hb1⟩

set_option maxHeartbeats 1000000 in
set_option maxRecDepth 20000 in
theorem live_any (a : Option Addr) (n c : Nat) (os : List LObj) (L U : Nat) (kind : Int) (w : World) (hn : n ≤ 1048576) (hU : U ≤ w.heap.size) (H : ObjsAt w L U a n os) :
    Calls Try.prog 121 #[.agg #[.slice a n c], .int .i64 kind] w fun e w' => (∃ v, e = .returned v ∧ Hid (OwnInts w' w.heap.size v (liveL os kind n))) ∧ Below w.heap.size w w' := by
  obtain ⟨i0, hi, hz0, hz1, hz2⟩ := info_parts infoI
  go_enter Try.func121, Try.ntmps121
  go_wp2_with fail
  go_loopg [5, 6] n (fun k v i wr => ∃ j : Nat, j ≤ n ∧ Hid (k = n - j) ∧ i = .int .i64 j ∧ Hid (OwnInts wr (w.heap.size + 1) v (liveL os kind j)) ∧ wr.cell? ⟨w.heap.size, 0, none⟩ = some (.slice a n c) ∧ Below (w.heap.size + 1) (w.alloc (Obj.cells #[.slice a n c] 25)) wr)
  case atStart => exact ⟨0, Nat.zero_le _, rfl, rfl, by show OwnInts _ _ _ _; simpa [OwnInts, liveL] using World.ownsRow_lit (base := w.heap.size + 1) (e := 3) (size := 1) (w.alloc (Obj.cells #[Value.slice a n c] 25)) #[] 0 (by simp) (by simp [maxLen]) rfl, by simp [go_sem], (Below.refl _ _).alloc (by simp) _⟩
  case round =>
    obtain ⟨j, hj, hk, rfl, hown, hbx, hb⟩ := hrel
    have hsz := hb.size
    simp at hsz
    have hbw : Below w.heap.size w wr := ((Below.refl w.heap.size w).alloc (Nat.le_refl _) _).trans (hb.mono (by omega))
    by_cases hlt : j < n
    · obtain ⟨b, off, ha, hL, hbU, hc⟩ := H.at_ (by omega)
      subst ha
      obtain ⟨o, ka, kn, kc, he, hts, hc0, hc1, hc2, hc3, hks⟩ := hc j hlt
      have hd0 : wr.cell? ⟨b, off + j * 4, none⟩ = some (.int .i64 o.kind) := by rw [hbw.cell (by simp; omega)]; exact hc0
      have HE : Hid (os[j]? = some o) := he
      clear he hc hc0 hc1 hc2 hc3 hks
      by_cases hk0 : o.kind = 0
      · have HL : Hid (liveL os kind (j + 1) = liveL os kind j) := liveL_no HE.out (by simp [liveB, hk0])
        have t0 : (o.kind != 0) = false := by simp [hk0]
        clear hk0
        go_wp2_with fail
        go_roundg (n - (j + 1))
        case measure => have := hk.out; omega
        case rel => exact ⟨j + 1, by omega, rfl, by go_num, by show OwnInts _ _ _ _; rw [HL.out]; exact hown.out, hbx, hb⟩
      · have t0 : (o.kind != 0) = true := by simp [hk0]
        have HK0 : Hid (¬ o.kind = 0) := hk0
        have hle := liveL_le os kind j
        clear hk0
        by_cases hk1 : kind = 0
        · have HL : Hid (liveL os kind (j + 1) = liveL os kind j ++ [j]) := liveL_yes HE.out (by simp [liveB, HK0.out, hk1])
          have t1 : (kind == 0) = true := by simp [hk1]
          clear hk1
          go_wp2_with (first
            | (at_builtin; refine wpList_append_own _ rfl _ _ 88 rfl (w.heap.size + 1) 3 i0 (.int .i64 0) 1 8 Try.underlying88 hi hz0 hz1 hz2 rfl (by decide) _ _ _ rfl (hown.out.alloc _) ⟨wr.heap.size, 0, none⟩ 1 1 [.int .i64 (j : Int)] rfl rfl ?c1 ?c2 ?c3 ?c4 ?c5 ?_)
            | go_in)
          case c1 => intro i u hi; exact one_at hi
          case c2 => intro u hu; simp at hu; subst hu; rfl
          case c3 => unfold maxLen; omega
          case c4 => omega
          case c5 => simp; omega
          intro v' w1 hown' hgrow _
          have R := keepInts hown hbx hb hsz hown' hgrow
          clear hown' hgrow hown hbx hb
          go_wp2_with fail
          go_roundg (n - (j + 1))
          case measure => have := hk.out; omega
          case rel => exact ⟨j + 1, by omega, rfl, by go_num, by show OwnInts _ _ _ _; rw [HL.out]; exact R.1, R.2.1, R.2.2⟩
        · have t1 : (kind == 0) = false := by simp [hk1]
          have HK1 : Hid (¬ kind = 0) := hk1
          clear hk1
          by_cases hk2 : o.kind = kind
          · have HL : Hid (liveL os kind (j + 1) = liveL os kind j ++ [j]) := liveL_yes HE.out (by simp [liveB, hk2]; exact HK1.out)
            have t2 : (o.kind == kind) = true := by simp [hk2]
            clear hk2
            go_wp2_with (first
              | (at_builtin; refine wpList_append_own _ rfl _ _ 88 rfl (w.heap.size + 1) 3 i0 (.int .i64 0) 1 8 Try.underlying88 hi hz0 hz1 hz2 rfl (by decide) _ _ _ rfl (hown.out.alloc _) ⟨wr.heap.size, 0, none⟩ 1 1 [.int .i64 (j : Int)] rfl rfl ?c1 ?c2 ?c3 ?c4 ?c5 ?_)
              | go_in)
            case c1 => intro i u hi; exact one_at hi
            case c2 => intro u hu; simp at hu; subst hu; rfl
            case c3 => unfold maxLen; omega
            case c4 => omega
            case c5 => simp; omega
            intro v' w1 hown' hgrow _
            have R := keepInts hown hbx hb hsz hown' hgrow
            clear hown' hgrow hown hbx hb
            go_wp2_with fail
            go_roundg (n - (j + 1))
            case measure => have := hk.out; omega
            case rel => exact ⟨j + 1, by omega, rfl, by go_num, by show OwnInts _ _ _ _; rw [HL.out]; exact R.1, R.2.1, R.2.2⟩
          · have HL : Hid (liveL os kind (j + 1) = liveL os kind j) := liveL_no HE.out (by simp [liveB, HK0.out, hk2, HK1.out])
            have t2 : (o.kind == kind) = false := by simp [hk2]
            clear hk2
            go_wp2_with fail
            go_roundg (n - (j + 1))
            case measure => have := hk.out; omega
            case rel => exact ⟨j + 1, by omega, rfl, by go_num, by show OwnInts _ _ _ _; rw [HL.out]; exact hown.out, hbx, hb⟩
    · obtain rfl : j = n := by omega
      go_wp2_with fail
      go_ret
      exact ⟨⟨_, rfl, hown.out.mono (by omega)⟩, hbw⟩
end Go.Proofs.Ytdjffkiiglilnaa

/- Draws over a tree: a directory's number, any number. -/
namespace Go.Proofs.Ytdjffkiiglilnaa
open Go.RowKit

theorem EntsAt.but {w w' : World} {L U rb : Nat} {a : Option Addr} {n : Nat} {es : List LEnt} (h : EntsAt w L U a n es) (hb : But rb w w') (hr : rb < L) (hU : U ≤ w.heap.size) : EntsAt w' L U a n es :=
  ⟨h.len, h.bd, fun hn => by
    obtain ⟨b, off, ha, hL, hbU, hc⟩ := h.at_ hn
    refine ⟨b, off, ha, hL, hbU, fun i hi => ?_⟩
    obtain ⟨e, h1, h2, h3, h4⟩ := hc i hi
    exact ⟨e, h1, h2, by rw [hb.cell (by simp; omega) (by simp; omega)]; exact h3, by rw [hb.cell (by simp; omega) (by simp; omega)]; exact h4⟩⟩
theorem ObjsAt.but {w w' : World} {L U rb : Nat} {a : Option Addr} {n : Nat} {os : List LObj} (h : ObjsAt w L U a n os) (hb : But rb w w') (hr : rb < L) (hU : U ≤ w.heap.size) : ObjsAt w' L U a n os :=
  ⟨h.len, h.bd, fun hn => by
    obtain ⟨b, off, ha, hL, hbU, hc⟩ := h.at_ hn
    refine ⟨b, off, ha, hL, hbU, fun i hi => ?_⟩
    obtain ⟨o, ka, kn, kc, h1, h2, h3, h4, h5, h6, h7⟩ := hc i hi
    refine ⟨o, ka, kn, kc, h1, h2, ?_, ?_, ?_, ?_, h7.but hb hr hU⟩ <;> (rw [hb.cell (by simp; omega) (by simp; omega)]; assumption)⟩
theorem Drawn.but {rb : Nat} {w w' : World} (h : Drawn w w' rb) : But rb w w' := ⟨h.below, fun k hk _ => h.block k hk⟩
theorem But.of_below {rb : Nat} {w w' : World} (hb : rb < w.heap.size) (h : Below w.heap.size w w') : But rb w w' := ⟨h.mono (by omega), fun k _ hk => h.block k hk⟩
/-- A reader that is at most so far. -/
def RdTo (w : World) (rb p : Nat) : Prop := ∃ p', p' ≤ p ∧ RdAt w rb p'
theorem OwnInts.get {w : World} {B : Nat} {v : Value} {l : List Nat} (h : OwnInts w B v l) (hl : l ≠ []) : ∃ g c, v = .slice (some ⟨g, 0, none⟩) l.length c ∧ B ≤ g ∧ g < w.heap.size ∧ ∀ i, i < l.length → ∃ k, l[i]? = some k ∧ w.cell? ⟨g, i, none⟩ = some (.int .i64 (k : Nat)) := by
  have h0 : 0 < l.length := List.length_pos_iff.mpr hl
  obtain ⟨g, c, rfl, hb, hlt⟩ := World.ownsRow.form h h0
  refine ⟨g, c, rfl, hb, hlt, fun i hi => ⟨l[i], by simp [hi], ?_⟩⟩
  have := World.ownsRow.cellAt h i (by simpa using hi)
  rw [this]; simp [hi]
theorem liveL_lt {os : List LObj} {kind : Int} {k i : Nat} (h : i ∈ liveL os kind k) : i < k := by
  simp [liveL] at h; exact h.1
theorem OwnInts.nil {w : World} {B : Nat} {v : Value} (h : OwnInts w B v []) : ∃ a c, v = .slice a 0 c := by
  rcases h.2 with ⟨rfl, _⟩ | ⟨g, cap, cur, rfl, _⟩
  · exact ⟨_, _, rfl⟩
  · exact ⟨_, _, rfl⟩

set_option maxHeartbeats 1000000 in
set_option maxRecDepth 20000 in
theorem dir_any (rb p : Nat) (a : Option Addr) (n c : Nat) (os : List LObj) (L U : Nat) (w : World) (hp : p ≤ 999990) (hn : n ≤ 32) (hU : U ≤ w.heap.size) (H : ObjsAt w L U a n os) (R : RdAt w rb p) :
    Calls Try.prog 118 #[.pointer (some ⟨rb, 0, none⟩), .agg #[.slice a n c]] w fun e w' => NumEnd (fun z => 0 ≤ z ∧ z < 32) e ∧ RdTo w' rb (p + 2) ∧ But rb w w' := by
  have hrl := R.lt
  go_enter Try.func118, Try.ntmps118
  go_wp2_with fail
  have hA : Below w.heap.size w (w.alloc (Obj.cells #[.slice a n c] 25)) := (Below.refl _ _).alloc (Nat.le_refl _) _
  refine (live_any a n c os L U 2 _ (by omega) (by simp; omega) (H.below hA hU)).mono ?_
  rintro x w1 ⟨⟨v, rfl, hv⟩, hb1⟩
  have hB1 : But rb w w1 := But.of_below hrl (hA.trans (hb1.mono (by simp)))
  have R1 : RdAt w1 rb p := R.below (hA.trans (hb1.mono (by simp))) hrl
  have hz1 : w.heap.size + 1 ≤ w1.heap.size := by simpa using hb1.size
  clear hA hb1 R
  by_cases hl : liveL os 2 n = []
  · have hv' := hv.out
    rw [hl] at hv'
    obtain ⟨ga, gc, rfl⟩ := hv'.nil
    clear hv'
    go_wp2_with fail
    refine (num_any (fun z => 0 ≤ z ∧ z < 32) rb p w1.heap.size 3 3 _ (by omega) (by omega) (by omega) (by omega) (R1.below ((Below.refl _ _).alloc (Nat.le_refl _) _) (by omega)) ?_).mono ?_
    · intro i hi
      match i, hi with
      | 0, _ => exact ⟨0, by simp [go_sem], by omega, by omega⟩
      | 1, _ => exact ⟨1, by simp [go_sem], by omega, by omega⟩
      | 2, _ => exact ⟨31, by simp [go_sem], by omega, by omega⟩
    · rintro x w9 ⟨⟨z, rfl, hz⟩, R9, hd9⟩
      have hB9 : But rb w w9 := (hB1.next (by omega) ((Below.refl _ _).alloc (Nat.le_refl _) _)).trans hd9.but
      go_wp2_with fail
      go_ret
      exact ⟨⟨z, rfl, hz⟩, ⟨_, by omega, R9⟩, hB9⟩
  · obtain ⟨g, gc, rfl, hg, hgl, hcells⟩ := hv.out.get hl
    have hlen : 0 < (liveL os 2 n).length := List.length_pos_iff.mpr hl
    have hlen2 := liveL_le os 2 n
    have hgr : g ≠ rb := by simp at hg; omega
    have t0 : (((liveL os 2 n).length : Int) == 0) = false := by simp; omega
    have HC : Hid (∀ i, i < (liveL os 2 n).length → ∃ k, (liveL os 2 n)[i]? = some k ∧ w1.cell? { block := g, off := i } = some (Value.int IntKind.i64 (k : Nat))) := hcells
    clear hcells hv hg
    go_wp2_with fail
    refine (pick_rd rb p 12 _ (by omega) (by omega) (by omega) R1).mono ?_
    rintro e w2 ⟨⟨x, rfl, hx⟩, R2, hd2⟩
    have hB2 : But rb w w2 := hB1.trans hd2.but
    have hz2 : w1.heap.size = w2.heap.size := hd2.size.symm
    by_cases hx0 : x = 0
    · subst hx0
      go_wp2_with fail
      refine (num_any (fun z => 0 ≤ z ∧ z < 32) rb (p + 1) w2.heap.size 3 3 _ (by omega) (by omega) (by omega) (by omega) (R2.below ((Below.refl _ _).alloc (Nat.le_refl _) _) (by omega)) ?_).mono ?_
      · intro i hi
        match i, hi with
        | 0, _ => exact ⟨0, by simp [go_sem], by omega, by omega⟩
        | 1, _ => exact ⟨1, by simp [go_sem], by omega, by omega⟩
        | 2, _ => exact ⟨31, by simp [go_sem], by omega, by omega⟩
      · rintro x w9 ⟨⟨z, rfl, hz⟩, R9, hd9⟩
        have hB9 : But rb w w9 := (hB2.next (by omega) ((Below.refl _ _).alloc (Nat.le_refl _) _)).trans hd9.but
        go_wp2_with fail
        go_ret
        exact ⟨⟨z, rfl, hz⟩, ⟨_, by omega, R9⟩, hB9⟩
    · have t1 : ((x : Int) == 0) = false := by simp; omega
      go_wp2_with fail
      refine (pick_rd rb (p + 1) (liveL os 2 n).length _ (by omega) (by omega) (by omega) R2).mono ?_
      rintro e w3 ⟨⟨y, rfl, hy⟩, R3, hd3⟩
      obtain ⟨k, hk, hcell⟩ := HC.out y hy
      have hk32 : k < n := liveL_lt (List.mem_of_getElem? hk)
      have hc3 : w3.cell? ⟨g, y, none⟩ = some (.int .i64 (k : Int)) := by rw [hd3.cell (by simpa using hgr), hd2.cell (by simpa using hgr)]; exact hcell
      have hy' : (y : Int) < ((liveL os 2 n).length : Int) := by omega
      have hB3 : But rb w w3 := hB2.trans hd3.but
      clear hk hcell
      go_wp2_with fail
      go_ret
      exact ⟨⟨k, rfl, by omega, by omega⟩, ⟨_, by omega, R3⟩, hB3⟩

end Go.Proofs.Ytdjffkiiglilnaa

/- Draws over a tree: a number that was nobody's. -/
namespace Go.Proofs.Ytdjffkiiglilnaa
open Go.RowKit

set_option maxHeartbeats 1000000 in
set_option maxRecDepth 20000 in
theorem id_any (rb p : Nat) (a : Option Addr) (n c : Nat) (os : List LObj) (L U : Nat) (who : Int) (w : World) (hp : p ≤ 999990) (hn : n ≤ 32) (hn1 : 1 ≤ n) (hU : U ≤ w.heap.size) (H : ObjsAt w L U a n os) (R : RdAt w rb p) :
    Calls Try.prog 120 #[.pointer (some ⟨rb, 0, none⟩), .agg #[.slice a n c], .int .i64 who] w fun e w' => NumEnd (fun z => 1 ≤ z ∧ z < 32) e ∧ RdTo w' rb (p + 1) ∧ But rb w w' := by
  have hrl := R.lt
  have hA : Below w.heap.size w (w.alloc (Obj.cells #[.slice a n c] 25)) := (Below.refl _ _).alloc (Nat.le_refl _) _
  go_enter Try.func120, Try.ntmps120
  go_wp2_with fail
  go_loopg [7] (n - 1) (fun k i wr => ∃ j : Nat, 1 ≤ j ∧ j ≤ n ∧ Hid (k = n - j) ∧ i = .int .i64 j ∧ wr = w.alloc (Obj.cells #[.slice a n c] 25))
  case atStart => exact ⟨1, by omega, by omega, rfl, rfl, rfl⟩
  case round =>
    obtain ⟨j, hj1, hj, hk, rfl, rfl⟩ := hrel
    by_cases hlt : j < n
    · obtain ⟨b, off, ha, hL, hbU, hc⟩ := H.at_ (by omega)
      subst ha
      obtain ⟨o, ka, kn, kc, he, hts, hc0, hc1, hc2, hc3, hks⟩ := hc j hlt
      rw [← hA.cell (by simp; omega)] at hc0 hc1
      clear he hc hc2 hc3 hks
      by_cases hw : (j : Int) % 4 = who
      · have t0 : ((j : Int) % 4 == who) = true := by simpa using hw
        clear hw
        by_cases hw1 : o.kind = 0
        · have t1 : (o.kind == 0) = true := by simpa using hw1
          clear hw1
          by_cases hw2 : o.ver = 0
          · have t2 : (o.ver == 0) = true := by simpa using hw2
            clear hw2
            go_wp2_with fail
            go_ret
            exact ⟨⟨j, rfl, by omega, by omega⟩, ⟨p, by omega, R.below hA hrl⟩, But.of_below hrl hA⟩
          · have t2 : (o.ver == 0) = false := by simpa using hw2
            clear hw2
            go_wp2_with fail
            go_roundg (n - (j + 1))
            case measure => have := hk.out; omega
            case rel => exact ⟨j + 1, by omega, by omega, rfl, by go_num, rfl⟩
        · have t1 : (o.kind == 0) = false := by simpa using hw1
          clear hw1
          go_wp2_with fail
          go_roundg (n - (j + 1))
          case measure => have := hk.out; omega
          case rel => exact ⟨j + 1, by omega, by omega, rfl, by go_num, rfl⟩
      · have t0 : ((j : Int) % 4 == who) = false := by simpa using hw
        clear hw
        go_wp2_with fail
        go_roundg (n - (j + 1))
        case measure => have := hk.out; omega
        case rel => exact ⟨j + 1, by omega, by omega, rfl, by go_num, rfl⟩
    · go_wp2_with fail
      refine (pick_rd rb p 31 _ (by omega) (by omega) (by omega) (R.below hA hrl)).mono ?_
      rintro e w2 ⟨⟨x, rfl, hx⟩, R2, hd2⟩
      have hB : But rb w w2 := (But.of_below hrl hA).trans hd2.but
      go_wp2_with fail
      go_ret
      exact ⟨⟨1 + (x : Int), rfl, by omega, by omega⟩, ⟨_, by omega, R2⟩, hB⟩
end Go.Proofs.Ytdjffkiiglilnaa
