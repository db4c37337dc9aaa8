/- Lemmas that the proofs of this seat share: Mark, Drawers, Out, App. -/
import Derived.Test.YtnolbfijcnldjaaGreatDoorU01
import Derived.Deep.DeepCutAuto
import Derived.Laws.IdiomStrings
import Derived.OwnWalk
import Derived.Deep.AppendLies
import Derived.Deep.Onto
import Derived.Deep.RegionLaw
import Derived.Deep.RegionWith
import Derived.Maps.AppendAt
/- Marks laid into a tree and looked for again; a tree that is opened: contracts. -/
namespace Go.Proofs.YtnolbfijcnldjaaGreatDoor
open Go.RowKit

def dg (x : Nat) : UInt8 := UInt8.ofNat (48 + x % 10)
def digs : Nat → Nat → ByteArray → ByteArray
  | 0, _, s => s
  | f + 1, k, s => if 0 < k then digs f (k / 10) (⟨#[dg k]⟩ ++ s) else s
def mkT (k : Nat) : ByteArray := ⟨#[109]⟩ ++ digs k k ⟨#[]⟩

theorem conv1 (wr : World) (x : Nat) : (convert 22 9 (.slice (some ⟨wr.heap.size, 0, none⟩) 1 1)).run Tryz.prog (wr.alloc (Obj.cells #[Value.int IntKind.u8 (48 + (x : Int) % 10)] 5)) = .ok (.string ⟨#[dg x]⟩) (wr.alloc (Obj.cells #[Value.int IntKind.u8 (48 + (x : Int) % 10)] 5)) := by
  refine run_convert_bytes_back (P := Tryz.prog) (wr.alloc (Obj.cells #[Value.int IntKind.u8 (48 + (x : Int) % 10)] 5)) 22 9 5 ⟨wr.heap.size, 0, none⟩ 1 [UInt8.ofNat (48 + x % 10)] Tryz.underlying22 Tryz.underlying5 Tryz.underlying9 (fun j hj => ?_)
  have : j = 0 := by simpa using hj
  subst this
  have e : (48 + x % 10) % 256 = 48 + x % 10 := by omega
  simp [go_sem, Addr.add, UInt8.toNat_ofNat', e]

/-- What a tree that is opened holds, cell by cell. -/
def openF (i : Nat) : Value := if i = 0 then .int .i64 2 else if i = 1 then .int .i64 1 else if i % 4 = 2 then .string ⟨#[]⟩ else if i % 4 = 3 then .slice none 0 0 else .int .i64 0
def zs128 : Array Value := madeCells #[.int .i64 0, .int .i64 0, .string ByteArray.empty, .slice none 0 0] (32 * 4)
theorem make128 (w : World) : (Instr.makeSlice 23 (.int .i64 32) (.int .i64 32)).run Tryz.prog w = .ok (.slice (some ⟨w.heap.size, 0, none⟩) 32 32) (w.alloc (.cells zs128 38)) := by
  have h := run_make_many 23 38 _ 4 56 Tryz.underlying23 info34 32 (by omega) (by omega) w
  have e : ((32 : Nat) : Int) = 32 := by omega
  rw [e] at h
  exact h
theorem zs128_at (i : Nat) (hi : i < 128) : zs128[i]? = some (if i % 4 = 2 then .string ⟨#[]⟩ else if i % 4 = 3 then .slice none 0 0 else .int .i64 0) := by
  have h4 : i % 4 < 4 := Nat.mod_lt _ (by omega)
  unfold zs128 madeCells
  simp [hi]
  rcases (show i % 4 = 0 ∨ i % 4 = 1 ∨ i % 4 = 2 ∨ i % 4 = 3 by omega) with h | h | h | h <;> simp [h] <;> rfl
def OpenEnd (w : World) (e : Ending) (w' : World) : Prop := ∃ b, e = .returned (.agg #[.slice (some ⟨b, 0, none⟩) 32 32]) ∧ w.heap.size ≤ b ∧ w'.rowIs b 38 128 openF

def openA : Array Value := (((zs128.setIfInBounds 0 (Value.int IntKind.i64 2)).setIfInBounds 1 (Value.int IntKind.i64 1)).setIfInBounds 2 (Value.string ⟨#[]⟩)).setIfInBounds 3 (Value.slice none 0 0)
theorem openA_row (w : World) : (w.alloc (.cells openA 38)).rowIs w.heap.size 38 128 openF := by
  have e0 : zs128.size = 128 := by unfold zs128; rw [size_madeCells]
  have e : openA.size = 128 := by unfold openA; simp [e0]
  have h := World.rowIs_alloc w openA 38 openF (fun i hi => by
    rw [e] at hi
    have hz := zs128_at i hi
    unfold openA openF
    rw [Array.getElem?_setIfInBounds, Array.getElem?_setIfInBounds, Array.getElem?_setIfInBounds, Array.getElem?_setIfInBounds]
    simp only [Array.size_setIfInBounds, e0]
    by_cases h3 : i = 3
    · subst h3; rfl
    by_cases h2 : i = 2
    · subst h2; rfl
    by_cases h1 : i = 1
    · subst h1; rfl
    by_cases h0 : i = 0
    · subst h0; rfl
    rw [if_neg (fun h => h3 h.symm), if_neg (fun h => h2 h.symm), if_neg (fun h => h1 h.symm), if_neg (fun h => h0 h.symm), hz, if_neg h0, if_neg h1])
  rwa [e] at h

set_option maxHeartbeats 1000000 in
theorem specOpen (w : World) : Calls Tryz.prog 113 #[] w fun e w' => OpenEnd w e w' ∧ Below w.heap.size w w' := by
  have hmk := make128
  have z0 : zs128[0]? = some (.int .i64 0) := zs128_at 0 (by omega)
  have z1 : zs128[1]? = some (.int .i64 0) := zs128_at 1 (by omega)
  have z2 : zs128[2]? = some (.string ⟨#[]⟩) := zs128_at 2 (by omega)
  have z3 : zs128[3]? = some (.slice none 0 0) := zs128_at 3 (by omega)
  go_enter Tryz.func113, Tryz.ntmps113
  go_wp2_with fail
  have hr := openA_row (w.alloc (Obj.cells #[Value.slice (some ⟨w.heap.size + 1, 0, none⟩) 32 32] 25))
  refine bodyPost_ret (v := .agg #[.slice (some ⟨w.heap.size + 1, 0, none⟩) 32 32]) (by simp [results, Tryz.results113, go_sem]) rfl ⟨⟨w.heap.size + 1, rfl, by omega, ?_⟩, ?_⟩
  · have h2 := World.rowIs.alloc hr (Obj.cells #[Value.slice (some ⟨w.heap.size + 1, 0, none⟩) 32 32] 25)
    unfold openA at h2
    simpa using h2
  · repeat (first | exact Below.refl _ _ | refine Below.alloc ?_ (by simp <;> omega) _)

theorem markEntS_nil (k : Int) (w : World) : Calls Tryz.prog 163 #[.slice none 0 0, .int .i64 k] w fun e w' => e = .returned (.int .i64 k) ∧ w' = w := by
  go_enter Tryz.func163, Tryz.ntmps163
  go_wp2_with fail
  go_loopg [1, 5] 0 (fun g x i wr => x = .int .i64 k ∧ i = .int .i64 0 ∧ wr = w)
  case atStart => exact ⟨rfl, rfl, rfl⟩
  case round =>
    obtain ⟨rfl, rfl, rfl⟩ := hrel
    go_wp2_with fail
    go_ret
    exact ⟨rfl, rfl⟩
theorem heldEntS_nil (k : Int) (w : World) : Calls Tryz.prog 164 #[.slice none 0 0, .int .i64 k] w fun e w' => e = .returned (.int .i64 k) ∧ w' = w := by
  go_enter Tryz.func164, Tryz.ntmps164
  go_wp2_with fail
  go_loopg [1, 5] 0 (fun g x i wr => x = .int .i64 k ∧ i = .int .i64 0 ∧ wr = w)
  case atStart => exact ⟨rfl, rfl, rfl⟩
  case round =>
    obtain ⟨rfl, rfl, rfl⟩ := hrel
    go_wp2_with fail
    go_ret
    exact ⟨rfl, rfl⟩

/-- All blocks that were there but one are as they were. -/
structure But (b : Nat) (w w' : World) : Prop where
  below : Below b w w'
  block : ∀ k, k ≠ b → k < w.heap.size → w'.heap[k]? = w.heap[k]?
theorem But.cell {b : Nat} {w w' : World} (h : But b w w') {q : Addr} (h1 : q.block ≠ b) (h2 : q.block < w.heap.size) : w'.cell? q = w.cell? q := World.cell?_of_block (w := w) (h.block q.block h1 h2)
theorem But.refl (b : Nat) (w : World) : But b w w := ⟨Below.refl _ _, fun _ _ _ => rfl⟩
theorem But.trans {b : Nat} {w w1 w2 : World} (h : But b w w1) (k : But b w1 w2) : But b w w2 :=
  ⟨h.below.trans k.below, fun i h1 h2 => (k.block i h1 (by have := h.below.size; omega)).trans (h.block i h1 h2)⟩
theorem But.next {b : Nat} {w w1 w2 : World} (h : But b w w1) (hb : b ≤ w1.heap.size) (k : Below w1.heap.size w1 w2) : But b w w2 :=
  h.trans ⟨k.mono hb, fun i _ h2 => k.block i h2⟩
theorem But.set {b : Nat} {w w1 : World} (h : But b w w1) (o : Nat) (v : Value) : But b w (w1.setCell ⟨b, o, none⟩ v) :=
  h.trans ⟨(Below.refl _ _).setCell (by exact Nat.le_refl _) _, fun i h1 _ => Below.heap_setCell w1 ⟨b, o, none⟩ v i h1⟩

end Go.Proofs.YtnolbfijcnldjaaGreatDoor

/- Draws over a tree: one of a list of numbers; the numbers of the objects of a kind. -/
namespace Go.Proofs.YtnolbfijcnldjaaGreatDoor
open Go.RowKit

/-- One of a list of numbers. -/
def NumEnd (G : Int → Prop) (e : Ending) : Prop := ∃ z : Int, e = .returned (.int .i64 z) ∧ G z

set_option maxHeartbeats 400000 in
theorem num_any (G : Int → Prop) (rb p lb q c : Nat) (w : World) (hp : p ≤ 1000000) (hq : 1 ≤ q) (hq2 : q ≤ 1000000) (hlb : lb ≠ rb) (H : RdAt w rb p) (hc : ∀ i, i < q → ∃ z : Int, w.cell? ⟨lb, i, none⟩ = some (.int .i64 z) ∧ G z) :
    Calls Tryz.prog 87 #[.pointer (some ⟨rb, 0, none⟩), .slice (some ⟨lb, 0, none⟩) q c] w fun e w' => NumEnd G e ∧ RdAt w' rb (p + 1) ∧ Drawn w w' rb := by
  go_enter Tryz.func87, Tryz.ntmps87
  go_wp2_with fail
  refine (pick_rd rb p q _ hp hq hq2 H).mono ?_
  rintro e w1 ⟨⟨x, rfl, hx⟩, hr, hd⟩
  obtain ⟨s, hs, hsz⟩ := hc x hx
  have hs1 : w1.cell? ⟨lb, x, none⟩ = some (.int .i64 s) := by rw [hd.cell (by simpa using hlb)]; exact hs
  have hx' : (x : Int) < (q : Int) := by omega
  clear hs hc
  go_wp2_with fail
  go_ret
  exact ⟨⟨s, rfl, hsz⟩, hr, hd⟩

/-- Whether an object is of a kind, or of any but none. -/
def liveB (kind : Int) (o : LObj) : Bool := !decide (o.kind = 0) && (decide (kind = 0) || decide (o.kind = kind))
/-- The numbers of the objects of a kind among the first k. -/
def liveL (os : List LObj) (kind : Int) (k : Nat) : List Nat := (List.range k).filter fun i => match os[i]? with | some o => liveB kind o | none => false
theorem liveL_le (os : List LObj) (kind : Int) (k : Nat) : (liveL os kind k).length ≤ k := by
  have := List.length_filter_le (fun i => match os[i]? with | some o => liveB kind o | none => false) (List.range k)
  simpa [liveL] using this
theorem liveL_yes {os : List LObj} {kind : Int} {k : Nat} {o : LObj} (h : os[k]? = some o) (hb : liveB kind o = true) : liveL os kind (k + 1) = liveL os kind k ++ [k] := by
  simp [liveL, List.range_succ, List.filter_append, h, hb]
theorem liveL_no {os : List LObj} {kind : Int} {k : Nat} {o : LObj} (h : os[k]? = some o) (hb : liveB kind o = false) : liveL os kind (k + 1) = liveL os kind k := by
  simp [liveL, List.range_succ, List.filter_append, h, hb]

def OwnInts (w : World) (B : Nat) (v : Value) (l : List Nat) : Prop := w.ownsRow B 3 1 v l.length (l.map fun i : Nat => Value.int .i64 i)
theorem infoI : (Tryz.prog.info? 3).map (fun i => (i.zero, i.size, i.bytes)) = some (some (.int .i64 0), 1, 8) := by kernel_rfl

theorem below_grown {B : Nat} {w w1 w2 : World} {row : Option Nat} (h : Below B w w1) (hg : w1.grownBy w2 row) (hr : ∀ k, row = some k → B ≤ k) (hs : B ≤ w1.heap.size) : Below B w w2 :=
  h.trans ⟨hg.os, hg.tape, hg.output, hg.size, fun k hk => hg.block k (by omega) (fun e => by have := hr k e.symm; omega)⟩

theorem one_at {w : World} {u v : Value} {t : TypeId} {i : Nat} (h : [v][i]? = some u) : (w.alloc (Obj.cells #[v] t)).cell? ((⟨w.heap.size, 0, none⟩ : Addr).add i) = some u := by
  match i, h with
  | 0, h => simp at h; subst h; simp [Addr.add]
theorem keepInts {wr w0 w1 : World} {B : Nat} {u v' : Value} {l : List Nat} {j : Nat} {y : Value} {o1 : Obj} (hown : Hid (OwnInts wr (B + 1) u l)) (hbx : wr.cell? ⟨B, 0, none⟩ = some y) (hb : Below (B + 1) w0 wr) (hsz : B + 1 ≤ wr.heap.size)
    (hown' : w1.ownsRow (B + 1) 3 1 v' (l.length + 1) (l.map (fun i : Nat => Value.int .i64 i) ++ [Value.int .i64 (j : Int)])) (hgrow : (wr.alloc o1).grownBy w1 u.ownBlock) :
    OwnInts w1 (B + 1) v' (l ++ [j]) ∧ w1.cell? ⟨B, 0, none⟩ = some y ∧ Below (B + 1) w0 w1 := by
  have hr : ∀ k, u.ownBlock = some k → B + 1 ≤ k := fun k e => (hown.out.lt k e).1
  have hb1 : Below (B + 1) wr w1 := below_grown ((Below.refl _ _).alloc (by omega) _) hgrow hr (by simp; omega)
  exact ⟨by simpa [OwnInts] using hown', by rw [hb1.cell (by simp)]; exact hbx, hb.trans hb1⟩

set_option maxHeartbeats 1000000 in
set_option maxRecDepth 20000 in
theorem live_any (a : Option Addr) (n c : Nat) (os : List LObj) (L U : Nat) (kind : Int) (w : World) (hn : n ≤ 1048576) (hU : U ≤ w.heap.size) (H : ObjsAt w L U a n os) :
    Calls Tryz.prog 167 #[.agg #[.slice a n c], .int .i64 kind] w fun e w' => (∃ v, e = .returned v ∧ Hid (OwnInts w' w.heap.size v (liveL os kind n))) ∧ Below w.heap.size w w' := by
  obtain ⟨i0, hi, hz0, hz1, hz2⟩ := info_parts infoI
  go_enter Tryz.func167, Tryz.ntmps167
  go_wp2_with fail
  go_loopg [5, 6] n (fun k v i wr => ∃ j : Nat, j ≤ n ∧ Hid (k = n - j) ∧ i = .int .i64 j ∧ Hid (OwnInts wr (w.heap.size + 1) v (liveL os kind j)) ∧ wr.cell? ⟨w.heap.size, 0, none⟩ = some (.slice a n c) ∧ Below (w.heap.size + 1) (w.alloc (Obj.cells #[.slice a n c] 25)) wr)
  case atStart => exact ⟨0, Nat.zero_le _, rfl, rfl, by show OwnInts _ _ _ _; simpa [OwnInts, liveL] using World.ownsRow_lit (base := w.heap.size + 1) (e := 3) (size := 1) (w.alloc (Obj.cells #[Value.slice a n c] 25)) #[] 0 (by simp) (by simp [maxLen]) rfl, by simp [go_sem], (Below.refl _ _).alloc (by simp) _⟩
  case round =>
    obtain ⟨j, hj, hk, rfl, hown, hbx, hb⟩ := hrel
    have hsz := hb.size
    simp at hsz
    have hbw : Below w.heap.size w wr := ((Below.refl w.heap.size w).alloc (Nat.le_refl _) _).trans (hb.mono (by omega))
    by_cases hlt : j < n
    · obtain ⟨b, off, ha, hL, hbU, hc⟩ := H.at_ (by omega)
      subst ha
      obtain ⟨o, ka, kn, kc, he, hts, hc0, hc1, hc2, hc3, hks⟩ := hc j hlt
      have hd0 : wr.cell? ⟨b, off + j * 4, none⟩ = some (.int .i64 o.kind) := by rw [hbw.cell (by simp; omega)]; exact hc0
      have HE : Hid (os[j]? = some o) := he
      clear he hc hc0 hc1 hc2 hc3 hks
      by_cases hk0 : o.kind = 0
      · have HL : Hid (liveL os kind (j + 1) = liveL os kind j) := liveL_no HE.out (by simp [liveB, hk0])
        have t0 : (o.kind != 0) = false := by simp [hk0]
        clear hk0
        go_wp2_with fail
        go_roundg (n - (j + 1))
        case measure => have := hk.out; omega
        case rel => exact ⟨j + 1, by omega, rfl, by go_num, by show OwnInts _ _ _ _; rw [HL.out]; exact hown.out, hbx, hb⟩
      · have t0 : (o.kind != 0) = true := by simp [hk0]
        have HK0 : Hid (¬ o.kind = 0) := hk0
        have hle := liveL_le os kind j
        clear hk0
        by_cases hk1 : kind = 0
        · have HL : Hid (liveL os kind (j + 1) = liveL os kind j ++ [j]) := liveL_yes HE.out (by simp [liveB, HK0.out, hk1])
          have t1 : (kind == 0) = true := by simp [hk1]
          clear hk1
          go_wp2_with (first
            | (at_builtin; refine wpList_append_own _ rfl _ _ 34 rfl (w.heap.size + 1) 3 i0 (.int .i64 0) 1 8 Tryz.underlying34 hi hz0 hz1 hz2 rfl (by decide) _ _ _ rfl (hown.out.alloc _) ⟨wr.heap.size, 0, none⟩ 1 1 [.int .i64 (j : Int)] rfl rfl ?c1 ?c2 ?c3 ?c4 ?c5 ?_)
            | go_in)
          case c1 => intro i u hi; exact one_at hi
          case c2 => intro u hu; simp at hu; subst hu; rfl
          case c3 => unfold maxLen; omega
          case c4 => omega
          case c5 => simp; omega
          intro v' w1 hown' hgrow _
          have R := keepInts hown hbx hb hsz hown' hgrow
          clear hown' hgrow hown hbx hb
          go_wp2_with fail
          go_roundg (n - (j + 1))
          case measure => have := hk.out; omega
          case rel => exact ⟨j + 1, by omega, rfl, by go_num, by show OwnInts _ _ _ _; rw [HL.out]; exact R.1, R.2.1, R.2.2⟩
        · have t1 : (kind == 0) = false := by simp [hk1]
          have HK1 : Hid (¬ kind = 0) := hk1
          clear hk1
          by_cases hk2 : o.kind = kind
          · have HL : Hid (liveL os kind (j + 1) = liveL os kind j ++ [j]) := liveL_yes HE.out (by simp [liveB, hk2]; exact HK1.out)
            have t2 : (o.kind == kind) = true := by simp [hk2]
            clear hk2
            go_wp2_with (first
              | (at_builtin; refine wpList_append_own _ rfl _ _ 34 rfl (w.heap.size + 1) 3 i0 (.int .i64 0) 1 8 Tryz.underlying34 hi hz0 hz1 hz2 rfl (by decide) _ _ _ rfl (hown.out.alloc _) ⟨wr.heap.size, 0, none⟩ 1 1 [.int .i64 (j : Int)] rfl rfl ?c1 ?c2 ?c3 ?c4 ?c5 ?_)
              | go_in)
            case c1 => intro i u hi; exact one_at hi
            case c2 => intro u hu; simp at hu; subst hu; rfl
            case c3 => unfold maxLen; omega
            case c4 => omega
            case c5 => simp; omega
            intro v' w1 hown' hgrow _
            have R := keepInts hown hbx hb hsz hown' hgrow
            clear hown' hgrow hown hbx hb
            go_wp2_with fail
            go_roundg (n - (j + 1))
            case measure => have := hk.out; omega
            case rel => exact ⟨j + 1, by omega, rfl, by go_num, by show OwnInts _ _ _ _; rw [HL.out]; exact R.1, R.2.1, R.2.2⟩
          · have HL : Hid (liveL os kind (j + 1) = liveL os kind j) := liveL_no HE.out (by simp [liveB, HK0.out, hk2, HK1.out])
            have t2 : (o.kind == kind) = false := by simp [hk2]
            clear hk2
            go_wp2_with fail
            go_roundg (n - (j + 1))
            case measure => have := hk.out; omega
            case rel => exact ⟨j + 1, by omega, rfl, by go_num, by show OwnInts _ _ _ _; rw [HL.out]; exact hown.out, hbx, hb⟩
    · obtain rfl : j = n := by omega
      go_wp2_with fail
      go_ret
      exact ⟨⟨_, rfl, hown.out.mono (by omega)⟩, hbw⟩
end Go.Proofs.YtnolbfijcnldjaaGreatDoor

/- Draws over a tree: a directory's number, any number. -/
namespace Go.Proofs.YtnolbfijcnldjaaGreatDoor
open Go.RowKit

theorem EntsAt.but {w w' : World} {L U rb : Nat} {a : Option Addr} {n : Nat} {es : List LEnt} (h : EntsAt w L U a n es) (hb : But rb w w') (hr : rb < L) (hU : U ≤ w.heap.size) : EntsAt w' L U a n es :=
  ⟨h.len, h.bd, fun hn => by
    obtain ⟨b, off, ha, hL, hbU, hc⟩ := h.at_ hn
    refine ⟨b, off, ha, hL, hbU, fun i hi => ?_⟩
    obtain ⟨e, h1, h2, h3, h4⟩ := hc i hi
    exact ⟨e, h1, h2, by rw [hb.cell (by simp; omega) (by simp; omega)]; exact h3, by rw [hb.cell (by simp; omega) (by simp; omega)]; exact h4⟩⟩
theorem ObjsAt.but {w w' : World} {L U rb : Nat} {a : Option Addr} {n : Nat} {os : List LObj} (h : ObjsAt w L U a n os) (hb : But rb w w') (hr : rb < L) (hU : U ≤ w.heap.size) : ObjsAt w' L U a n os :=
  ⟨h.len, h.bd, fun hn => by
    obtain ⟨b, off, ha, hL, hbU, hc⟩ := h.at_ hn
    refine ⟨b, off, ha, hL, hbU, fun i hi => ?_⟩
    obtain ⟨o, ka, kn, kc, h1, h2, h3, h4, h5, h6, h7⟩ := hc i hi
    refine ⟨o, ka, kn, kc, h1, h2, ?_, ?_, ?_, ?_, h7.but hb hr hU⟩ <;> (rw [hb.cell (by simp; omega) (by simp; omega)]; assumption)⟩
theorem Drawn.but {rb : Nat} {w w' : World} (h : Drawn w w' rb) : But rb w w' := ⟨h.below, fun k hk _ => h.block k hk⟩
theorem But.of_below {rb : Nat} {w w' : World} (hb : rb < w.heap.size) (h : Below w.heap.size w w') : But rb w w' := ⟨h.mono (by omega), fun k _ hk => h.block k hk⟩
/-- A reader that is at most so far. -/
def RdTo (w : World) (rb p : Nat) : Prop := ∃ p', p' ≤ p ∧ RdAt w rb p'
theorem OwnInts.get {w : World} {B : Nat} {v : Value} {l : List Nat} (h : OwnInts w B v l) (hl : l ≠ []) : ∃ g c, v = .slice (some ⟨g, 0, none⟩) l.length c ∧ B ≤ g ∧ g < w.heap.size ∧ ∀ i, i < l.length → ∃ k, l[i]? = some k ∧ w.cell? ⟨g, i, none⟩ = some (.int .i64 (k : Nat)) := by
  have h0 : 0 < l.length := List.length_pos_iff.mpr hl
  obtain ⟨g, c, rfl, hb, hlt⟩ := World.ownsRow.form h h0
  refine ⟨g, c, rfl, hb, hlt, fun i hi => ⟨l[i], by simp [hi], ?_⟩⟩
  have := World.ownsRow.cellAt h i (by simpa using hi)
  rw [this]; simp [hi]
theorem liveL_lt {os : List LObj} {kind : Int} {k i : Nat} (h : i ∈ liveL os kind k) : i < k := by
  simp [liveL] at h; exact h.1
theorem OwnInts.nil {w : World} {B : Nat} {v : Value} (h : OwnInts w B v []) : ∃ a c, v = .slice a 0 c := by
  rcases h.2 with ⟨rfl, _⟩ | ⟨g, cap, cur, rfl, _⟩
  · exact ⟨_, _, rfl⟩
  · exact ⟨_, _, rfl⟩

set_option maxHeartbeats 1000000 in
set_option maxRecDepth 20000 in
theorem dir_any (rb p : Nat) (a : Option Addr) (n c : Nat) (os : List LObj) (L U : Nat) (w : World) (hp : p ≤ 999990) (hn : n ≤ 32) (hU : U ≤ w.heap.size) (H : ObjsAt w L U a n os) (R : RdAt w rb p) :
    Calls Tryz.prog 165 #[.pointer (some ⟨rb, 0, none⟩), .agg #[.slice a n c]] w fun e w' => NumEnd (fun z => 0 ≤ z ∧ z < 32) e ∧ RdTo w' rb (p + 2) ∧ But rb w w' := by
  have hrl := R.lt
  go_enter Tryz.func165, Tryz.ntmps165
  go_wp2_with fail
  have hA : Below w.heap.size w (w.alloc (Obj.cells #[.slice a n c] 25)) := (Below.refl _ _).alloc (Nat.le_refl _) _
  refine (live_any a n c os L U 2 _ (by omega) (by simp; omega) (H.below hA hU)).mono ?_
  rintro x w1 ⟨⟨v, rfl, hv⟩, hb1⟩
  have hB1 : But rb w w1 := But.of_below hrl (hA.trans (hb1.mono (by simp)))
  have R1 : RdAt w1 rb p := R.below (hA.trans (hb1.mono (by simp))) hrl
  have hz1 : w.heap.size + 1 ≤ w1.heap.size := by simpa using hb1.size
  clear hA hb1 R
  by_cases hl : liveL os 2 n = []
  · have hv' := hv.out
    rw [hl] at hv'
    obtain ⟨ga, gc, rfl⟩ := hv'.nil
    clear hv'
    go_wp2_with fail
    refine (num_any (fun z => 0 ≤ z ∧ z < 32) rb p w1.heap.size 3 3 _ (by omega) (by omega) (by omega) (by omega) (R1.below ((Below.refl _ _).alloc (Nat.le_refl _) _) (by omega)) ?_).mono ?_
    · intro i hi
      match i, hi with
      | 0, _ => exact ⟨0, by simp [go_sem], by omega, by omega⟩
      | 1, _ => exact ⟨1, by simp [go_sem], by omega, by omega⟩
      | 2, _ => exact ⟨31, by simp [go_sem], by omega, by omega⟩
    · rintro x w9 ⟨⟨z, rfl, hz⟩, R9, hd9⟩
      have hB9 : But rb w w9 := (hB1.next (by omega) ((Below.refl _ _).alloc (Nat.le_refl _) _)).trans hd9.but
      go_wp2_with fail
      go_ret
      exact ⟨⟨z, rfl, hz⟩, ⟨_, by omega, R9⟩, hB9⟩
  · obtain ⟨g, gc, rfl, hg, hgl, hcells⟩ := hv.out.get hl
    have hlen : 0 < (liveL os 2 n).length := List.length_pos_iff.mpr hl
    have hlen2 := liveL_le os 2 n
    have hgr : g ≠ rb := by simp at hg; omega
    have t0 : (((liveL os 2 n).length : Int) == 0) = false := by simp; omega
    have HC : Hid (∀ i, i < (liveL os 2 n).length → ∃ k, (liveL os 2 n)[i]? = some k ∧ w1.cell? { block := g, off := i } = some (Value.int IntKind.i64 (k : Nat))) := hcells
    clear hcells hv hg
    go_wp2_with fail
    refine (pick_rd rb p 12 _ (by omega) (by omega) (by omega) R1).mono ?_
    rintro e w2 ⟨⟨x, rfl, hx⟩, R2, hd2⟩
    have hB2 : But rb w w2 := hB1.trans hd2.but
    have hz2 : w1.heap.size = w2.heap.size := hd2.size.symm
    by_cases hx0 : x = 0
    · subst hx0
      go_wp2_with fail
      refine (num_any (fun z => 0 ≤ z ∧ z < 32) rb (p + 1) w2.heap.size 3 3 _ (by omega) (by omega) (by omega) (by omega) (R2.below ((Below.refl _ _).alloc (Nat.le_refl _) _) (by omega)) ?_).mono ?_
      · intro i hi
        match i, hi with
        | 0, _ => exact ⟨0, by simp [go_sem], by omega, by omega⟩
        | 1, _ => exact ⟨1, by simp [go_sem], by omega, by omega⟩
        | 2, _ => exact ⟨31, by simp [go_sem], by omega, by omega⟩
      · rintro x w9 ⟨⟨z, rfl, hz⟩, R9, hd9⟩
        have hB9 : But rb w w9 := (hB2.next (by omega) ((Below.refl _ _).alloc (Nat.le_refl _) _)).trans hd9.but
        go_wp2_with fail
        go_ret
        exact ⟨⟨z, rfl, hz⟩, ⟨_, by omega, R9⟩, hB9⟩
    · have t1 : ((x : Int) == 0) = false := by simp; omega
      go_wp2_with fail
      refine (pick_rd rb (p + 1) (liveL os 2 n).length _ (by omega) (by omega) (by omega) R2).mono ?_
      rintro e w3 ⟨⟨y, rfl, hy⟩, R3, hd3⟩
      obtain ⟨k, hk, hcell⟩ := HC.out y hy
      have hk32 : k < n := liveL_lt (List.mem_of_getElem? hk)
      have hc3 : w3.cell? ⟨g, y, none⟩ = some (.int .i64 (k : Int)) := by rw [hd3.cell (by simpa using hgr), hd2.cell (by simpa using hgr)]; exact hcell
      have hy' : (y : Int) < ((liveL os 2 n).length : Int) := by omega
      have hB3 : But rb w w3 := hB2.trans hd3.but
      clear hk hcell
      go_wp2_with fail
      go_ret
      exact ⟨⟨k, rfl, by omega, by omega⟩, ⟨_, by omega, R3⟩, hB3⟩

end Go.Proofs.YtnolbfijcnldjaaGreatDoor

/- Draws over a tree: a number that was nobody's. -/
namespace Go.Proofs.YtnolbfijcnldjaaGreatDoor
open Go.RowKit

set_option maxHeartbeats 1000000 in
set_option maxRecDepth 20000 in
theorem id_any (rb p : Nat) (a : Option Addr) (n c : Nat) (os : List LObj) (L U : Nat) (who : Int) (w : World) (hp : p ≤ 999990) (hn : n ≤ 32) (hn1 : 1 ≤ n) (hU : U ≤ w.heap.size) (H : ObjsAt w L U a n os) (R : RdAt w rb p) :
    Calls Tryz.prog 166 #[.pointer (some ⟨rb, 0, none⟩), .agg #[.slice a n c], .int .i64 who] w fun e w' => NumEnd (fun z => 1 ≤ z ∧ z < 32) e ∧ RdTo w' rb (p + 1) ∧ But rb w w' := by
  have hrl := R.lt
  have hA : Below w.heap.size w (w.alloc (Obj.cells #[.slice a n c] 25)) := (Below.refl _ _).alloc (Nat.le_refl _) _
  go_enter Tryz.func166, Tryz.ntmps166
  go_wp2_with fail
  go_loopg [7] (n - 1) (fun k i wr => ∃ j : Nat, 1 ≤ j ∧ j ≤ n ∧ Hid (k = n - j) ∧ i = .int .i64 j ∧ wr = w.alloc (Obj.cells #[.slice a n c] 25))
  case atStart => exact ⟨1, by omega, by omega, rfl, rfl, rfl⟩
  case round =>
    obtain ⟨j, hj1, hj, hk, rfl, rfl⟩ := hrel
    by_cases hlt : j < n
    · obtain ⟨b, off, ha, hL, hbU, hc⟩ := H.at_ (by omega)
      subst ha
      obtain ⟨o, ka, kn, kc, he, hts, hc0, hc1, hc2, hc3, hks⟩ := hc j hlt
      rw [← hA.cell (by simp; omega)] at hc0 hc1
      clear he hc hc2 hc3 hks
      by_cases hw : (j : Int) % 4 = who
      · have t0 : ((j : Int) % 4 == who) = true := by simpa using hw
        clear hw
        by_cases hw1 : o.kind = 0
        · have t1 : (o.kind == 0) = true := by simpa using hw1
          clear hw1
          by_cases hw2 : o.ver = 0
          · have t2 : (o.ver == 0) = true := by simpa using hw2
            clear hw2
            go_wp2_with fail
            go_ret
            exact ⟨⟨j, rfl, by omega, by omega⟩, ⟨p, by omega, R.below hA hrl⟩, But.of_below hrl hA⟩
          · have t2 : (o.ver == 0) = false := by simpa using hw2
            clear hw2
            go_wp2_with fail
            go_roundg (n - (j + 1))
            case measure => have := hk.out; omega
            case rel => exact ⟨j + 1, by omega, by omega, rfl, by go_num, rfl⟩
        · have t1 : (o.kind == 0) = false := by simpa using hw1
          clear hw1
          go_wp2_with fail
          go_roundg (n - (j + 1))
          case measure => have := hk.out; omega
          case rel => exact ⟨j + 1, by omega, by omega, rfl, by go_num, rfl⟩
      · have t0 : ((j : Int) % 4 == who) = false := by simpa using hw
        clear hw
        go_wp2_with fail
        go_roundg (n - (j + 1))
        case measure => have := hk.out; omega
        case rel => exact ⟨j + 1, by omega, by omega, rfl, by go_num, rfl⟩
    · go_wp2_with fail
      refine (pick_rd rb p 31 _ (by omega) (by omega) (by omega) (R.below hA hrl)).mono ?_
      rintro e w2 ⟨⟨x, rfl, hx⟩, R2, hd2⟩
      have hB : But rb w w2 := (But.of_below hrl hA).trans hd2.but
      go_wp2_with fail
      go_ret
      exact ⟨⟨1 + (x : Int), rfl, by omega, by omega⟩, ⟨_, by omega, R2⟩, hB⟩
end Go.Proofs.YtnolbfijcnldjaaGreatDoor

/- Names of a directory in memory of the call's own; taking a name out. -/
namespace Go.Proofs.YtnolbfijcnldjaaGreatDoor
open Go.RowKit

def entCells (es : List LEnt) : List Value := es.flatMap fun e => [.string e.name, .int .i64 e.id]
theorem entCells_len (es : List LEnt) : (entCells es).length = es.length * 2 := by
  induction es with
  | nil => rfl
  | cons e r ih => simp only [entCells, List.flatMap_cons, List.length_append, List.length_cons, List.length_nil] at ih ⊢; omega
theorem entCells_app (es fs : List LEnt) : entCells (es ++ fs) = entCells es ++ entCells fs := by simp [entCells]
theorem entCells_at : ∀ (es : List LEnt) (i : Nat) (e : LEnt), es[i]? = some e → (entCells es)[i * 2]? = some (.string e.name) ∧ (entCells es)[i * 2 + 1]? = some (.int .i64 e.id)
  | [], i, e, h => by simp at h
  | x :: r, 0, e, h => by simp at h; subst h; simp [entCells]
  | x :: r, i + 1, e, h => by
    have ih := entCells_at r i e (by simpa using h)
    have e1 : entCells (x :: r) = [.string x.name, .int .i64 x.id] ++ entCells r := rfl
    rw [e1, List.getElem?_append_right (by simp; omega), List.getElem?_append_right (by simp; omega)]
    have a1 : (i + 1) * 2 - 2 = i * 2 := by omega
    have a2 : (i + 1) * 2 + 1 - 2 = i * 2 + 1 := by omega
    simpa [a1, a2] using ih
/-- A slice of names that the call owns. -/
def OwnEnts (w : World) (B : Nat) (v : Value) (es : List LEnt) : Prop := w.ownsRow B 53 2 v es.length (entCells es)
def outL (name : ByteArray) (es : List LEnt) : List LEnt := es.filter fun e => !(e.name.toList == name.toList)
theorem outL_le (name : ByteArray) (es : List LEnt) : (outL name es).length ≤ es.length := List.length_filter_le _ _
theorem info47' : (Tryz.prog.info? 53).map (fun i => (i.zero, i.size, i.bytes)) = some (some (.agg #[.string ⟨#[]⟩, .int .i64 0]), 2, 24) := by kernel_rfl
theorem OwnEnts.at_ {w : World} {B : Nat} {v : Value} {es : List LEnt} (h : OwnEnts w B v es) (hn : ∀ e ∈ es, e.name.size ≤ maxLen) : ∃ a c, v = .slice a es.length c ∧ EntsAt w B w.heap.size a es.length es := by
  by_cases h0 : es.length = 0
  · obtain rfl : es = [] := List.eq_nil_of_length_eq_zero h0
    rcases h.2 with ⟨rfl, _⟩ | ⟨g, cap, cur, rfl, _⟩
    · exact ⟨_, _, rfl, rfl, by simp [maxLen], fun hn => absurd rfl hn⟩
    · exact ⟨_, _, rfl, rfl, by simp [maxLen], fun hn => absurd rfl hn⟩
  · obtain ⟨g, c, rfl, hb, hlt⟩ := World.ownsRow.form h (by omega)
    have hbd : es.length ≤ maxLen := by
      rcases h.2 with ⟨h', _⟩ | ⟨g', cap', cur, h', _, _, hnc, hcm, _⟩
      · simp at h'
      · omega
    refine ⟨_, _, rfl, rfl, hbd, fun _ => ⟨g, 0, rfl, hb, hlt, fun i hi => ⟨es[i], by simp [hi], hn _ (List.getElem_mem hi), ?_, ?_⟩⟩⟩
    · have := World.ownsRow.cellAt h (i * 2) (by omega)
      rw [Nat.zero_add, this]
      exact (entCells_at es i es[i] (by simp [hi])).1
    · have := World.ownsRow.cellAt h (i * 2 + 1) (by omega)
      rw [Nat.zero_add, this]
      exact (entCells_at es i es[i] (by simp [hi])).2
theorem two_at {w : World} {u v0 v1 : Value} {t : TypeId} {i : Nat} (h : [v0, v1][i]? = some u) : (w.alloc (Obj.cells #[v0, v1] t)).cell? ((⟨w.heap.size, 0, none⟩ : Addr).add i) = some u := by
  match i, h with
  | 0, h => simp at h; subst h; simp [Addr.add]
  | 1, h => simp at h; subst h; simp [Addr.add]
theorem outL_take_yes {name : ByteArray} {es : List LEnt} {k : Nat} {e : LEnt} (h : es[k]? = some e) (hb : (e.name.toList == name.toList) = false) : outL name (es.take (k + 1)) = outL name (es.take k) ++ [e] := by
  simp [outL, List.take_add_one, h, List.filter_append, hb]
theorem outL_take_no {name : ByteArray} {es : List LEnt} {k : Nat} {e : LEnt} (h : es[k]? = some e) (hb : (e.name.toList == name.toList) = true) : outL name (es.take (k + 1)) = outL name (es.take k) := by
  simp [outL, List.take_add_one, h, List.filter_append, hb]
theorem keepEnts {wr w0 w1 : World} {B : Nat} {u v' : Value} {l : List LEnt} {e : LEnt} {o1 : Obj} (hown : Hid (OwnEnts wr B u l)) (hb : Below B w0 wr) (hsz : B ≤ wr.heap.size)
    (hown' : w1.ownsRow B 53 2 v' (l.length + 1) (entCells l ++ [Value.string e.name, Value.int .i64 e.id])) (hgrow : (wr.alloc o1).grownBy w1 u.ownBlock) :
    OwnEnts w1 B v' (l ++ [e]) ∧ Below B w0 w1 := by
  have hr : ∀ k, u.ownBlock = some k → B ≤ k := fun k e => (hown.out.lt k e).1
  have hb1 : Below B wr w1 := below_grown ((Below.refl _ _).alloc (by omega) _) hgrow hr (by simp; omega)
  exact ⟨by unfold OwnEnts; rw [entCells_app, List.length_append]; exact hown', hb.trans hb1⟩

set_option maxHeartbeats 1000000 in
set_option maxRecDepth 20000 in
theorem out_any (a : Option Addr) (n c : Nat) (es : List LEnt) (L U : Nat) (name : ByteArray) (w : World) (hn : n ≤ 1048576) (hU : U ≤ w.heap.size) (H : EntsAt w L U a n es) :
    Calls Tryz.prog 173 #[.slice a n c, .string name] w fun e w' => (∃ v, e = .returned v ∧ Hid (OwnEnts w' w.heap.size v (outL name es))) ∧ Below w.heap.size w w' := by
  obtain ⟨i0, hi, hz0, hz1, hz2⟩ := info_parts info47'
  go_enter Tryz.func173, Tryz.ntmps173
  go_wp2_with fail
  go_loopg [5, 6] n (fun k v i wr => ∃ j : Nat, j ≤ n ∧ Hid (k = n - j) ∧ i = .int .i64 j ∧ Hid (OwnEnts wr w.heap.size v (outL name (es.take j))) ∧ Below w.heap.size w wr)
  case atStart => exact ⟨0, Nat.zero_le _, rfl, rfl, by show OwnEnts _ _ _ _; simpa [OwnEnts, outL, entCells] using World.ownsRow_lit (base := w.heap.size) (e := 53) (size := 2) w #[] 0 (by simp) (by simp [maxLen]) rfl, (Below.refl _ _).alloc (Nat.le_refl _) _⟩
  case round =>
    obtain ⟨j, hj, hk, rfl, hown, hb⟩ := hrel
    have hsz := hb.size
    by_cases hlt : j < n
    · obtain ⟨b, off, ha, hL, hbU, hc⟩ := H.at_ (by omega)
      subst ha
      obtain ⟨e, he, hts, hc0, hc1⟩ := hc j hlt
      rw [← hb.cell (by simp; omega)] at hc0 hc1
      have HE : Hid (es[j]? = some e) := he
      clear he hc
      rcases hq : (e.name.toList == name.toList) with _ | _
      · have HL : Hid (outL name (es.take (j + 1)) = outL name (es.take j) ++ [e]) := outL_take_yes HE.out hq
        have hle : (outL name (es.take j)).length ≤ j := by have := outL_le name (es.take j); simp at this; omega
        go_wp2_with (first
          | (at_builtin; refine wpList_append_own _ rfl _ _ 36 rfl w.heap.size 53 i0 _ 2 24 Tryz.underlying36 hi hz0 hz1 hz2 rfl (by decide) _ _ _ rfl (hown.out.alloc _) ⟨wr.heap.size, 0, none⟩ 1 1 [.string e.name, .int .i64 e.id] rfl rfl ?c1 ?c2 ?c3 ?c4 ?c5 ?_)
          | go_in)
        case c1 => intro i u hi; exact two_at hi
        case c2 => intro u hu; simp at hu; rcases hu with rfl | rfl <;> rfl
        case c3 => unfold maxLen; omega
        case c4 => omega
        case c5 => simp; omega
        intro v' w1 hown' hgrow _
        have R := keepEnts hown hb hsz hown' hgrow
        clear hown' hgrow hown hb
        go_wp2_with fail
        go_roundg (n - (j + 1))
        case measure => have := hk.out; omega
        case rel => exact ⟨j + 1, by omega, rfl, by go_num, by show OwnEnts _ _ _ _; rw [HL.out]; exact R.1, R.2⟩
      · have HL : Hid (outL name (es.take (j + 1)) = outL name (es.take j)) := outL_take_no HE.out hq
        go_wp2_with fail
        go_roundg (n - (j + 1))
        case measure => have := hk.out; omega
        case rel => exact ⟨j + 1, by omega, rfl, by go_num, by show OwnEnts _ _ _ _; rw [HL.out]; exact hown.out, hb⟩
    · obtain rfl : j = n := by omega
      have hown' := hown.out
      rw [List.take_of_length_le (by have := H.len; omega)] at hown'
      go_wp2_with fail
      go_ret
      exact ⟨⟨_, rfl, hown'⟩, hb⟩
end Go.Proofs.YtnolbfijcnldjaaGreatDoor

/- append of names onto names that the call owns: the laws. -/
namespace Go.Proofs.YtnolbfijcnldjaaGreatDoor
open Go.RowKit

theorem entCells_one : ∀ (es : List LEnt), ∀ u ∈ entCells es, u.oneCell' = true := by
  intro es u hu
  simp only [entCells, List.mem_flatMap] at hu
  obtain ⟨e, _, h⟩ := hu
  simp at h
  rcases h with rfl | rfl <;> rfl

/-- What an append onto names of the call's own leaves. -/
structure AppEnd (w w' : World) (B g g' n cap' : Nat) (l : List LEnt) : Prop where
  own : OwnEnts w' B (.slice (some ⟨g', 0, none⟩) n cap') l
  grown : w.grownBy w' (some g)
  at_ : g' = g ∨ g' = w.heap.size
  lt : g' < w'.heap.size

theorem run_app_ents (w : World) (B g n cap : Nat) (l news : List LEnt) (ty : TypeId) (hn : n = l.length) (hown : OwnEnts w B (.slice (some ⟨g, 0, none⟩) n cap) l) (ad : Addr) (m c : Nat) (hm : m = news.length)
    (hnews : ∀ j u, (entCells news)[j]? = some u → w.cell? (ad.add j) = some u) (hbd : n + m ≤ 4000000) (hB : B ≤ w.heap.size) :
    ∃ g' cap' w', (Builtin.append_ #[36, 36] ty #[.slice (some ⟨g, 0, none⟩) n cap, .slice (some ad) m c]).run Tryz.prog w = .ok (.slice (some ⟨g', 0, none⟩) (n + m) cap') w' ∧ AppEnd w w' B g g' (n + m) cap' (l ++ news) := by
  obtain ⟨i0, hi, hz0, hz1, hz2⟩ := info_parts info47'
  subst hn hm
  obtain ⟨v', w', hr, h2, h3, h4, h5⟩ := run_append_own_at (P := Tryz.prog) w B 36 ty 53 i0 _ 2 24 Tryz.underlying36 hi hz0 hz1 hz2 rfl (by decide) _ _ _ hown ad news.length c (entCells news) (entCells_len _) hnews (entCells_one _) (by unfold maxLen; omega) (by omega) hB
  have h2' := h2
  rcases h2.2 with ⟨hv, _⟩ | ⟨g', cap', cur, rfl, hb, hg, _⟩
  · have := (h4.1 hv).1; cases this
  · refine ⟨g', cap', w', hr, ⟨?_, h3, ?_, (Array.getElem?_eq_some_iff.1 hg).1⟩⟩
    · unfold OwnEnts; rw [entCells_app, List.length_append]; exact h2'
    · simpa [Value.ownBlock] using h5

theorem wp_app_ents (w : World) {o : Oper} {a : Act} {K : Act → World → Prop} {Q : Exit → Act → World → Prop} (s x : Operand)
    (ho : o.op = .call { callee := .builtin .append, args := #[s, x], argTypes := #[36, 36] }) (B g n cap : Nat) (l news : List LEnt) (hn : n = l.length) (hown : OwnEnts w B (.slice (some ⟨g, 0, none⟩) n cap) l) (ad : Addr) (m c : Nat) (hm : m = news.length)
    (hs : a.eval s = .slice (some ⟨g, 0, none⟩) n cap) (hx : a.eval x = .slice (some ad) m c)
    (hnews : ∀ j u, (entCells news)[j]? = some u → w.cell? (ad.add j) = some u) (hbd : n + m ≤ 4000000) (hB : B ≤ w.heap.size)
    (h : ∀ g' cap' w', AppEnd w w' B g g' (n + m) cap' (l ++ news) → K (a.put o.dst (.slice (some ⟨g', 0, none⟩) (n + m) cap')) w') : o.wp Tryz.prog a w K Q := by
  obtain ⟨g', cap', w', hr, h2⟩ := run_app_ents w B g n cap l news o.type hn hown ad m c hm hnews hbd hB
  unfold Oper.wp execOp
  simp only [ho, resolve, invoke, builtin, Sem.run_bind, Sem.run_pure, Result.andThen_ok, List.map_toArray, List.map_cons, List.map_nil, hs, hx, hr]
  exact h g' cap' w' h2

theorem wpList_app_ents (w : World) {ops : Array Oper} {rest : List Oper} {o : Oper} {a : Act} {Q : Exit → Act → World → Prop} (hgd : o.guard = none) (s x : Operand)
    (ho : o.op = .call { callee := .builtin .append, args := #[s, x], argTypes := #[36, 36] }) (B g n cap : Nat) (l news : List LEnt) (hn : n = l.length) (hown : OwnEnts w B (.slice (some ⟨g, 0, none⟩) n cap) l) (ad : Addr) (m c : Nat) (hm : m = news.length)
    (hs : a.eval s = .slice (some ⟨g, 0, none⟩) n cap) (hx : a.eval x = .slice (some ad) m c)
    (hnews : ∀ j u, (entCells news)[j]? = some u → w.cell? (ad.add j) = some u) (hbd : n + m ≤ 4000000) (hB : B ≤ w.heap.size)
    (h : ∀ g' cap' w', AppEnd w w' B g g' (n + m) cap' (l ++ news) → wpList Tryz.prog ops Q rest (a.put o.dst (.slice (some ⟨g', 0, none⟩) (n + m) cap')) w') : wpList Tryz.prog ops Q (o :: rest) a w :=
  wpList_plain hgd fun _ hK => wp_app_ents w s x ho B g n cap l news hn hown ad m c hm hs hx hnews hbd hB fun g' cap' w' h2 => hK _ _ (h g' cap' w' h2)

theorem step_app_ents (w : World) {ops : Array Oper} {o : Oper} {a : Act} {K : Act → World → Prop} {Q : Exit → Act → World → Prop} {E : Prop} (hgd : o.guard = none) (s x : Operand)
    (ho : o.op = .call { callee := .builtin .append, args := #[s, x], argTypes := #[36, 36] }) (B g n cap : Nat) (l news : List LEnt) (hn : n = l.length) (hown : OwnEnts w B (.slice (some ⟨g, 0, none⟩) n cap) l) (ad : Addr) (m c : Nat) (hm : m = news.length)
    (hs : a.eval s = .slice (some ⟨g, 0, none⟩) n cap) (hx : a.eval x = .slice (some ad) m c)
    (hnews : ∀ j u, (entCells news)[j]? = some u → w.cell? (ad.add j) = some u) (hbd : n + m ≤ 4000000) (hB : B ≤ w.heap.size)
    (h : ∀ g' cap' w', AppEnd w w' B g g' (n + m) cap' (l ++ news) → K (a.put o.dst (.slice (some ⟨g', 0, none⟩) (n + m) cap')) w') :
    if Region.wanted o (yielded ops a.tmps) = true then Oper.wp Tryz.prog o a w K Q else E := by
  have hw : Region.wanted o (yielded ops a.tmps) = true := by simp [Region.wanted, hgd]
  rw [if_pos hw]
  exact wp_app_ents w s x ho B g n cap l news hn hown ad m c hm hs hx hnews hbd hB h

theorem OwnEnts.grown {w w' : World} {B g n cap : Nat} {es : List LEnt} {row : Option Nat} (h : OwnEnts w B (.slice (some ⟨g, 0, none⟩) n cap) es) (hg : w.grownBy w' row) (hne : some g ≠ row) : OwnEnts w' B (.slice (some ⟨g, 0, none⟩) n cap) es :=
  World.ownsRow.kept h hg (.inr (by simpa [Value.ownBlock] using hne))
theorem OwnEnts.cut {w : World} {B g n cap k : Nat} {es : List LEnt} (h : OwnEnts w B (.slice (some ⟨g, 0, none⟩) n cap) es) (hn : n = es.length) (hk : k ≤ n) : OwnEnts w B (.slice (some ⟨g, 0, none⟩) k cap) (es.take k) := by
  subst hn
  have hl : (es.take k).length = k := by simp; omega
  refine ⟨by rw [entCells_len], .inr ?_⟩
  rcases h.2 with ⟨h', _⟩ | ⟨g', cap', cur, h', hb, hg, hnc, hcm, hcs, htake⟩
  · simp at h'
  · simp only [Value.slice.injEq, Option.some.injEq, Addr.mk.injEq, and_true, true_and] at h'
    obtain ⟨rfl, rfl⟩ := h'
    refine ⟨g, cap, cur, by rw [hl], hb, hg, by omega, hcm, hcs, ?_⟩
    have e1 : entCells es = entCells (es.take k) ++ entCells (es.drop k) := by rw [← entCells_app, List.take_append_drop]
    have e2 : cur.toList.take (k * 2) = (cur.toList.take (es.length * 2)).take (k * 2) := by rw [List.take_take]; congr 1; omega
    rw [hl, e2, htake, e1, List.take_left' (by rw [entCells_len, hl])]
theorem OwnEnts.rest {w : World} {B g n cap k : Nat} {es : List LEnt} (h : OwnEnts w B (.slice (some ⟨g, 0, none⟩) n cap) es) (hn : n = es.length) (hk : k ≤ n) : ∀ j u, (entCells (es.drop k))[j]? = some u → w.cell? ((⟨g, k * 2, none⟩ : Addr).add j) = some u := by
  intro j u hu
  subst hn
  have hl : (es.take k).length = k := by simp; omega
  have e1 : entCells es = entCells (es.take k) ++ entCells (es.drop k) := by rw [← entCells_app, List.take_append_drop]
  have hlen : (entCells (es.take k)).length = k * 2 := by rw [entCells_len, hl]
  have h1 : (entCells es)[k * 2 + j]? = some u := by rw [e1, List.getElem?_append_right (by omega)]; rw [hlen]; simpa using hu
  have hj : k * 2 + j < es.length * 2 := by
    have := (List.getElem?_eq_some_iff.1 h1).1
    rwa [entCells_len] at this
  have h2 := World.ownsRow.cellAt h (k * 2 + j) hj
  have hadd : (⟨g, k * 2, none⟩ : Addr).add j = ⟨g, k * 2 + j, none⟩ := by unfold Addr.add; split <;> simp_all
  rw [hadd, h2]; exact h1
theorem OwnEnts.empty (w : World) (B : Nat) (hB : B ≤ w.heap.size) : OwnEnts (w.alloc (Obj.cells #[] 53)) B (.slice (some ⟨w.heap.size, 0, none⟩) 0 0) [] := by
  simpa [OwnEnts, entCells] using World.ownsRow_lit (base := B) (e := 53) (size := 2) w #[] 0 hB (by simp [maxLen]) rfl
end Go.Proofs.YtnolbfijcnldjaaGreatDoor
