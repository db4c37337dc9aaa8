/- Lemmas that the proofs of this seat share: OpSame, LogA, Reader, Mark, Drawers, Out, App, Rop, SlimF, SlimS, SlimS2, SlimS3, SlimS4, SlimS5, SlimI, SlimI2, SlimI3, SlimI4, SlimI5, SlimI6, SlimI7, SlimI8, SlimI9, SlimI10, SlimI11. -/
import Derived.Test.YtohimbdmhljocaaU02
import Derived.Test.YtohimbdmhljocaaU01
import Derived.Deep.QuietTactic
import Derived.BigQuiet
import Derived.Deep.LoopGhost
import Derived.Deep.OwnRows
import Derived.Outline
import Derived.Laws.BitsAllLaws
import Derived.Deep.DeepCutAuto
import Derived.Laws.IdiomStrings
import Derived.OwnWalk
import Derived.Deep.AppendLies
import Derived.Deep.Onto
import Derived.Deep.RegionLaw
import Derived.Deep.RegionWith
import Derived.Maps.AppendAt
import Derived.Deep.Upon
import Derived.Deep.RegionHeld
import Derived.OrdersHeld
import Derived.BigRegion
/- Lists of what is done: compared. -/
namespace Go.Proofs.Ytohimbdmhljocaa
open Go.RowKit

def opEq (x y : LOp) : Bool := (x.kind == y.kind) && (x.dir == y.dir) && (x.name.toList == y.name.toList) && (x.dir2 == y.dir2) && (x.name2.toList == y.name2.toList) && (x.id == y.id) && (x.text.toList == y.text.toList)
/-- Two are one, or there is a first part in which they are not. -/
def OpParts (x y : LOp) : Prop := ((x.kind == y.kind) = true ∧ (x.dir == y.dir) = true ∧ (x.name.toList == y.name.toList) = true ∧ (x.dir2 == y.dir2) = true ∧ (x.name2.toList == y.name2.toList) = true ∧ (x.id == y.id) = true ∧ (x.text.toList == y.text.toList) = true) ∨ ((x.kind == y.kind) = false) ∨ ((x.kind == y.kind) = true ∧ (x.dir == y.dir) = false) ∨ ((x.kind == y.kind) = true ∧ (x.dir == y.dir) = true ∧ (x.name.toList == y.name.toList) = false) ∨ ((x.kind == y.kind) = true ∧ (x.dir == y.dir) = true ∧ (x.name.toList == y.name.toList) = true ∧ (x.dir2 == y.dir2) = false) ∨ ((x.kind == y.kind) = true ∧ (x.dir == y.dir) = true ∧ (x.name.toList == y.name.toList) = true ∧ (x.dir2 == y.dir2) = true ∧ (x.name2.toList == y.name2.toList) = false) ∨ ((x.kind == y.kind) = true ∧ (x.dir == y.dir) = true ∧ (x.name.toList == y.name.toList) = true ∧ (x.dir2 == y.dir2) = true ∧ (x.name2.toList == y.name2.toList) = true ∧ (x.id == y.id) = false) ∨ ((x.kind == y.kind) = true ∧ (x.dir == y.dir) = true ∧ (x.name.toList == y.name.toList) = true ∧ (x.dir2 == y.dir2) = true ∧ (x.name2.toList == y.name2.toList) = true ∧ (x.id == y.id) = true ∧ (x.text.toList == y.text.toList) = false)
theorem opParts (x y : LOp) : OpParts x y := by
  unfold OpParts
  cases h0 : (x.kind == y.kind) <;> cases h1 : (x.dir == y.dir) <;> cases h2 : (x.name.toList == y.name.toList) <;> cases h3 : (x.dir2 == y.dir2) <;> cases h4 : (x.name2.toList == y.name2.toList) <;> cases h5 : (x.id == y.id) <;> cases h6 : (x.text.toList == y.text.toList) <;> simp [*]
set_option maxHeartbeats 2000000 in
theorem specOpSame (a a' : Option Addr) (n n' c c' : Nat) (ops ops' : List LOp) (L U L' U' : Nat) (w : World) (H : OpsAt w L U a n ops) (H' : OpsAt w L' U' a' n' ops') :
    Calls Try.prog 95 #[.slice a n c, .slice a' n' c'] w fun e w' => e = .returned (.bool (listEq opEq ops ops')) ∧ ∃ m, w' = w.drewN m := by
  have hbd := H.bd
  have hbd' := H'.bd
  unfold maxLen at hbd hbd'
  by_cases hnn : n = n'
  · subst hnn
    go_enter Try.func95, Try.ntmps95
    go_wp2
    go_loopg [5] n (fun k i wr => ∃ j : Nat, j ≤ n ∧ Hid (k = n - j) ∧ i = .int .i64 j ∧ Hid (∀ i, i < j → ∀ x y, ops[i]? = some x → ops'[i]? = some y → opEq x y = true) ∧ Hid (∃ m, wr = w.drewN m))
    case atStart => exact ⟨0, Nat.zero_le _, by show _ = _; omega, rfl, fun i hi => by omega, ⟨0, rfl⟩⟩
    case round =>
      obtain ⟨j, hj, hk, rfl, hq, hb⟩ := hrel
      obtain ⟨m, rfl⟩ := hb.out
      by_cases hlt : j < n
      · obtain ⟨b, off, ha, hL, hbU, hc⟩ := H.at_ (by omega)
        obtain ⟨b', off', ha', hL', hbU', hc'⟩ := H'.at_ (by omega)
        subst ha ha'
        obtain ⟨x, he, hsz, c0, c1, c2, c3, c4, c5, c6⟩ := hc j hlt
        obtain ⟨y, he2, hsz2, d0, d1, d2, d3, d4, d5, d6⟩ := hc' j hlt
        have HE : Hid (ops[j]? = some x ∧ ops'[j]? = some y) := ⟨he, he2⟩
        have hlt' : (j : Int) < (n : Int) := by omega
        clear he he2 hc hc'
        rcases opParts x y with ⟨t0, t1, t2, t3, t4, t5, t6⟩ | t0 | ⟨t0, t1⟩ | ⟨t0, t1, t2⟩ | ⟨t0, t1, t2, t3⟩ | ⟨t0, t1, t2, t3, t4⟩ | ⟨t0, t1, t2, t3, t4, t5⟩ | ⟨t0, t1, t2, t3, t4, t5, t6⟩
        · have HY : Hid (opEq x y = true) := by show _ = _; simp only [opEq, t0, t1, t2, t3, t4, t5, t6, Bool.and_true]
          go_wp2_with fail
          go_quiet (fail)
          go_wp2_with fail
          go_roundg (n - (j + 1))
          case measure => have := hk.out; omega
          case rel =>
            refine ⟨j + 1, by omega, rfl, by go_num, fun i hi x' y' hx hy => ?_, ⟨_, rfl⟩⟩
            by_cases e : i = j
            · subst e
              rw [HE.out.1] at hx
              rw [HE.out.2] at hy
              cases hx
              cases hy
              exact HY.out
            · exact hq.out i (by omega) x' y' hx hy
        all_goals
          have HN : Hid (opEq x y = false) := by show _ = _; simp only [opEq, *, Bool.and_true, Bool.and_false, Bool.false_and]
          go_wp2_with fail
          go_quiet (fail)
          go_wp2_with fail
          go_ret
          exact ⟨ret_bool (listEq_no HE.out.1 HE.out.2 HN.out).symm, m + nq, by rw [World.drewN_drewN]⟩
      · go_wp2_with fail
        go_ret
        exact ⟨ret_bool (listEq_yes (by rw [← H.len, ← H'.len]) (fun i x y hx hy => hq.out i (by have := (List.getElem?_eq_some_iff.1 hx).1; have := H.len; omega) x y hx hy)).symm, m, rfl⟩
  · have hne : ((n : Int) == n') = false := by simp; omega
    go_enter Try.func95, Try.ntmps95
    go_wp2
    go_ret
    exact ⟨ret_bool (listEq_len (by rw [← H.len, ← H'.len]; exact hnn)).symm, 0, rfl⟩

set_option maxHeartbeats 2000000 in
theorem equalOps (a a' : Option Addr) (n n' c c' : Nat) (ops ops' : List LOp) (L U L' U' : Nat) (w : World) (H : OpsAt w L U a n ops) (H' : OpsAt w L' U' a' n' ops') :
    Calls Try.prog 127 #[.slice a n c, .slice a' n' c'] w fun e w' => e = .returned (.bool (listEq opEq ops ops')) ∧ ∃ m, w' = w.drewN m := by
  have hbd := H.bd
  have hbd' := H'.bd
  unfold maxLen at hbd hbd'
  by_cases hnn : n = n'
  · subst hnn
    go_enter Try.func127, Try.ntmps127
    go_wp2
    go_loopg [13] n (fun k i wr => ∃ j : Nat, j ≤ n ∧ Hid (k = n - j) ∧ i = .int .i64 j ∧ Hid (∀ i, i < j → ∀ x y, ops[i]? = some x → ops'[i]? = some y → opEq x y = true) ∧ Hid (∃ m, wr = w.drewN m))
    case atStart => exact ⟨0, Nat.zero_le _, by show _ = _; omega, rfl, fun i hi => by omega, ⟨0, rfl⟩⟩
    case round =>
      obtain ⟨j, hj, hk, rfl, hq, hb⟩ := hrel
      obtain ⟨m, rfl⟩ := hb.out
      by_cases hlt : j < n
      · obtain ⟨b, off, ha, hL, hbU, hc⟩ := H.at_ (by omega)
        obtain ⟨b', off', ha', hL', hbU', hc'⟩ := H'.at_ (by omega)
        subst ha ha'
        obtain ⟨x, he, hsz, c0, c1, c2, c3, c4, c5, c6⟩ := hc j hlt
        obtain ⟨y, he2, hsz2, d0, d1, d2, d3, d4, d5, d6⟩ := hc' j hlt
        have HE : Hid (ops[j]? = some x ∧ ops'[j]? = some y) := ⟨he, he2⟩
        have hlt' : (j : Int) < (n : Int) := by omega
        clear he he2 hc hc'
        rcases opParts x y with ⟨t0, t1, t2, t3, t4, t5, t6⟩ | t0 | ⟨t0, t1⟩ | ⟨t0, t1, t2⟩ | ⟨t0, t1, t2, t3⟩ | ⟨t0, t1, t2, t3, t4⟩ | ⟨t0, t1, t2, t3, t4, t5⟩ | ⟨t0, t1, t2, t3, t4, t5, t6⟩
        · have HY : Hid (opEq x y = true) := by show _ = _; simp only [opEq, t0, t1, t2, t3, t4, t5, t6, Bool.and_true]
          go_wp2_with fail
          go_quiet (fail)
          go_wp2_with fail
          go_roundg (n - (j + 1))
          case measure => have := hk.out; omega
          case rel =>
            refine ⟨j + 1, by omega, rfl, by go_num, fun i hi x' y' hx hy => ?_, ⟨_, rfl⟩⟩
            by_cases e : i = j
            · subst e
              rw [HE.out.1] at hx
              rw [HE.out.2] at hy
              cases hx
              cases hy
              exact HY.out
            · exact hq.out i (by omega) x' y' hx hy
        all_goals
          have HN : Hid (opEq x y = false) := by show _ = _; simp only [opEq, *, Bool.and_true, Bool.and_false, Bool.false_and]
          go_wp2_with fail
          go_quiet (fail)
          go_wp2_with fail
          go_ret
          exact ⟨ret_bool (listEq_no HE.out.1 HE.out.2 HN.out).symm, m + nq, by rw [World.drewN_drewN]⟩
      · go_wp2_with fail
        go_ret
        exact ⟨ret_bool (listEq_yes (by rw [← H.len, ← H'.len]) (fun i x y hx hy => hq.out i (by have := (List.getElem?_eq_some_iff.1 hx).1; have := H.len; omega) x y hx hy)).symm, m, rfl⟩
  · have hne : ((n : Int) == n') = false := by simp; omega
    go_enter Try.func127, Try.ntmps127
    go_wp2
    go_ret
    exact ⟨ret_bool (listEq_len (by rw [← H.len, ← H'.len]; exact hnn)).symm, 0, rfl⟩

theorem implOpSame (a a' : Option Addr) (n n' c c' : Nat) (ops ops' : List LOp) (L U L' U' : Nat) (w : World) (H : OpsAt w L U a n ops) (H' : OpsAt w L' U' a' n' ops') :
    Calls Try.prog 103 #[.slice a n c, .slice a' n' c'] w fun e w' => e = .returned (.bool (listEq opEq ops ops')) ∧ ∃ m, w' = w.drewN m := by
  go_enter Try.func103, Try.ntmps103
  go_wp2_with (go_at_call 127; refine (equalOps _ _ _ _ _ _ _ _ _ _ _ _ _ H H').mono ?_; rintro e w1 ⟨rfl, hw1⟩)
  go_ret
  exact ⟨rfl, hw1⟩

theorem eqOp_same (o : LOp) (w : World) : Calls Try.prog 111 #[.agg o.val, .agg o.val] w fun e w' => e = .returned (.bool true) ∧ Below w.heap.size w w' := by
  simp only [LOp.val]
  go_enter Try.func111, Try.ntmps111
  go_wp2
  go_ret
  exact ⟨rfl, ((Below.refl _ _).alloc (Nat.le_refl _) _).alloc (by simp) _⟩

set_option maxHeartbeats 800000 in
theorem eqOpS_same (a a' : Option Addr) (n c c' : Nat) (ops : List LOp) (L U L' U' : Nat) (w : World) (hU : U ≤ w.heap.size) (hU' : U' ≤ w.heap.size) (H : OpsAt w L U a n ops) (H' : OpsAt w L' U' a' n ops) :
    Calls Try.prog 69 #[.slice a n c, .slice a' n c'] w fun e w' => e = .returned (.bool true) ∧ Below w.heap.size w w' := by
  have hbd := H.bd
  unfold maxLen at hbd
  go_enter Try.func69, Try.ntmps69
  go_wp2_with fail
  go_loopg [5] n (fun k i wr => ∃ j : Nat, j ≤ n ∧ Hid (k = n - j) ∧ i = .int .i64 j ∧ Below w.heap.size w wr)
  case atStart => exact ⟨0, Nat.zero_le _, rfl, rfl, Below.refl _ _⟩
  case round =>
    obtain ⟨j, hj, hk, rfl, hb⟩ := hrel
    by_cases hlt : j < n
    · obtain ⟨b, off, ha, hL, hbU, hc⟩ := H.at_ (by omega)
      obtain ⟨b', off', ha', hL', hbU', hc'⟩ := H'.at_ (by omega)
      subst ha ha'
      obtain ⟨x, he, hsz, hat⟩ := hc j hlt
      obtain ⟨y, he2, hsz2, hat2⟩ := hc' j hlt
      obtain rfl : x = y := by rw [he] at he2; simpa using he2
      obtain ⟨c0, c1, c2, c3, c4, c5, c6⟩ := hat.of_block (hb.block b (by omega))
      obtain ⟨d0, d1, d2, d3, d4, d5, d6⟩ := hat2.of_block (hb.block b' (by omega))
      have hlt' : (j : Int) < (n : Int) := by omega
      have HEQ := eqOp_same x
      simp only [LOp.val] at HEQ
      clear he he2 hc hc' hat hat2
      go_wp2_with fail
      go_region_with (go_at_call 111; go_must (refine (HEQ _).mono ?_; rintro e w1 ⟨rfl, hb1⟩))
      all_goals
        go_wp2_with fail
        go_roundg (n - (j + 1))
        case measure => have := hk.out; omega
        case rel => exact ⟨j + 1, by omega, rfl, by go_num, hb.trans ((Below.refl _ _).drew.trans (hb1.mono (by simp)) |>.mono hb.size)⟩
    · obtain rfl : j = n := by omega
      go_wp2_with fail
      go_ret
      exact ⟨rfl, hb⟩
end Go.Proofs.Ytohimbdmhljocaa

/- Logs: on what they lean, in memory; contracts of the law's szLog, toLog, eqLog. -/
namespace Go.Proofs.Ytohimbdmhljocaa
open Go.RowKit Go.ChangeShapes Go.WideShapes

structure LBase where
  id : Int
  ver : Int
/-- What a slice of bases is. -/
structure BasesAt (w : World) (L U : Nat) (a : Option Addr) (n : Nat) (bs : List LBase) : Prop where
  len : n = bs.length
  bd : n ≤ maxLen
  at_ : n ≠ 0 → ∃ b off, a = some ⟨b, off, none⟩ ∧ L ≤ b ∧ b < U ∧ ∀ i, i < n → ∃ e, bs[i]? = some e ∧ w.cell? ⟨b, off + i * 2, none⟩ = some (.int .i64 e.id) ∧ w.cell? ⟨b, off + i * 2 + 1, none⟩ = some (.int .i64 e.ver)
theorem BasesAt.below {w w' : World} {L U B : Nat} {a : Option Addr} {n : Nat} {es : List LBase} (h : BasesAt w L U a n es) (hb : Below B w w') (hU : U ≤ B) : BasesAt w' L U a n es :=
  ⟨h.len, h.bd, fun hn => by
    obtain ⟨b, off, ha, hL, hbU, hc⟩ := h.at_ hn
    refine ⟨b, off, ha, hL, hbU, fun i hi => ?_⟩
    obtain ⟨e, he, h0, h1⟩ := hc i hi
    exact ⟨e, he, by rw [hb.cell (by simp; omega)]; exact h0, by rw [hb.cell (by simp; omega)]; exact h1⟩⟩
theorem BasesAt.wide {w : World} {L U L' U' : Nat} {a : Option Addr} {n : Nat} {es : List LBase} (h : BasesAt w L U a n es) (hL' : L' ≤ L) (hU : U ≤ U') : BasesAt w L' U' a n es :=
  ⟨h.len, h.bd, fun hn => by
    obtain ⟨b, off, ha, hL, hbU, hc⟩ := h.at_ hn
    exact ⟨b, off, ha, by omega, by omega, hc⟩⟩
theorem BasesAt.blocks {w w' : World} {L U : Nat} {a : Option Addr} {n : Nat} {es : List LBase} (h : BasesAt w L U a n es) (hb : ∀ b, L ≤ b → b < U → w'.heap[b]? = w.heap[b]?) : BasesAt w' L U a n es :=
  ⟨h.len, h.bd, fun hn => by
    obtain ⟨b, off, ha, hL, hbU, hc⟩ := h.at_ hn
    refine ⟨b, off, ha, hL, hbU, fun i hi => ?_⟩
    obtain ⟨e, he, h0, h1⟩ := hc i hi
    have hk := hb b hL hbU
    exact ⟨e, he, by rw [World.cell?_of_block (w := w) hk]; exact h0, by rw [World.cell?_of_block (w := w) hk]; exact h1⟩⟩
theorem OpsAt.blocks {w w' : World} {L U : Nat} {a : Option Addr} {n : Nat} {ops : List LOp} (h : OpsAt w L U a n ops) (hb : ∀ b, L ≤ b → b < U → w'.heap[b]? = w.heap[b]?) : OpsAt w' L U a n ops :=
  ⟨h.len, h.bd, fun hn => by
    obtain ⟨b, off, ha, hL, hbU, hc⟩ := h.at_ hn
    refine ⟨b, off, ha, hL, hbU, fun i hi => ?_⟩
    obtain ⟨o, ho, hs, h0⟩ := hc i hi
    exact ⟨o, ho, hs, h0.of_block (hb b hL hbU)⟩⟩

structure LLog where
  who : Int
  seq : Int
  bases : List LBase
  list : List LOp
/-- What a log is. -/
structure LogAt (w : World) (L U : Nat) (q s : Int) (a : Option Addr) (n : Nat) (a' : Option Addr) (n' : Nat) (l : LLog) : Prop where
  q : q = l.who
  s : s = l.seq
  b : BasesAt w L U a n l.bases
  o : OpsAt w L U a' n' l.list
theorem LogAt.below {w w' : World} {L U B : Nat} {q s : Int} {a a' : Option Addr} {n n' : Nat} {l : LLog} (h : LogAt w L U q s a n a' n' l) (hb : Below B w w') (hU : U ≤ B) : LogAt w' L U q s a n a' n' l := ⟨h.q, h.s, h.b.below hb hU, h.o.below hb hU⟩
theorem LogAt.wide {w : World} {L U L' U' : Nat} {q s : Int} {a a' : Option Addr} {n n' : Nat} {l : LLog} (h : LogAt w L U q s a n a' n' l) (hL : L' ≤ L) (hU : U ≤ U') : LogAt w L' U' q s a n a' n' l := ⟨h.q, h.s, h.b.wide hL hU, h.o.wide hL hU⟩

section
variable {H : Type} {enc : TypeId × Value → H} {w : World} {spare : Nat → Bool} {held : Bool}
theorem open_bases {fuel : Nat} {v : Value} {x : DataW H × List MemPlace} (h : DataW.trod enc Try.prog w 0 spare held fuel 59 [v] = some x) :
    ∃ a n c es, v = .slice a n c ∧ BasesAt w 0 w.heap.size a n es := by
  rcases Go.Deep.open_slice_pairs Try.underlying59 Try.underlying150 (by kernel_rfl) rfl rfl (by kernel_rfl) (by kernel_rfl) h with ⟨hcs, _⟩ | ⟨a, len, cap, m, n, V0, V1, D0, D1, P0, P1, hcs, _, hl, hm, hmm, _, hx⟩
  · simp at hcs
    exact ⟨none, 0, 0, [], hcs, rfl, by simp, fun h => absurd rfl h⟩
  · simp at hcs
    have hlm : len ≤ m := by rw [hmm]; split <;> omega
    obtain ⟨es, hes, hp⟩ := list_of (n := len) (p := fun i (e : LBase) => V0 i = .int .i64 e.id ∧ V1 i = .int .i64 e.ver) (fun i hi => by
      obtain ⟨_, _, h0, h1⟩ := hx i (by omega)
      obtain ⟨s, e0, _, _⟩ := DataW.trod_int Try.underlying3 h0
      obtain ⟨k, e1, _, _⟩ := DataW.trod_int Try.underlying3 h1
      simp at e0 e1
      exact ⟨⟨s, k⟩, e0, e1⟩)
    refine ⟨some a, len, cap, es, hcs, hes.symm, by omega, fun hn => ?_⟩
    obtain ⟨b, off, spot⟩ := a
    have c0 := (hx 0 (by omega)).1
    have hspot : spot = none := by simpa [Addr.add] using World.cell?_spot c0
    subst hspot
    refine ⟨b, off, rfl, Nat.zero_le _, by have := cell_lt c0; simpa [Addr.add] using this, fun i hi => ?_⟩
    obtain ⟨e, he, q0, q1⟩ := hp i hi
    obtain ⟨h0, h1, _, _⟩ := hx i (by omega)
    exact ⟨e, he, by rw [← q0, ← addr_add]; exact h0, by rw [← q1, Nat.add_assoc, ← addr_add]; exact h1⟩
end

theorem szBaseS_any (a : Option Addr) (n c : Nat) (es : List LBase) (L U : Nat) (left : Int) (w : World) (h0 : 0 ≤ left) (h1 : left ≤ 1048576) (H : BasesAt w L U a n es) :
    Calls Try.prog 63 #[.slice a n c, .int .i64 left] w fun e w' => (∃ r : Int, e = .returned (.int .i64 r) ∧ (r = -1 ∨ (0 ≤ r ∧ r = left - n))) ∧ Below w.heap.size w w' := by
  have hbd := H.bd
  unfold maxLen at hbd
  by_cases h : left - n < 0
  · go_enter Try.func63, Try.ntmps63
    go_wp2
    go_ret
    exact ⟨⟨-1, rfl, .inl rfl⟩, Below.refl _ _⟩
  · go_enter Try.func63, Try.ntmps63
    go_wp2
    go_ret
    exact ⟨⟨_, rfl, .inr ⟨by omega, rfl⟩⟩, Below.refl _ _⟩

set_option maxHeartbeats 400000 in
theorem szLog_any (q s : Int) (a : Option Addr) (n c : Nat) (a' : Option Addr) (n' c' : Nat) (l : LLog) (L U : Nat) (left : Int) (w : World) (h0 : 0 ≤ left) (h1 : left ≤ 1048576) (hU : U ≤ w.heap.size) (H : LogAt w L U q s a n a' n' l) :
    Calls Try.prog 20 #[.agg #[.int .i64 q, .int .i64 s, .slice a n c, .slice a' n' c'], .int .i64 left] w fun e w' => (∃ r : Int, e = .returned (.int .i64 r) ∧ (r = -1 ∨ (0 ≤ r ∧ r = left - n - n' - totOps l.list))) ∧ Below w.heap.size w w' := by
  have HB := H.b
  have HO := H.o
  clear H
  go_enter Try.func20, Try.ntmps20
  go_wp2_with fail
  have hA : Below w.heap.size w (w.alloc (Obj.cells #[.int .i64 q, .int .i64 s, .slice a n c, .slice a' n' c'] 62)) := (Below.refl _ _).alloc (Nat.le_refl _) _
  refine (szBaseS_any _ _ _ _ L U _ _ h0 h1 (HB.below hA hU)).mono ?_
  rintro x w1 ⟨⟨r, rfl, hr⟩, hb⟩
  have HR : Hid (r = -1 ∨ 0 ≤ r ∧ r = left - n) := hr
  clear hr
  have hb' : Below w.heap.size w w1 := hA.trans (hb.mono (by simp))
  have c3 : w1.cell? ⟨w.heap.size, 3, none⟩ = some (.slice a' n' c') := by rw [hb.cell (by simp)]; simp [go_sem]
  have hs1 := hb'.size
  by_cases hneg : r < 0
  · go_wp2_with fail
    go_ret
    exact ⟨⟨-1, rfl, .inl rfl⟩, hb'⟩
  · go_wp2_with fail
    refine (szOpS_any _ _ _ _ L U _ _ (by omega) (by have := HR.out; omega) (by omega) (HO.below hb' hU)).mono ?_
    rintro x w2 ⟨⟨r2, rfl, hr2⟩, hb2⟩
    have HR2 : Hid (r2 = -1 ∨ 0 ≤ r2 ∧ r2 = r - n' - totOps l.list) := hr2
    clear hr2
    have hb2' : Below w.heap.size w w2 := hb'.trans (hb2.mono hs1)
    by_cases hneg2 : r2 < 0
    · go_wp2_with fail
      go_ret
      exact ⟨⟨-1, rfl, .inl rfl⟩, hb2'⟩
    · go_wp2_with fail
      go_ret
      exact ⟨⟨r2, rfl, by have := HR.out; have := HR2.out; omega⟩, hb2'⟩

theorem toBase_any (i j : Int) (w : World) :
    Calls Try.prog 108 #[.agg #[.int .i64 i, .int .i64 j]] w fun e w' => e = .returned (.agg #[.int .i64 i, .int .i64 j]) ∧ Below w.heap.size w w' := by
  go_enter Try.func108, Try.ntmps108
  go_wp2
  exact bodyPost_ret (v := .agg #[.int .i64 i, .int .i64 j]) (by simp [results, Try.results108, go_sem]) rfl ⟨rfl, by
    repeat (first | exact Below.refl _ _ | refine Below.setCell ?_ (by simp <;> omega) _ | refine Below.alloc ?_ (by simp <;> omega) _)⟩

theorem infoB : (Try.prog.info? 137).map (fun i => (i.zero.map (·.cells), i.size, i.bytes)) = some (some #[.int .i64 0, .int .i64 0], 2, 16) := by kernel_rfl

/-- Bases in a row of one's own, from its first cell on. -/
def BaseRow (w : World) (B : Nat) (a : Option Addr) (n g cap : Nat) (f : Nat → Value) : Prop := n ≠ 0 → a = some ⟨g, 0, none⟩ ∧ B ≤ g ∧ n * 2 ≤ cap ∧ w.rowIs g 137 cap f
def baseF (f : Nat → Value) (es : List LBase) : Prop := ∀ i e, es[i]? = some e → f (i * 2) = .int .i64 e.id ∧ f (i * 2 + 1) = .int .i64 e.ver
theorem BaseRow.at_ {w : World} {B : Nat} {a : Option Addr} {n g cap : Nat} {f : Nat → Value} {es : List LBase} (h : BaseRow w B a n g cap f) (hf : baseF f es) (hn : n = es.length) (hbd : n ≤ maxLen) : BasesAt w B w.heap.size a n es :=
  ⟨hn, hbd, fun h0 => by
    obtain ⟨h1, h2, h3, h4⟩ := h h0
    refine ⟨g, 0, h1, h2, h4.lt, fun i hi => ?_⟩
    have hl : es[i]? = some (es[i]'(by omega)) := by simp [show i < es.length by omega]
    obtain ⟨q0, q1⟩ := hf i _ hl
    exact ⟨_, hl, by rw [Nat.zero_add, h4.cell (by omega), q0], by rw [Nat.zero_add, h4.cell (by omega), q1]⟩⟩
theorem BaseRow.kept {w w' : World} {B : Nat} {a : Option Addr} {n g cap : Nat} {f : Nat → Value} (h : BaseRow w B a n g cap f) (hb : ∀ k, k = g → k < w.heap.size → w'.heap[k]? = w.heap[k]?) : BaseRow w' B a n g cap f := fun hn => by
  obtain ⟨h1, h2, h3, h4⟩ := h hn
  exact ⟨h1, h2, h3, h4.of_block (hb g rfl h4.lt)⟩

set_option maxHeartbeats 400000 in
theorem toBaseS_any (a : Option Addr) (n c : Nat) (es : List LBase) (L U : Nat) (w : World) (hn : n ≤ 1048576) (hU : U ≤ w.heap.size) (H : BasesAt w L U a n es) :
    Calls Try.prog 65 #[.slice a n c] w fun e w' => (∃ b, e = .returned (.slice (some ⟨b, 0, none⟩) n n) ∧ BasesAt w' w.heap.size w'.heap.size (some ⟨b, 0, none⟩) n es) ∧ Below w.heap.size w w' := by
  have hmk := run_make_many 63 137 _ 2 16 Try.underlying63 infoB n (by omega) (by omega)
  obtain ⟨f0, hf0⟩ := rowIs_many w #[.int .i64 0, .int .i64 0] (n * 2) 137
  have HF0 : Hid ((w.alloc (.cells (madeCells #[.int .i64 0, .int .i64 0] (n * 2)) 137)).rowIs w.heap.size 137 (n * 2) f0) := hf0
  clear hf0
  go_enter Try.func65, Try.ntmps65
  go_wp2
  go_loopg [4] n (fun k i wr => ∃ j : Nat, j ≤ n ∧ Hid (k = n - j) ∧ i = .int .i64 j ∧ (∃ f, Hid (wr.rowIs w.heap.size 137 (n * 2) f ∧ ∀ i, i < j → ∃ e, es[i]? = some e ∧ f (i * 2) = .int .i64 e.id ∧ f (i * 2 + 1) = .int .i64 e.ver)) ∧ Below w.heap.size w wr)
  case atStart => exact ⟨0, Nat.zero_le _, by show _ = _; omega, rfl, ⟨f0, HF0.out, fun i hi => by omega⟩, (Below.refl _ _).alloc (Nat.le_refl _) _⟩
  case round =>
    obtain ⟨j, hj, hk, rfl, ⟨f, hf⟩, hb⟩ := hrel
    by_cases hlt : j < n
    · obtain ⟨b, off, ha, hL, hbU, hc⟩ := H.at_ (by omega)
      subst ha
      obtain ⟨e, he, hc0, hc1⟩ := hc j hlt
      rw [← hb.cell (by simp; omega)] at hc0 hc1
      have HE : Hid (es[j]? = some e) := he
      clear he hc
      go_wp2_with fail
      refine (toBase_any _ _ _).mono ?_
      rintro x w1 ⟨rfl, hb1⟩
      have hrow := hf.out.1.of_block (hb1.block w.heap.size hf.out.1.lt)
      have g0 := hrow.cell (i := j * 2) (by omega)
      have g1 := hrow.cell (i := j * 2 + 1) (by omega)
      have z0 := hrow.frozen (j * 2)
      have z1 := hrow.frozen (j * 2 + 1)
      have HR : Hid (w1.rowIs w.heap.size 137 (n * 2) f) := hrow
      clear hrow
      go_wp2_with fail
      go_roundg (n - (j + 1))
      case measure => have := hk.out; omega
      case rel =>
        refine ⟨j + 1, by omega, rfl, by go_num, ⟨_, (HR.out.set (j * 2) (.int .i64 e.id)).set (j * 2 + 1) (.int .i64 e.ver), fun i hi => ?_⟩, ((hb.trans (hb1.mono hb.size)).setCell (by simp) _).setCell (by simp) _⟩
        by_cases hij : i = j
        · subst hij
          exact ⟨e, HE.out, by simp, by simp⟩
        · obtain ⟨e', he', q0, q1⟩ := hf.out.2 i (by omega)
          refine ⟨e', he', ?_, ?_⟩
          · show (if i * 2 = j * 2 + 1 then _ else if i * 2 = j * 2 then _ else f (i * 2)) = _
            rw [if_neg (by omega), if_neg (by omega)]; exact q0
          · show (if i * 2 + 1 = j * 2 + 1 then _ else if i * 2 + 1 = j * 2 then _ else f (i * 2 + 1)) = _
            rw [if_neg (by omega), if_neg (by omega)]; exact q1
    · go_wp2_with fail
      go_ret
      refine ⟨⟨w.heap.size, rfl, H.len, H.bd, fun hn0 => ⟨w.heap.size, 0, rfl, Nat.le_refl _, hf.out.1.lt, fun i hi => ?_⟩⟩, hb⟩
      obtain ⟨e', he', q0, q1⟩ := hf.out.2 i (by omega)
      exact ⟨e', he', by rw [← q0, Nat.zero_add]; exact hf.out.1.cell (by omega), by rw [← q1, Nat.zero_add]; exact hf.out.1.cell (by omega)⟩

set_option maxHeartbeats 400000 in
theorem toLog_any (q s : Int) (a : Option Addr) (n c : Nat) (a' : Option Addr) (n' c' : Nat) (l : LLog) (L U : Nat) (w : World) (hn : n ≤ 1048576) (hn' : n' ≤ 1048576) (hU : U ≤ w.heap.size) (H : LogAt w L U q s a n a' n' l) :
    Calls Try.prog 21 #[.agg #[.int .i64 q, .int .i64 s, .slice a n c, .slice a' n' c']] w fun e w' => (∃ b b', e = .returned (.agg #[.int .i64 q, .int .i64 s, .slice (some ⟨b, 0, none⟩) n n, .slice (some ⟨b', 0, none⟩) n' n']) ∧ LogAt w' w.heap.size w'.heap.size q s (some ⟨b, 0, none⟩) n (some ⟨b', 0, none⟩) n' l) ∧ Below w.heap.size w w' := by
  have HH := H
  have HB := H.b
  have HO := H.o
  clear H
  go_enter Try.func21, Try.ntmps21
  go_wp2_with fail
  refine (toBaseS_any _ _ _ _ L U _ hn (by simp <;> omega) (HB.below ((((Below.refl _ _).alloc (Nat.le_refl _) _).alloc (by simp) _).alloc (by simp <;> omega) _) hU)).mono ?_
  rintro x w1 ⟨⟨b, rfl, hk⟩, hb⟩
  have hz : w.heap.size + 3 ≤ w1.heap.size := by have := hb.size; simp at this; omega
  have hb0 : Below w.heap.size w w1 := ((((Below.refl _ _).alloc (Nat.le_refl _) _).alloc (by simp) _).alloc (by simp <;> omega) _).trans (hb.mono (by simp <;> omega))
  have hk1 : BasesAt w1 (w.heap.size + 3) w1.heap.size (some ⟨b, 0, none⟩) n l.bases := hk.wide (by simp) (Nat.le_refl _)
  obtain ⟨hc, hf⟩ := bcell hb
  have p3 : w1.cell? ⟨w.heap.size, 3, none⟩ = some (.slice a' n' c') := by rw [hc _ _ (by simp <;> omega)]; simp [go_sem]
  have r0 : w1.cell? ⟨w.heap.size + 1, 0, none⟩ = some (.int .i64 0) := by rw [hc _ _ (by simp <;> omega)]; simp [go_sem]
  have r1 : w1.cell? ⟨w.heap.size + 1, 1, none⟩ = some (.int .i64 0) := by rw [hc _ _ (by simp <;> omega)]; simp [go_sem]
  have r2 : w1.cell? ⟨w.heap.size + 1, 2, none⟩ = some (.slice none 0 0) := by rw [hc _ _ (by simp <;> omega)]; simp [go_sem]
  have r3 : w1.cell? ⟨w.heap.size + 1, 3, none⟩ = some (.slice none 0 0) := by rw [hc _ _ (by simp <;> omega)]; simp [go_sem]
  have q0 : w1.cell? ⟨w.heap.size + 1 + 1, 0, none⟩ = some (.int .i64 q) := by rw [hc _ _ (by simp)]; simp [go_sem]
  have q1 : w1.cell? ⟨w.heap.size + 1 + 1, 1, none⟩ = some (.int .i64 s) := by rw [hc _ _ (by simp)]; simp [go_sem]
  have q2 : w1.cell? ⟨w.heap.size + 1 + 1, 2, none⟩ = some (.slice none 0 0) := by rw [hc _ _ (by simp)]; simp [go_sem]
  have q3 : w1.cell? ⟨w.heap.size + 1 + 1, 3, none⟩ = some (.slice none 0 0) := by rw [hc _ _ (by simp)]; simp [go_sem]
  have y1 : ∀ o, w1.frozen? ⟨w.heap.size + 1, o, none⟩ = false := fun o => by rw [hf _ _ (by simp <;> omega)]; simp [go_sem]
  have y2 : ∀ o, w1.frozen? ⟨w.heap.size + 1 + 1, o, none⟩ = false := fun o => by rw [hf _ _ (by simp)]; simp [go_sem]
  clear hc hf hb hk
  go_wp2_with fail
  refine (toOpS_any _ _ _ _ L U _ hn' (by simp <;> omega) (HO.below (hb0.setCell (by simp <;> omega) _) hU)).mono ?_
  rintro x w2 ⟨⟨b', rfl, hk2⟩, hb2⟩
  obtain ⟨hc, hf⟩ := bcell hb2
  have hz2 : w1.heap.size ≤ w2.heap.size := by have := hb2.size; simp at this; omega
  have e0 := hc (w.heap.size + 1) 0 (by simp <;> omega)
  have e1 := hc (w.heap.size + 1) 1 (by simp <;> omega)
  have e2 := hc (w.heap.size + 1) 2 (by simp <;> omega)
  have e3 := hc (w.heap.size + 1) 3 (by simp <;> omega)
  have d0 := hc (w.heap.size + 1 + 1) 0 (by simp <;> omega)
  have d1 := hc (w.heap.size + 1 + 1) 1 (by simp <;> omega)
  have d2 := hc (w.heap.size + 1 + 1) 2 (by simp <;> omega)
  have d3 := hc (w.heap.size + 1 + 1) 3 (by simp <;> omega)
  have x1 : ∀ o, w2.frozen? ⟨w.heap.size + 1, o, none⟩ = false := fun o => by rw [hf _ _ (by simp <;> omega)]; simp [go_sem, y1]
  have x2 : ∀ o, w2.frozen? ⟨w.heap.size + 1 + 1, o, none⟩ = false := fun o => by rw [hf _ _ (by simp <;> omega)]; simp [go_sem, y2]
  simp [go_sem, r0, r1, r2, r3, q0, q1, q2, q3] at e0 e1 e2 e3 d0 d1 d2 d3
  have hb3 : Below w.heap.size w w2 := (hb0.setCell (p := ⟨w.heap.size + 1 + 1, 2, none⟩) (by simp <;> omega) (.slice (some ⟨b, 0, none⟩) n n)).trans (hb2.mono (by simp <;> omega))
  have hk3 : BasesAt w2 (w.heap.size + 3) w1.heap.size (some ⟨b, 0, none⟩) n l.bases := hk1.blocks fun k h1 h2 => by
    rw [hb2.block k (by simp <;> omega)]
    exact Below.heap_setCell _ _ _ k (by simp <;> omega)
  have hk4 : OpsAt w2 (w.heap.size + 3) w2.heap.size (some ⟨b', 0, none⟩) n' l.list := hk2.wide (by simp <;> omega) (Nat.le_refl _)
  clear hc hf hb2 hk1 hk2 p3 r0 r1 r2 r3 q0 q1 q2 q3 y1 y2
  go_wp2_with fail
  refine bodyPost_ret (v := .agg #[.int .i64 q, .int .i64 s, .slice (some ⟨b, 0, none⟩) n n, .slice (some ⟨b', 0, none⟩) n' n']) (by simp [results, Try.results21, go_sem, e0, e1, e2, e3]) rfl ⟨⟨b, b', rfl, HH.q, HH.s, ?_, ?_⟩, ?_⟩
  · refine BasesAt.wide (L := w.heap.size + 3) (U := w1.heap.size) ?_ (by omega) (by simp <;> omega)
    refine hk3.blocks fun k h1 h2 => ?_
    iterate 5 refine (Below.heap_setCell _ _ _ k (by simp <;> omega)).trans ?_
    rfl
  · refine OpsAt.wide (L := w.heap.size + 3) (U := w2.heap.size) ?_ (by omega) (by simp)
    refine hk4.blocks fun k h1 h2 => ?_
    iterate 5 refine (Below.heap_setCell _ _ _ k (by simp <;> omega)).trans ?_
    rfl
  · repeat (first | exact hb3 | refine Below.setCell ?_ (by simp <;> omega) _)

theorem eqBase_same (i j : Int) (w : World) :
    Calls Try.prog 110 #[.agg #[.int .i64 i, .int .i64 j], .agg #[.int .i64 i, .int .i64 j]] w fun e w' => e = .returned (.bool true) ∧ Below w.heap.size w w' := by
  go_enter Try.func110, Try.ntmps110
  go_wp2
  go_ret
  exact ⟨by simp, ((Below.refl _ _).alloc (Nat.le_refl _) _).alloc (by simp) _⟩

set_option maxHeartbeats 800000 in
theorem eqBaseS_same (a a' : Option Addr) (n c c' : Nat) (es : List LBase) (L U L' U' : Nat) (w : World) (hU : U ≤ w.heap.size) (hU' : U' ≤ w.heap.size) (H : BasesAt w L U a n es) (H' : BasesAt w L' U' a' n es) :
    Calls Try.prog 68 #[.slice a n c, .slice a' n c'] w fun e w' => e = .returned (.bool true) ∧ Below w.heap.size w w' := by
  have hbd := H.bd
  unfold maxLen at hbd
  go_enter Try.func68, Try.ntmps68
  go_wp2_with fail
  go_loopg [5] n (fun k i wr => ∃ j : Nat, j ≤ n ∧ Hid (k = n - j) ∧ i = .int .i64 j ∧ Below w.heap.size w wr)
  case atStart => exact ⟨0, Nat.zero_le _, rfl, rfl, Below.refl _ _⟩
  case round =>
    obtain ⟨j, hj, hk, rfl, hb⟩ := hrel
    by_cases hlt : j < n
    · obtain ⟨b, off, ha, hL, hbU, hc⟩ := H.at_ (by omega)
      obtain ⟨b', off', ha', hL', hbU', hc'⟩ := H'.at_ (by omega)
      subst ha ha'
      obtain ⟨x, he, c0, c1⟩ := hc j hlt
      obtain ⟨y, he2, d0, d1⟩ := hc' j hlt
      obtain rfl : x = y := by rw [he] at he2; simpa using he2
      rw [← hb.cell (by simp <;> omega)] at c0 c1 d0 d1
      have hlt' : (j : Int) < (n : Int) := by omega
      have HEQ := eqBase_same x.id x.ver
      clear he he2 hc hc'
      go_wp2_with fail
      go_region_with (go_at_call 110; go_must (refine (HEQ _).mono ?_; rintro e w1 ⟨rfl, hb1⟩))
      all_goals
        go_wp2_with fail
        go_roundg (n - (j + 1))
        case measure => have := hk.out; omega
        case rel => exact ⟨j + 1, by omega, rfl, by go_num, hb.trans ((Below.refl _ _).drew.trans (hb1.mono (by simp)) |>.mono hb.size)⟩
    · obtain rfl : j = n := by omega
      go_wp2_with fail
      go_ret
      exact ⟨rfl, hb⟩

set_option maxHeartbeats 800000 in
theorem eqLog_same (q s : Int) (a : Option Addr) (n c : Nat) (a' : Option Addr) (n' c' : Nat) (a2 : Option Addr) (c2 : Nat) (a2' : Option Addr) (c2' : Nat) (l : LLog) (L U L' U' : Nat) (w : World) (hU : U ≤ w.heap.size) (hU' : U' ≤ w.heap.size) (H : LogAt w L U q s a n a' n' l) (H' : LogAt w L' U' q s a2 n a2' n' l) :
    Calls Try.prog 24 #[.agg #[.int .i64 q, .int .i64 s, .slice a n c, .slice a' n' c'], .agg #[.int .i64 q, .int .i64 s, .slice a2 n c2, .slice a2' n' c2']] w fun e w' => e = .returned (.bool true) ∧ Below w.heap.size w w' := by
  have HB := H.b
  have HO := H.o
  have HB' := H'.b
  have HO' := H'.o
  clear H H'
  go_enter Try.func24, Try.ntmps24
  go_wp2_with fail
  refine (eqBaseS_same _ _ _ _ _ _ L U L' U' _ (by simp <;> omega) (by simp <;> omega) (HB.below (((Below.refl _ _).alloc (Nat.le_refl _) _).alloc (by simp) _) hU) (HB'.below (((Below.refl _ _).alloc (Nat.le_refl _) _).alloc (by simp) _) hU')).mono ?_
  rintro x w1 ⟨rfl, hb1⟩
  have hb2 : Below w.heap.size w w1 := (((Below.refl _ _).alloc (Nat.le_refl _) _).alloc (by simp) _).trans (hb1.mono (by simp <;> omega))
  have hz := hb2.size
  have p3 : w1.cell? ⟨w.heap.size, 3, none⟩ = some (.slice a' n' c') := by rw [hb1.cell (by simp <;> omega)]; simp [go_sem]
  have p4 : w1.cell? ⟨w.heap.size + 1, 3, none⟩ = some (.slice a2' n' c2') := by rw [hb1.cell (by simp)]; simp [go_sem]
  clear hb1
  go_wp2_with fail
  refine (eqOpS_same _ _ _ _ _ _ L U L' U' _ (by omega) (by omega) (HO.below hb2 hU) (HO'.below hb2 hU')).mono ?_
  rintro x w2 ⟨rfl, hb3⟩
  go_wp2_with fail
  go_ret
  exact ⟨rfl, hb2.trans (hb3.mono hz)⟩
end Go.Proofs.Ytohimbdmhljocaa

/- Draws: contracts of the reader of bytes. -/
namespace Go.Proofs.Ytohimbdmhljocaa
open Go.RowKit

/-- The bytes behind a slice. -/
structure BytesAt (w : World) (U : Nat) (a : Option Addr) (n : Nat) (zs : List Int) : Prop where
  len : n = zs.length
  at_ : n ≠ 0 → ∃ b off, a = some ⟨b, off, none⟩ ∧ b < U ∧ ∀ i, i < n → ∃ z, zs[i]? = some z ∧ 0 ≤ z ∧ z ≤ 255 ∧ w.cell? ⟨b, off + i, none⟩ = some (.int .u8 z)

/-- A reader of bytes, its state. -/
structure RdAt (w : World) (rb : Nat) (p : Nat) : Prop where
  all : ∃ a n c zs, n ≤ 2000 ∧ w.cell? ⟨rb, 0, none⟩ = some (.slice a n c) ∧ w.cell? ⟨rb, 1, none⟩ = some (.int .i64 p) ∧ w.frozen? ⟨rb, 1, none⟩ = false ∧ BytesAt w rb a n zs
  lt : rb < w.heap.size
theorem BytesAt.below {w w' : World} {B U : Nat} {a : Option Addr} {n : Nat} {zs : List Int} (h : BytesAt w U a n zs) (hb : Below B w w') (hU : U ≤ B) : BytesAt w' U a n zs :=
  ⟨h.len, fun hn => by
    obtain ⟨b, off, ha, hbU, hc⟩ := h.at_ hn
    refine ⟨b, off, ha, hbU, fun i hi => ?_⟩
    obtain ⟨z, hz, h0, h1, h2⟩ := hc i hi
    exact ⟨z, hz, h0, h1, by rw [hb.cell (by simp; omega)]; exact h2⟩⟩
theorem RdAt.below {w w' : World} {rb p : Nat} (h : RdAt w rb p) {B : Nat} (hb : Below B w w') (hB : rb < B) : RdAt w' rb p := by
  obtain ⟨a, n, c, zs, h0, h1, h2, h3, h4⟩ := h.all
  exact ⟨⟨a, n, c, zs, h0, by rw [hb.cell (by simpa using hB)]; exact h1, by rw [hb.cell (by simpa using hB)]; exact h2, by rw [hb.frozen (by simpa using hB)]; exact h3, h4.below hb (by omega)⟩, by have := hb.size; have := h.lt; omega⟩
/-- The world behind a draw: the reader one place on, all below it and all other blocks as they were. -/
structure Drawn (w w' : World) (rb : Nat) : Prop where
  below : Below rb w w'
  size : w'.heap.size = w.heap.size
  block : ∀ k, k ≠ rb → w'.heap[k]? = w.heap[k]?
end Go.Proofs.Ytohimbdmhljocaa

/- Drawn names and texts: the walk of the law FnTreeWord. -/
namespace Go.Proofs.Ytohimbdmhljocaa
open Go.RowKit

theorem Drawn.cell {w w' : World} {rb : Nat} (h : Drawn w w' rb) {q : Addr} (hq : q.block ≠ rb) : w'.cell? q = w.cell? q := World.cell?_of_block (w := w) (h.block q.block hq)
theorem BytesAt.wide {w : World} {U U' : Nat} {a : Option Addr} {n : Nat} {zs : List Int} (h : BytesAt w U a n zs) (hU : U ≤ U') : BytesAt w U' a n zs :=
  ⟨h.len, fun hn => by
    obtain ⟨b, off, ha, hbU, hc⟩ := h.at_ hn
    exact ⟨b, off, ha, by omega, hc⟩⟩
end Go.Proofs.Ytohimbdmhljocaa

/- Marks laid into a tree and looked for again; a tree that is opened: contracts. -/
namespace Go.Proofs.Ytohimbdmhljocaa
open Go.RowKit

/-- All blocks that were there but one are as they were. -/
structure But (b : Nat) (w w' : World) : Prop where
  below : Below b w w'
  block : ∀ k, k ≠ b → k < w.heap.size → w'.heap[k]? = w.heap[k]?
theorem But.cell {b : Nat} {w w' : World} (h : But b w w') {q : Addr} (h1 : q.block ≠ b) (h2 : q.block < w.heap.size) : w'.cell? q = w.cell? q := World.cell?_of_block (w := w) (h.block q.block h1 h2)
theorem But.refl (b : Nat) (w : World) : But b w w := ⟨Below.refl _ _, fun _ _ _ => rfl⟩
theorem But.trans {b : Nat} {w w1 w2 : World} (h : But b w w1) (k : But b w1 w2) : But b w w2 :=
  ⟨h.below.trans k.below, fun i h1 h2 => (k.block i h1 (by have := h.below.size; omega)).trans (h.block i h1 h2)⟩
theorem But.next {b : Nat} {w w1 w2 : World} (h : But b w w1) (hb : b ≤ w1.heap.size) (k : Below w1.heap.size w1 w2) : But b w w2 :=
  h.trans ⟨k.mono hb, fun i _ h2 => k.block i h2⟩
theorem But.set {b : Nat} {w w1 : World} (h : But b w w1) (o : Nat) (v : Value) : But b w (w1.setCell ⟨b, o, none⟩ v) :=
  h.trans ⟨(Below.refl _ _).setCell (by exact Nat.le_refl _) _, fun i h1 _ => Below.heap_setCell w1 ⟨b, o, none⟩ v i h1⟩

end Go.Proofs.Ytohimbdmhljocaa

/- Draws over a tree: one of a list of numbers; the numbers of the objects of a kind. -/
namespace Go.Proofs.Ytohimbdmhljocaa
open Go.RowKit

def OwnInts (w : World) (B : Nat) (v : Value) (l : List Nat) : Prop := w.ownsRow B 3 1 v l.length (l.map fun i : Nat => Value.int .i64 i)
theorem below_grown {B : Nat} {w w1 w2 : World} {row : Option Nat} (h : Below B w w1) (hg : w1.grownBy w2 row) (hr : ∀ k, row = some k → B ≤ k) (hs : B ≤ w1.heap.size) : Below B w w2 :=
  h.trans ⟨hg.os, hg.tape, hg.output, hg.size, fun k hk => hg.block k (by omega) (fun e => by have := hr k e.symm; omega)⟩

end Go.Proofs.Ytohimbdmhljocaa

/- Draws over a tree: a directory's number, any number. -/
namespace Go.Proofs.Ytohimbdmhljocaa
open Go.RowKit

theorem OwnInts.get {w : World} {B : Nat} {v : Value} {l : List Nat} (h : OwnInts w B v l) (hl : l ≠ []) : ∃ g c, v = .slice (some ⟨g, 0, none⟩) l.length c ∧ B ≤ g ∧ g < w.heap.size ∧ ∀ i, i < l.length → ∃ k, l[i]? = some k ∧ w.cell? ⟨g, i, none⟩ = some (.int .i64 (k : Nat)) := by
  have h0 : 0 < l.length := List.length_pos_iff.mpr hl
  obtain ⟨g, c, rfl, hb, hlt⟩ := World.ownsRow.form h h0
  refine ⟨g, c, rfl, hb, hlt, fun i hi => ⟨l[i], by simp [hi], ?_⟩⟩
  have := World.ownsRow.cellAt h i (by simpa using hi)
  rw [this]; simp [hi]
theorem OwnInts.nil {w : World} {B : Nat} {v : Value} (h : OwnInts w B v []) : ∃ a c, v = .slice a 0 c := by
  rcases h.2 with ⟨rfl, _⟩ | ⟨g, cap, cur, rfl, _⟩
  · exact ⟨_, _, rfl⟩
  · exact ⟨_, _, rfl⟩

end Go.Proofs.Ytohimbdmhljocaa

/- Draws over a tree: a number that was nobody's. -/
namespace Go.Proofs.Ytohimbdmhljocaa
open Go.RowKit

end Go.Proofs.Ytohimbdmhljocaa

/- Names of a directory in memory of the call's own; taking a name out. -/
namespace Go.Proofs.Ytohimbdmhljocaa
open Go.RowKit

def entCells (es : List LEnt) : List Value := es.flatMap fun e => [.string e.name, .int .i64 e.id]
theorem entCells_len (es : List LEnt) : (entCells es).length = es.length * 2 := by
  induction es with
  | nil => rfl
  | cons e r ih => simp only [entCells, List.flatMap_cons, List.length_append, List.length_cons, List.length_nil] at ih ⊢; omega
theorem entCells_app (es fs : List LEnt) : entCells (es ++ fs) = entCells es ++ entCells fs := by simp [entCells]
theorem entCells_at : ∀ (es : List LEnt) (i : Nat) (e : LEnt), es[i]? = some e → (entCells es)[i * 2]? = some (.string e.name) ∧ (entCells es)[i * 2 + 1]? = some (.int .i64 e.id)
  | [], i, e, h => by simp at h
  | x :: r, 0, e, h => by simp at h; subst h; simp [entCells]
  | x :: r, i + 1, e, h => by
    have ih := entCells_at r i e (by simpa using h)
    have e1 : entCells (x :: r) = [.string x.name, .int .i64 x.id] ++ entCells r := rfl
    rw [e1, List.getElem?_append_right (by simp; omega), List.getElem?_append_right (by simp; omega)]
    have a1 : (i + 1) * 2 - 2 = i * 2 := by omega
    have a2 : (i + 1) * 2 + 1 - 2 = i * 2 + 1 := by omega
    simpa [a1, a2] using ih
/-- A slice of names that the call owns. -/
def OwnEnts (w : World) (B : Nat) (v : Value) (es : List LEnt) : Prop := w.ownsRow B 173 2 v es.length (entCells es)
theorem OwnEnts.at_ {w : World} {B : Nat} {v : Value} {es : List LEnt} (h : OwnEnts w B v es) (hn : ∀ e ∈ es, e.name.size ≤ maxLen) : ∃ a c, v = .slice a es.length c ∧ EntsAt w B w.heap.size a es.length es := by
  by_cases h0 : es.length = 0
  · obtain rfl : es = [] := List.eq_nil_of_length_eq_zero h0
    rcases h.2 with ⟨rfl, _⟩ | ⟨g, cap, cur, rfl, _⟩
    · exact ⟨_, _, rfl, rfl, by simp [maxLen], fun hn => absurd rfl hn⟩
    · exact ⟨_, _, rfl, rfl, by simp [maxLen], fun hn => absurd rfl hn⟩
  · obtain ⟨g, c, rfl, hb, hlt⟩ := World.ownsRow.form h (by omega)
    have hbd : es.length ≤ maxLen := by
      rcases h.2 with ⟨h', _⟩ | ⟨g', cap', cur, h', _, _, hnc, hcm, _⟩
      · simp at h'
      · omega
    refine ⟨_, _, rfl, rfl, hbd, fun _ => ⟨g, 0, rfl, hb, hlt, fun i hi => ⟨es[i], by simp [hi], hn _ (List.getElem_mem hi), ?_, ?_⟩⟩⟩
    · have := World.ownsRow.cellAt h (i * 2) (by omega)
      rw [Nat.zero_add, this]
      exact (entCells_at es i es[i] (by simp [hi])).1
    · have := World.ownsRow.cellAt h (i * 2 + 1) (by omega)
      rw [Nat.zero_add, this]
      exact (entCells_at es i es[i] (by simp [hi])).2
end Go.Proofs.Ytohimbdmhljocaa

/- append of names onto names that the call owns: the laws. -/
namespace Go.Proofs.Ytohimbdmhljocaa
open Go.RowKit

theorem OwnEnts.grown {w w' : World} {B g n cap : Nat} {es : List LEnt} {row : Option Nat} (h : OwnEnts w B (.slice (some ⟨g, 0, none⟩) n cap) es) (hg : w.grownBy w' row) (hne : some g ≠ row) : OwnEnts w' B (.slice (some ⟨g, 0, none⟩) n cap) es :=
  World.ownsRow.kept h hg (.inr (by simpa [Value.ownBlock] using hne))
theorem OwnEnts.cut {w : World} {B g n cap k : Nat} {es : List LEnt} (h : OwnEnts w B (.slice (some ⟨g, 0, none⟩) n cap) es) (hn : n = es.length) (hk : k ≤ n) : OwnEnts w B (.slice (some ⟨g, 0, none⟩) k cap) (es.take k) := by
  subst hn
  have hl : (es.take k).length = k := by simp; omega
  refine ⟨by rw [entCells_len], .inr ?_⟩
  rcases h.2 with ⟨h', _⟩ | ⟨g', cap', cur, h', hb, hg, hnc, hcm, hcs, htake⟩
  · simp at h'
  · simp only [Value.slice.injEq, Option.some.injEq, Addr.mk.injEq, and_true, true_and] at h'
    obtain ⟨rfl, rfl⟩ := h'
    refine ⟨g, cap, cur, by rw [hl], hb, hg, by omega, hcm, hcs, ?_⟩
    have e1 : entCells es = entCells (es.take k) ++ entCells (es.drop k) := by rw [← entCells_app, List.take_append_drop]
    have e2 : cur.toList.take (k * 2) = (cur.toList.take (es.length * 2)).take (k * 2) := by rw [List.take_take]; congr 1; omega
    rw [hl, e2, htake, e1, List.take_left' (by rw [entCells_len, hl])]
theorem OwnEnts.rest {w : World} {B g n cap k : Nat} {es : List LEnt} (h : OwnEnts w B (.slice (some ⟨g, 0, none⟩) n cap) es) (hn : n = es.length) (hk : k ≤ n) : ∀ j u, (entCells (es.drop k))[j]? = some u → w.cell? ((⟨g, k * 2, none⟩ : Addr).add j) = some u := by
  intro j u hu
  subst hn
  have hl : (es.take k).length = k := by simp; omega
  have e1 : entCells es = entCells (es.take k) ++ entCells (es.drop k) := by rw [← entCells_app, List.take_append_drop]
  have hlen : (entCells (es.take k)).length = k * 2 := by rw [entCells_len, hl]
  have h1 : (entCells es)[k * 2 + j]? = some u := by rw [e1, List.getElem?_append_right (by omega)]; rw [hlen]; simpa using hu
  have hj : k * 2 + j < es.length * 2 := by
    have := (List.getElem?_eq_some_iff.1 h1).1
    rwa [entCells_len] at this
  have h2 := World.ownsRow.cellAt h (k * 2 + j) hj
  have hadd : (⟨g, k * 2, none⟩ : Addr).add j = ⟨g, k * 2 + j, none⟩ := by unfold Addr.add; split <;> simp_all
  rw [hadd, h2]; exact h1
theorem OwnEnts.empty (w : World) (B : Nat) (hB : B ≤ w.heap.size) : OwnEnts (w.alloc (Obj.cells #[] 173)) B (.slice (some ⟨w.heap.size, 0, none⟩) 0 0) [] := by
  simpa [OwnEnts, entCells] using World.ownsRow_lit (base := B) (e := 173) (size := 2) w #[] 0 hB (by simp [maxLen]) rfl
end Go.Proofs.Ytohimbdmhljocaa

/- Rows of what is done, of one's own, that grow. -/
namespace Go.Proofs.Ytohimbdmhljocaa
open Go.RowKit

/-- The cells of what is done, one behind the other. -/
def opCells (l : List LOp) : List Value := l.flatMap fun o => o.val.toList
theorem opCells_len (l : List LOp) : (opCells l).length = l.length * 7 := by
  induction l with
  | nil => rfl
  | cons o r ih => simp only [opCells, List.flatMap_cons, List.length_append, List.length_cons] at ih ⊢; rw [ih]; simp [LOp.val]; omega
theorem opCells_app (l r : List LOp) : opCells (l ++ r) = opCells l ++ opCells r := by simp [opCells]
def OwnOps (w : World) (B : Nat) (v : Value) (l : List LOp) : Prop := w.ownsRow B 151 7 v l.length (opCells l)
structure AppOEnd (w w' : World) (B : Nat) (u v : Value) (l : List LOp) : Prop where
  own : OwnOps w' B v l
  grown : w.grownBy w' u.ownBlock
  at_ : ∀ g, v.ownBlock = some g → u.ownBlock = some g ∨ g = w.heap.size
end Go.Proofs.Ytohimbdmhljocaa

/- Lists that are made shorter: what that is, on lists. -/
namespace Go.Proofs.Ytohimbdmhljocaa
open Go.RowKit

/-! Some of a list. -/
/-! Texts that are void. -/
/-! What is made and goes again. -/
/-! What is moved and moved on. -/
/-! Again and again. -/
/-! What is kept. -/
end Go.Proofs.Ytohimbdmhljocaa

/- Lists that are made shorter: the specification. -/
namespace Go.Proofs.Ytohimbdmhljocaa
open Go.RowKit

theorem opCells_at : ∀ (l : List LOp) (i : Nat) (o : LOp), l[i]? = some o → ∀ t u, o.val[t]? = some u → (opCells l)[i * 7 + t]? = some u
  | [], i, o, h, _, _, _ => by simp at h
  | x :: r, 0, o, h, t, u, hu => by
    simp at h
    subst h
    have ht : t < x.val.toList.length := by
      have := (Array.getElem?_eq_some_iff.1 hu).1
      simpa using this
    simp only [opCells, List.flatMap_cons]
    rw [List.getElem?_append_left (by omega)]
    simpa using hu
  | x :: r, i + 1, o, h, t, u, hu => by
    have ih := opCells_at r i o (by simpa using h) t u hu
    simp only [opCells, List.flatMap_cons]
    have h7 : x.val.toList.length = 7 := by simp [LOp.val]
    rw [List.getElem?_append_right (by omega), h7]
    have e : (i + 1) * 7 + t - 7 = i * 7 + t := by omega
    rw [e]
    exact ih
theorem OwnOps.at_ {w : World} {B : Nat} {v : Value} {l : List LOp} (h : OwnOps w B v l) (hn : ∀ o ∈ l, OpSz o) : ∃ a c, v = .slice a l.length c ∧ OpsAt w B w.heap.size a l.length l := by
  by_cases h0 : l.length = 0
  · obtain rfl : l = [] := List.eq_nil_of_length_eq_zero h0
    rcases h.2 with ⟨rfl, _⟩ | ⟨g, cap, cur, rfl, _⟩
    · exact ⟨_, _, rfl, rfl, by simp [maxLen], fun hn => absurd rfl hn⟩
    · exact ⟨_, _, rfl, rfl, by simp [maxLen], fun hn => absurd rfl hn⟩
  · obtain ⟨g, c, rfl, hb, hlt⟩ := World.ownsRow.form h (by omega)
    have hbd : l.length ≤ maxLen := by
      rcases h.2 with ⟨h', _⟩ | ⟨g', cap', cur, h', _, _, hnc, hcm, _⟩
      · simp at h'
      · omega
    have hc : ∀ i (hi : i < l.length) t u, t < 7 → (l[i]).val[t]? = some u → w.cell? ⟨g, 0 + i * 7 + t, none⟩ = some u := fun i hi t u ht hu => by
      have := World.ownsRow.cellAt h (i * 7 + t) (by omega)
      rw [Nat.zero_add, this]
      exact opCells_at l i l[i] (by simp [hi]) t u hu
    exact ⟨_, _, rfl, rfl, hbd, fun _ => ⟨g, 0, rfl, hb, hlt, fun i hi => ⟨l[i], by simp [hi], hn _ (List.getElem_mem hi), hc i hi 0 _ (by omega) (by simp [LOp.val]), hc i hi 1 _ (by omega) (by simp [LOp.val]), hc i hi 2 _ (by omega) (by simp [LOp.val]), hc i hi 3 _ (by omega) (by simp [LOp.val]), hc i hi 4 _ (by omega) (by simp [LOp.val]), hc i hi 5 _ (by omega) (by simp [LOp.val]), hc i hi 6 _ (by omega) (by simp [LOp.val])⟩⟩⟩
theorem AppOEnd.below {w0 wr w1 : World} {B : Nat} {u v : Value} {l r : List LOp} {o1 : Obj} (hE : AppOEnd (wr.alloc o1) w1 B u v r) (hown : OwnOps wr B u l) (hb : Below B w0 wr) (hsz : B ≤ wr.heap.size) : Below B w0 w1 := by
  have hr : ∀ k, u.ownBlock = some k → B ≤ k := fun k e => (hown.lt k e).1
  exact hb.trans (below_grown ((Below.refl _ _).alloc (by omega) _) hE.grown hr (by simp; omega))
theorem OwnOps.empty (w : World) (B : Nat) (hB : B ≤ w.heap.size) : OwnOps (w.alloc (Obj.cells #[] 151)) B (.slice (some ⟨w.heap.size, 0, none⟩) 0 0) [] := by
  simpa [OwnOps, opCells] using World.ownsRow_lit (base := B) (e := 151) (size := 7) w #[] 0 hB (by simp [maxLen]) rfl

theorem OwnOps.next {w w' : World} {B : Nat} {v : Value} {l : List LOp} (h : OwnOps w B v l) (hb : Below w.heap.size w w') : OwnOps w' B v l := by
  refine ⟨h.1, ?_⟩
  rcases h.2 with hn | ⟨g, cap, cur, rfl, hB, hgg, rest⟩
  · exact .inl hn
  · refine .inr ⟨g, cap, cur, rfl, hB, ?_, rest⟩
    rw [hb.block g (Array.getElem?_eq_some_iff.1 hgg).1]
    exact hgg
end Go.Proofs.Ytohimbdmhljocaa

/- Lists that are made shorter: the specification, what goes again. -/
namespace Go.Proofs.Ytohimbdmhljocaa
open Go.RowKit

/-! append of a whole list. -/
theorem OpsAt.cells {w : World} {L U b off n : Nat} {ops : List LOp} (H : OpsAt w L U (some ⟨b, off, none⟩) n ops) : ∀ j u, (opCells ops)[j]? = some u → w.cell? ((⟨b, off, none⟩ : Addr).add j) = some u := by
  intro j u hu
  have hadd : (⟨b, off, none⟩ : Addr).add j = ⟨b, off + j, none⟩ := by unfold Addr.add; split <;> simp_all
  rw [hadd]
  have hj := (List.getElem?_eq_some_iff.1 hu).1
  rw [opCells_len] at hj
  have hl := H.len
  obtain ⟨b', off', ha, _, _, hc⟩ := H.at_ (by omega)
  simp only [Option.some.injEq, Addr.mk.injEq, and_true] at ha
  obtain ⟨rfl, rfl⟩ := ha
  obtain ⟨o, ho, _, hat⟩ := hc (j / 7) (by omega)
  have hv : ∀ t v, t < 7 → j = j / 7 * 7 + t → o.val[t]? = some v → u = v := fun t v ht e hv => by
    have := opCells_at ops (j / 7) o ho t v hv
    rw [← e, hu] at this
    exact Option.some.inj this
  have e7 : j = j / 7 * 7 + j % 7 := by omega
  have hm : j % 7 < 7 := Nat.mod_lt _ (by omega)
  generalize j % 7 = t at e7 hm
  match t, hm with
  | 0, _ => rw [hv 0 _ (by omega) e7 (by simp [LOp.val]; rfl), e7, ← Nat.add_assoc]; exact hat.c0
  | 1, _ => rw [hv 1 _ (by omega) e7 (by simp [LOp.val]; rfl), e7, ← Nat.add_assoc]; exact hat.c1
  | 2, _ => rw [hv 2 _ (by omega) e7 (by simp [LOp.val]; rfl), e7, ← Nat.add_assoc]; exact hat.c2
  | 3, _ => rw [hv 3 _ (by omega) e7 (by simp [LOp.val]; rfl), e7, ← Nat.add_assoc]; exact hat.c3
  | 4, _ => rw [hv 4 _ (by omega) e7 (by simp [LOp.val]; rfl), e7, ← Nat.add_assoc]; exact hat.c4
  | 5, _ => rw [hv 5 _ (by omega) e7 (by simp [LOp.val]; rfl), e7, ← Nat.add_assoc]; exact hat.c5
  | 6, _ => rw [hv 6 _ (by omega) e7 (by simp [LOp.val]; rfl), e7, ← Nat.add_assoc]; exact hat.c6
end Go.Proofs.Ytohimbdmhljocaa

/- Lists that are made shorter: the specification, what is moved on. -/
namespace Go.Proofs.Ytohimbdmhljocaa
open Go.RowKit

theorem OwnOps.none_ {W : World} {B q : Nat} (hB : B ≤ W.heap.size) (hq : q = W.heap.size) : OwnOps (W.alloc (Obj.cells #[] 151)) B (.slice (some ⟨q, 0, none⟩) 0 0) [] := by
  subst hq
  exact OwnOps.empty W B hB
theorem OpsAt.none_ (w : World) (L U : Nat) (a : Option Addr) : OpsAt w L U a 0 [] := ⟨rfl, by simp [maxLen], fun h => absurd rfl h⟩
theorem OpsAt.grown {w w' : World} {L U : Nat} {a : Option Addr} {n : Nat} {ops : List LOp} {row : Option Nat} (H : OpsAt w L U a n ops) (hg : w.grownBy w' row) (hne : ∀ k, row = some k → k < L) (hU : U ≤ w.heap.size) : OpsAt w' L U a n ops :=
  ⟨H.len, H.bd, fun hn => by
    obtain ⟨b, off, ha, hL, hbU, hc⟩ := H.at_ hn
    refine ⟨b, off, ha, hL, hbU, fun i hi => ?_⟩
    obtain ⟨o, ho, hs, h0⟩ := hc i hi
    exact ⟨o, ho, hs, h0.of_block (hg.block b (by omega) (fun e => by have := hne b e.symm; omega))⟩⟩
theorem OwnOps.cut {w : World} {B g n cap k : Nat} {l : List LOp} (h : OwnOps w B (.slice (some ⟨g, 0, none⟩) n cap) l) (hn : n = l.length) (hk : k ≤ n) : OwnOps w B (.slice (some ⟨g, 0, none⟩) k cap) (l.take k) := by
  subst hn
  have hl : (l.take k).length = k := by simp; omega
  refine ⟨by rw [opCells_len], .inr ?_⟩
  rcases h.2 with ⟨h', _⟩ | ⟨g', cap', cur, h', hb, hg, hnc, hcm, hcs, htake⟩
  · simp at h'
  · simp only [Value.slice.injEq, Option.some.injEq, Addr.mk.injEq, and_true, true_and] at h'
    obtain ⟨rfl, rfl⟩ := h'
    refine ⟨g, cap, cur, by rw [hl], hb, hg, by omega, hcm, hcs, ?_⟩
    have e1 : opCells l = opCells (l.take k) ++ opCells (l.drop k) := by rw [← opCells_app, List.take_append_drop]
    have e2 : cur.toList.take (k * 7) = (cur.toList.take (l.length * 7)).take (k * 7) := by rw [List.take_take]; congr 1; omega
    rw [hl, e2, htake, e1, List.take_left' (by rw [opCells_len, hl])]
end Go.Proofs.Ytohimbdmhljocaa

/- Lists that are made shorter: the specification, what is moved on, again and again. -/
namespace Go.Proofs.Ytohimbdmhljocaa
open Go.RowKit

end Go.Proofs.Ytohimbdmhljocaa

/- Lists that are made shorter: the specification, whole. -/
namespace Go.Proofs.Ytohimbdmhljocaa
open Go.RowKit

theorem OwnOps.base {w : World} {B B' : Nat} {v : Value} {l : List LOp} (h : OwnOps w B v l) (hB : B' ≤ B) : OwnOps w B' v l :=
  ⟨h.1, by
    rcases h.2 with h | ⟨g, cap, cu, h1, h2, h3⟩
    · exact .inl h
    · exact .inr ⟨g, cap, cu, h1, by omega, h3⟩⟩
end Go.Proofs.Ytohimbdmhljocaa

/- Lists that are made shorter: the program: what is deleted. -/
namespace Go.Proofs.Ytohimbdmhljocaa
open Go.RowKit

end Go.Proofs.Ytohimbdmhljocaa

/- Lists that are made shorter: the program: texts. -/
namespace Go.Proofs.Ytohimbdmhljocaa
open Go.RowKit

end Go.Proofs.Ytohimbdmhljocaa

/- Lists that are made shorter: the program: what goes again. -/
namespace Go.Proofs.Ytohimbdmhljocaa
open Go.RowKit

end Go.Proofs.Ytohimbdmhljocaa

/- Lists that are made shorter: the program: what goes again is taken out. -/
namespace Go.Proofs.Ytohimbdmhljocaa
open Go.RowKit

end Go.Proofs.Ytohimbdmhljocaa

/- Lists that are made shorter: the program: what goes again, one at a time. -/
namespace Go.Proofs.Ytohimbdmhljocaa
open Go.RowKit

end Go.Proofs.Ytohimbdmhljocaa

/- Lists that are made shorter: the program: a rule again and again; pairs. -/
namespace Go.Proofs.Ytohimbdmhljocaa
open Go.RowKit

end Go.Proofs.Ytohimbdmhljocaa

/- Lists that are made shorter: the program: where something is then. -/
namespace Go.Proofs.Ytohimbdmhljocaa
open Go.RowKit

end Go.Proofs.Ytohimbdmhljocaa

/- Lists that are made shorter: the program: what moves on. -/
namespace Go.Proofs.Ytohimbdmhljocaa
open Go.RowKit

structure BoxAt (w : World) (q : Nat) (o : LOp) : Prop where
  c0 : w.cell? ⟨q, 0, none⟩ = some (.int .i64 o.kind)
  c1 : w.cell? ⟨q, 1, none⟩ = some (.int .i64 o.dir)
  c2 : w.cell? ⟨q, 2, none⟩ = some (.string o.name)
  c3 : w.cell? ⟨q, 3, none⟩ = some (.int .i64 o.dir2)
  c4 : w.cell? ⟨q, 4, none⟩ = some (.string o.name2)
  c5 : w.cell? ⟨q, 5, none⟩ = some (.int .i64 o.id)
  c6 : w.cell? ⟨q, 6, none⟩ = some (.string o.text)
theorem BoxAt.of {w w' : World} {q : Nat} {o : LOp} (h : BoxAt w q o) (e : w'.heap[q]? = w.heap[q]?) : BoxAt w' q o := by
  have hc : ∀ j, w'.cell? ⟨q, j, none⟩ = w.cell? ⟨q, j, none⟩ := fun j => World.cell?_of_block (w := w) e
  exact ⟨by rw [hc]; exact h.c0, by rw [hc]; exact h.c1, by rw [hc]; exact h.c2, by rw [hc]; exact h.c3, by rw [hc]; exact h.c4, by rw [hc]; exact h.c5, by rw [hc]; exact h.c6⟩
theorem BoxAt.new (w : World) (o : LOp) : BoxAt (w.alloc (.cells #[.int .i64 o.kind, .int .i64 o.dir, .string o.name, .int .i64 o.dir2, .string o.name2, .int .i64 o.id, .string o.text] 151)) w.heap.size o :=
  ⟨by simp [go_sem], by simp [go_sem], by simp [go_sem], by simp [go_sem], by simp [go_sem], by simp [go_sem], by simp [go_sem]⟩
def A0 (o : LOp) : Array Value := #[.int .i64 o.kind, .int .i64 o.dir, .string o.name, .int .i64 o.dir2, .string o.name2, .int .i64 o.id, .string o.text]

end Go.Proofs.Ytohimbdmhljocaa

/- Lists that are made shorter: the program: what moves on from where it was put. -/
namespace Go.Proofs.Ytohimbdmhljocaa
open Go.RowKit

/-- Taken first, the frame and the list of what came up written out. -/
theorem takeH {P : Program} {md : Region.Mode} {ops : Array Oper} {Q : Exit → Act → World → Prop} {S : World → Prop} {i : Nat} {oi : Oper} {v : Value} {fuel : Nat} {listed : Array Bool} {a : Act} {w : World} (d : Nat) (l2 : Array Bool) (hi : ops[i]? = some oi)
    (hs : Region.noSelect ops = true) (hf : Region.free md ops listed i = true) (hr : (Region.ready md ops listed).contains i = true)
    (hd : oi.dst = some d) (hl : listed.setIfInBounds i true = l2) (hQ : ∀ c a w, Q (.panic c) (a.put oi.dst v) w → Q (.panic c) a w) (hy : YieldsIf P ops S oi v a) (hS : S w)
    (h : wpAnyH P md ops Q S fuel l2 (a.put (some d) v) w) : wpAnyH P md ops Q S (fuel + 1) listed a w :=
  wpAnyH_take hi hs hf hr hQ hy hS (by rw [hl, hd]; exact h)
theorem listH {P : Program} {md : Region.Mode} {ops : Array Oper} {Q : Exit → Act → World → Prop} {S : World → Prop} {fuel : Nat} {listed l2 : Array Bool} {a : Act} {w : World} (hl : listed = l2) (h : wpAnyH P md ops Q S fuel l2 a w) : wpAnyH P md ops Q S fuel listed a w := by
  rw [hl]; exact h

end Go.Proofs.Ytohimbdmhljocaa

/- Lists that are made shorter: the program: what moves on, whole; lists with one put anew. -/
namespace Go.Proofs.Ytohimbdmhljocaa
open Go.RowKit

/-! A row of what is done, read and written. -/
/-! What is left when one goes, or both. -/
end Go.Proofs.Ytohimbdmhljocaa

/- Lists that are made shorter: the program: steps of a region that make and fill boxes. -/
namespace Go.Proofs.Ytohimbdmhljocaa
open Go.RowKit

def zrow (z : Array Value) (i : Nat) : Value := z[i]?.getD default
theorem zrow_new (W : World) (z : Array Value) (t : TypeId) : (W.alloc (.cells z t)).rowIs W.heap.size t z.size (zrow z) := World.rowIs_alloc W z t (zrow z) (fun i hi => by unfold zrow; rw [Array.getElem?_eq_getElem hi]; rfl)
section
variable {ops : Array Oper} {ac : Act} {K : Act → World → Prop} {Q : Exit → Act → World → Prop} {E : Prop} {ty : TypeId} {ps : String} {af : Array Edge}
end
end Go.Proofs.Ytohimbdmhljocaa
