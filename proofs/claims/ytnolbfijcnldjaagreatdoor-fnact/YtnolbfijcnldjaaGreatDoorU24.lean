/- Lemmas that the proofs of this seat share: MarkX, SlimX, ExactDoA, ExactDoB. -/
import Derived.Test.YtnolbfijcnldjaaGreatDoorU23
import Derived.Test.YtnolbfijcnldjaaGreatDoorU01
import Derived.Test.YtnolbfijcnldjaaGreatDoorU05
import Derived.Test.YtnolbfijcnldjaaGreatDoorU15
import Derived.Deep.RegionWith
import Derived.RowKitTokens
/- Copies of any tree can be written. -/
namespace Go.Proofs.YtnolbfijcnldjaaGreatDoor
open Go.RowKit

/-- All blocks from B on can be written. -/
def Unf (B : Nat) (w : World) : Prop := ∀ b o, B ≤ b → w.frozen? ⟨b, o, none⟩ = false
theorem Unf.start (w : World) : Unf w.heap.size w := fun b o hb => by
  unfold World.frozen?
  rw [Array.getElem?_eq_none (by simpa using hb)]
theorem Unf.set {B : Nat} {w : World} (h : Unf B w) (p : Addr) (v : Value) : Unf B (w.setCell p v) := fun b o hb => by rw [World.frozen?_setCell]; exact h b o hb
theorem Unf.alloc {B : Nat} {w : World} (h : Unf B w) (c : Array Value) (t : TypeId) : Unf B (w.alloc (.cells c t)) := fun b o hb => by
  by_cases e : b = w.heap.size
  · subst e; exact World.frozen?_alloc_at c t _ _ rfl
  · rw [World.frozen?_alloc_old _ _ _ (by simpa using e)]; exact h b o hb
theorem Unf.next {B : Nat} {w w1 : World} (h : Unf B w) (hb : Below w.heap.size w w1) (h1 : Unf w.heap.size w1) : Unf B w1 := fun b o hB => by
  by_cases e : b < w.heap.size
  · rw [hb.frozen (by simpa using e)]; exact h b o hB
  · exact h1 b o (by omega)

theorem toEnt_u (s : ByteArray) (i : Int) (w : World) :
    Calls Tryz.prog 203 #[.agg #[.string s, .int .i64 i]] w fun e w' => e = .returned (.agg #[.string s, .int .i64 i]) ∧ Below w.heap.size w w' ∧ Unf w.heap.size w' := by
  go_enter Tryz.func203, Tryz.ntmps203
  go_wp2
  exact bodyPost_ret (v := .agg #[.string s, .int .i64 i]) (by simp [results, Tryz.results203, go_sem]) rfl ⟨rfl, by
    repeat (first | exact Below.refl _ _ | refine Below.setCell ?_ (by simp <;> omega) _ | refine Below.alloc ?_ (by simp <;> omega) _), by
    repeat (first | exact Unf.start _ | refine Unf.set ?_ _ _ | refine Unf.alloc ?_ _ _)⟩

set_option maxHeartbeats 400000 in
theorem toEntS_u (a : Option Addr) (n c : Nat) (es : List LEnt) (L U : Nat) (w : World) (hn : n ≤ 1048576) (hU : U ≤ w.heap.size) (H : EntsAt w L U a n es) :
    Calls Tryz.prog 195 #[.slice a n c] w fun e w' => (∃ b, e = .returned (.slice (some ⟨b, 0, none⟩) n n) ∧ EntsAt w' w.heap.size w'.heap.size (some ⟨b, 0, none⟩) n es) ∧ Below w.heap.size w w' ∧ Unf w.heap.size w' := by
  have hmk := run_make_many 36 53 _ 2 24 Tryz.underlying36 info47 n (by omega) (by omega)
  obtain ⟨f0, hf0⟩ := rowIs_many w #[.string ByteArray.empty, .int .i64 0] (n * 2) 53
  have HF0 : Hid ((w.alloc (.cells (madeCells #[.string ByteArray.empty, .int .i64 0] (n * 2)) 53)).rowIs w.heap.size 53 (n * 2) f0) := hf0
  clear hf0
  go_enter Tryz.func195, Tryz.ntmps195
  go_wp2
  go_loopg [4] n (fun k i wr => ∃ j : Nat, j ≤ n ∧ Hid (k = n - j) ∧ i = .int .i64 j ∧ (∃ f, Hid (wr.rowIs w.heap.size 53 (n * 2) f ∧ ∀ i, i < j → ∃ e, es[i]? = some e ∧ f (i * 2) = .string e.name ∧ f (i * 2 + 1) = .int .i64 e.id)) ∧ Below w.heap.size w wr ∧ Unf w.heap.size wr)
  case atStart => exact ⟨0, Nat.zero_le _, by show _ = _; omega, rfl, ⟨f0, HF0.out, fun i hi => by omega⟩, (Below.refl _ _).alloc (Nat.le_refl _) _, (Unf.start w).alloc _ _⟩
  case round =>
    obtain ⟨j, hj, hk, rfl, ⟨f, hf⟩, hb, hu⟩ := hrel
    by_cases hlt : j < n
    · obtain ⟨b, off, ha, hL, hbU, hc⟩ := H.at_ (by omega)
      subst ha
      obtain ⟨e, he, hsz, hc0, hc1⟩ := hc j hlt
      rw [← hb.cell (by simp; omega)] at hc0 hc1
      have HE : Hid (es[j]? = some e) := he
      clear he hc
      go_wp2_with fail
      refine (toEnt_u _ _ _).mono ?_
      rintro x w1 ⟨rfl, hb1, hu1⟩
      have hrow := hf.out.1.of_block (hb1.block w.heap.size hf.out.1.lt)
      have g0 := hrow.cell (i := j * 2) (by omega)
      have g1 := hrow.cell (i := j * 2 + 1) (by omega)
      have z0 := hrow.frozen (j * 2)
      have z1 := hrow.frozen (j * 2 + 1)
      have HR : Hid (w1.rowIs w.heap.size 53 (n * 2) f) := hrow
      clear hrow
      go_wp2_with fail
      go_roundg (n - (j + 1))
      case measure => have := hk.out; omega
      case rel =>
        refine ⟨j + 1, by omega, rfl, by go_num, ⟨_, (HR.out.set (j * 2) (.string e.name)).set (j * 2 + 1) (.int .i64 e.id), fun i hi => ?_⟩, ((hb.trans (hb1.mono hb.size)).setCell (by simp) _).setCell (by simp) _, ((hu.next hb1 hu1).set _ _).set _ _⟩
        by_cases hij : i = j
        · subst hij
          exact ⟨e, HE.out, by simp, by simp⟩
        · obtain ⟨e', he', q0, q1⟩ := hf.out.2 i (by omega)
          refine ⟨e', he', ?_, ?_⟩
          · show (if i * 2 = j * 2 + 1 then _ else if i * 2 = j * 2 then _ else f (i * 2)) = _
            rw [if_neg (by omega), if_neg (by omega)]; exact q0
          · show (if i * 2 + 1 = j * 2 + 1 then _ else if i * 2 + 1 = j * 2 then _ else f (i * 2 + 1)) = _
            rw [if_neg (by omega), if_neg (by omega)]; exact q1
    · go_wp2_with fail
      go_ret
      refine ⟨⟨w.heap.size, rfl, H.len, H.bd, fun hn0 => ⟨w.heap.size, 0, rfl, Nat.le_refl _, hf.out.1.lt, fun i hi => ?_⟩⟩, hb, hu⟩
      obtain ⟨e', he', q0, q1⟩ := hf.out.2 i (by omega)
      obtain ⟨b, off, ha, hL, hbU, hc⟩ := H.at_ hn0
      obtain ⟨e2, he2, hsz, _, _⟩ := hc i hi
      rw [he'] at he2
      cases he2
      exact ⟨e', he', hsz, by rw [← q0, Nat.zero_add]; exact hf.out.1.cell (by omega), by rw [← q1, Nat.zero_add]; exact hf.out.1.cell (by omega)⟩

set_option maxHeartbeats 400000 in
theorem toObj_u (k v : Int) (s : ByteArray) (a : Option Addr) (n c : Nat) (es : List LEnt) (L U : Nat) (w : World) (hn : n ≤ 1048576) (hU : U ≤ w.heap.size) (H : EntsAt w L U a n es) :
    Calls Tryz.prog 161 #[.agg #[.int .i64 k, .int .i64 v, .string s, .slice a n c]] w fun e w' => (∃ b, e = .returned (.agg #[.int .i64 k, .int .i64 v, .string s, .slice (some ⟨b, 0, none⟩) n n]) ∧ EntsAt w' w.heap.size w'.heap.size (some ⟨b, 0, none⟩) n es) ∧ Below w.heap.size w w' ∧ Unf w.heap.size w' := by
  go_enter Tryz.func161, Tryz.ntmps161
  go_wp2_with fail
  refine (toEntS_u _ _ _ _ L U _ hn (by simp; omega) (H.below ((((Below.refl _ _).alloc (Nat.le_refl _) _).alloc (by simp) _).alloc (by simp; omega) _) hU)).mono ?_
  rintro x w1 ⟨⟨b, rfl, hk⟩, hb, hu1⟩
  obtain ⟨hc, hf⟩ := bcell hb
  have hz : w.heap.size + 3 ≤ w1.heap.size := by have := hb.size; simp at this; omega
  have hb0 : Below w.heap.size w w1 := ((((Below.refl _ _).alloc (Nat.le_refl _) _).alloc (by simp) _).alloc (by simp; omega) _).trans (hb.mono (by simp; omega))
  go_wp2_with fail
  refine bodyPost_ret (v := .agg #[.int .i64 k, .int .i64 v, .string s, .slice (some ⟨b, 0, none⟩) n n]) (by simp [results, Tryz.results161, go_sem, hc]) rfl ⟨⟨b, rfl, ?_⟩, ?_, ?_⟩
  · refine EntsAt.wide (L := w.heap.size + 3) (U := w1.heap.size) ?_ (by omega) (by simp)
    have hk' : EntsAt w1 (w.heap.size + 3) w1.heap.size (some ⟨b, 0, none⟩) n es := hk.wide (by simp) (Nat.le_refl _)
    repeat (first | exact hk' | refine EntsAt.setCell ?_ _ _ (by simp <;> omega))
  · repeat (first | exact hb0 | refine Below.setCell ?_ (by simp <;> omega) _)
  · have hu0 : Unf w.heap.size w1 := ((((Unf.start w).alloc _ _).alloc _ _).alloc _ _).next hb hu1
    repeat (first | refine Unf.set ?_ _ _ | exact hu0)

set_option maxHeartbeats 800000 in
theorem toObjS_u (a : Option Addr) (n c : Nat) (os : List LObj) (L U : Nat) (w : World) (hn : n ≤ 1048576) (hS : Sizes os 1048576) (hU : U ≤ w.heap.size) (H : ObjsAt w L U a n os) :
    Calls Tryz.prog 107 #[.slice a n c] w fun e w' => (∃ b, e = .returned (.slice (some ⟨b, 0, none⟩) n n) ∧ ObjsAt w' w.heap.size w'.heap.size (some ⟨b, 0, none⟩) n os) ∧ Below w.heap.size w w' ∧ Unf w.heap.size w' := by
  have hmk := run_make_many 23 38 _ 4 56 Tryz.underlying23 info34 n (by omega) (by omega)
  obtain ⟨f0, hf0⟩ := rowIs_many w #[.int .i64 0, .int .i64 0, .string ByteArray.empty, .slice none 0 0] (n * 4) 38
  have HF0 : Hid ((w.alloc (.cells (madeCells #[.int .i64 0, .int .i64 0, .string ByteArray.empty, .slice none 0 0] (n * 4)) 38)).rowIs w.heap.size 38 (n * 4) f0) := hf0
  clear hf0
  go_enter Tryz.func107, Tryz.ntmps107
  go_wp2
  go_loopg [4] n (fun k i wr => ∃ j : Nat, j ≤ n ∧ Hid (k = n - j) ∧ i = .int .i64 j ∧ (∃ f, Hid (wr.rowIs w.heap.size 38 (n * 4) f ∧ ∀ i, i < j → ∃ o ka kn kc, os[i]? = some o ∧ f (i * 4) = .int .i64 o.kind ∧ f (i * 4 + 1) = .int .i64 o.ver ∧ f (i * 4 + 2) = .string o.text ∧ f (i * 4 + 3) = .slice ka kn kc ∧ EntsAt wr (w.heap.size + 1) wr.heap.size ka kn o.kids)) ∧ Below w.heap.size w wr ∧ Unf w.heap.size wr)
  case atStart => exact ⟨0, Nat.zero_le _, by show _ = _; omega, rfl, ⟨f0, HF0.out, fun i hi => by omega⟩, (Below.refl _ _).alloc (Nat.le_refl _) _, (Unf.start w).alloc _ _⟩
  case round =>
    obtain ⟨j, hj, hk, rfl, ⟨f, hf⟩, hb, hu⟩ := hrel
    by_cases hlt : j < n
    · obtain ⟨b, off, ha, hL, hbU, hc⟩ := H.at_ (by omega)
      subst ha
      obtain ⟨o, ka, kn, kc, he, hsz, hc0, hc1, hc2, hc3, hks⟩ := hc j hlt
      have hkn : kn ≤ 1048576 := by rw [hks.len]; exact hS o (List.mem_of_getElem? he)
      rw [← hb.cell (by simp; omega)] at hc0 hc1 hc2 hc3
      have HE : Hid (os[j]? = some o) := he
      clear he hc
      have hrl := hf.out.1.lt
      go_wp2_with fail
      refine (toObj_u _ _ _ _ _ _ _ L U _ hkn (by have := hb.size; omega) (hks.below hb hU)).mono ?_
      rintro x w1 ⟨⟨kb, rfl, hke⟩, hb1, hu1⟩
      have hrow := hf.out.1.of_block (hb1.block w.heap.size hf.out.1.lt)
      have g0 := hrow.cell (i := j * 4) (by omega)
      have g1 := hrow.cell (i := j * 4 + 1) (by omega)
      have g2 := hrow.cell (i := j * 4 + 2) (by omega)
      have g3 := hrow.cell (i := j * 4 + 3) (by omega)
      have z0 := hrow.frozen (j * 4)
      have z1 := hrow.frozen (j * 4 + 1)
      have z2 := hrow.frozen (j * 4 + 2)
      have z3 := hrow.frozen (j * 4 + 3)
      have HR : Hid (w1.rowIs w.heap.size 38 (n * 4) f) := hrow
      clear hrow
      go_wp2_with fail
      go_roundg (n - (j + 1))
      case measure => have := hk.out; omega
      case rel =>
        have hbs := hb1.size
        refine ⟨j + 1, by omega, rfl, by go_num, ⟨_, (((HR.out.set (j * 4) (.int .i64 o.kind)).set (j * 4 + 1) (.int .i64 o.ver)).set (j * 4 + 2) (.string o.text)).set (j * 4 + 3) (.slice (some ⟨kb, 0, none⟩) kn kn), fun i hi => ?_⟩, ((((hb.trans (hb1.mono hb.size)).setCell (by simp) _).setCell (by simp) _).setCell (by simp) _).setCell (by simp) _, ((((hu.next hb1 hu1).set _ _).set _ _).set _ _).set _ _⟩
        by_cases hij : i = j
        · subst hij
          refine ⟨o, _, _, _, HE.out, by simp, by simp, by simp, by simp; exact ⟨rfl, rfl, rfl⟩, ?_⟩
          refine EntsAt.wide (L := wr.heap.size) (U := w1.heap.size) ?_ (by omega) (by simp)
          repeat (first | exact hke | refine EntsAt.setCell ?_ _ _ (by simp <;> omega))
        · obtain ⟨o', ka', kn', kc', he', q0, q1, q2, q3, qk⟩ := hf.out.2 i (by omega)
          refine ⟨o', ka', kn', kc', he', ?_, ?_, ?_, ?_, ?_⟩
          · rw [if_neg (by omega), if_neg (by omega), if_neg (by omega), if_neg (by omega)]; exact q0
          · rw [if_neg (by omega), if_neg (by omega), if_neg (by omega), if_neg (by omega)]; exact q1
          · rw [if_neg (by omega), if_neg (by omega), if_neg (by omega), if_neg (by omega)]; exact q2
          · rw [if_neg (by omega), if_neg (by omega), if_neg (by omega), if_neg (by omega)]; exact q3
          · refine EntsAt.wide (L := w.heap.size + 1) (U := wr.heap.size) ?_ (by omega) (by simp; omega)
            have qk' := qk.below hb1 (Nat.le_refl _)
            repeat (first | exact qk' | refine EntsAt.setCell ?_ _ _ (by simp))
    · go_wp2_with fail
      go_ret
      refine ⟨⟨w.heap.size, rfl, H.len, H.bd, fun hn0 => ⟨w.heap.size, 0, rfl, Nat.le_refl _, hf.out.1.lt, fun i hi => ?_⟩⟩, hb, hu⟩
      obtain ⟨o', ka', kn', kc', he', q0, q1, q2, q3, qk⟩ := hf.out.2 i (by omega)
      obtain ⟨b, off, ha, hL, hbU, hc⟩ := H.at_ hn0
      obtain ⟨o2, _, _, _, he2, hsz, _⟩ := hc i hi
      rw [he'] at he2
      cases he2
      refine ⟨o', ka', kn', kc', he', hsz, ?_, ?_, ?_, ?_, qk.wide (by omega) (Nat.le_refl _)⟩
      · rw [← q0, Nat.zero_add]; exact hf.out.1.cell (by omega)
      · rw [← q1, Nat.zero_add]; exact hf.out.1.cell (by omega)
      · rw [← q2, Nat.zero_add]; exact hf.out.1.cell (by omega)
      · rw [← q3, Nat.zero_add]; exact hf.out.1.cell (by omega)

set_option maxHeartbeats 400000 in
theorem toTree_u (a : Option Addr) (n c : Nat) (os : List LObj) (L U : Nat) (w : World) (hn : n ≤ 1048576) (hS : Sizes os 1048576) (hU : U ≤ w.heap.size) (H : ObjsAt w L U a n os) :
    Calls Tryz.prog 49 #[.agg #[.slice a n c]] w fun e w' => (∃ b, e = .returned (.agg #[.slice (some ⟨b, 0, none⟩) n n]) ∧ ObjsAt w' w.heap.size w'.heap.size (some ⟨b, 0, none⟩) n os) ∧ Below w.heap.size w w' ∧ Unf w.heap.size w' := by
  go_enter Tryz.func49, Tryz.ntmps49
  go_wp2_with fail
  refine (toObjS_u _ _ _ _ L U _ hn hS (by simp; omega) (H.below ((((Below.refl _ _).alloc (Nat.le_refl _) _).alloc (by simp) _).alloc (by simp; omega) _) hU)).mono ?_
  rintro x w1 ⟨⟨b, rfl, hk⟩, hb, hu1⟩
  obtain ⟨hc, hf⟩ := bcell hb
  have hz : w.heap.size + 3 ≤ w1.heap.size := by have := hb.size; simp at this; omega
  have hb0 : Below w.heap.size w w1 := ((((Below.refl _ _).alloc (Nat.le_refl _) _).alloc (by simp) _).alloc (by simp; omega) _).trans (hb.mono (by simp; omega))
  go_wp2_with fail
  refine bodyPost_ret (v := .agg #[.slice (some ⟨b, 0, none⟩) n n]) (by simp [results, Tryz.results49, go_sem, hc]) rfl ⟨⟨b, rfl, ?_⟩, ?_, ?_⟩
  · refine ObjsAt.wide (L := w.heap.size + 3) (U := w1.heap.size) ?_ (by omega) (by simp)
    have hk' : ObjsAt w1 (w.heap.size + 3) w1.heap.size (some ⟨b, 0, none⟩) n os := hk.wide (by simp) (Nat.le_refl _)
    repeat (first | exact hk' | refine ObjsAt.setCell ?_ _ _ (by simp <;> omega))
  · repeat (first | exact hb0 | refine Below.setCell ?_ (by simp <;> omega) _)
  · have hu0 : Unf w.heap.size w1 := ((((Unf.start w).alloc _ _).alloc _ _).alloc _ _).next hb hu1
    repeat (first | refine Unf.set ?_ _ _ | exact hu0)

/-- What was copied can be marked. -/
theorem ObjsAt.typed {w : World} {L U : Nat} {a : Option Addr} {n : Nat} {os : List LObj} (h : ObjsAt w L U a n os) (hU : U ≤ w.heap.size) (hu : Unf L w) : TypedO w L U a n os := fun hn => by
  obtain ⟨b, off, ha, hL, hbU, hc⟩ := h.at_ hn
  refine ⟨b, off, ha, hL, hbU, by omega, fun o => hu b o hL, fun i hi => ?_⟩
  obtain ⟨o, ka, kn, kc, he, _, h0, h1, h2, h3, hk⟩ := hc i hi
  obtain rfl : kn = o.kids.length := hk.len
  refine ⟨⟨_, h0⟩, ⟨_, h1⟩, ⟨_, h2⟩, o, ka, kc, he, h3, fun hk0 => ?_⟩
  obtain ⟨kb, koff, hka, hkL, hkU, hkc⟩ := hk.at_ hk0
  refine ⟨kb, koff, hka, hkL, hkU, by omega, fun o => hu kb o hkL, fun t ht => ?_⟩
  obtain ⟨e, _, _, g0, g1⟩ := hkc t ht
  exact ⟨⟨_, g0⟩, _, g1⟩
end Go.Proofs.YtnolbfijcnldjaaGreatDoor

/- Lists of what is done as answers: what the exact laws ask. -/
namespace Go.Proofs.YtnolbfijcnldjaaGreatDoor
open Go.RowKit

theorem OpsAt.but {w w' : World} {L U b : Nat} {a : Option Addr} {n : Nat} {ops : List LOp} (H : OpsAt w L U a n ops) (hb : But b w w') (hU : U ≤ w.heap.size) (hne : b < L ∨ U ≤ b) : OpsAt w' L U a n ops :=
  ⟨H.len, H.bd, fun hn => by
    obtain ⟨g, off, ha, hL, hbU, hc⟩ := H.at_ hn
    refine ⟨g, off, ha, hL, hbU, fun i hi => ?_⟩
    obtain ⟨o, ho, hs, h0⟩ := hc i hi
    exact ⟨o, ho, hs, h0.of_block (hb.block g (by omega) (by omega))⟩⟩
theorem OwnOps.but {w w' : World} {B b : Nat} {v : Value} {l : List LOp} (h : OwnOps w B v l) (hb : But b w w') (hlt : b < B) : OwnOps w' B v l := by
  refine ⟨h.1, ?_⟩
  rcases h.2 with hn | ⟨g, cap, cur, rfl, hB, hgg, rest⟩
  · exact .inl hn
  · refine .inr ⟨g, cap, cur, rfl, hB, ?_, rest⟩
    rw [hb.block g (by omega) (Array.getElem?_eq_some_iff.1 hgg).1]
    exact hgg
theorem OpRow.next {w w' : World} {B : Nat} {a : Option Addr} {n g cap : Nat} {f : Nat → Value} (h : OpRow w B a n g cap f) (hb : Below w.heap.size w w') : OpRow w' B a n g cap f := fun hn => by
  obtain ⟨h1, h2, h3, h4⟩ := h hn
  exact ⟨h1, h2, h3, h4.of_block (hb.block g h4.lt)⟩
theorem But.under {B b : Nat} {w0 w w' : World} (h : Below B w0 w) (hb : But b w w') (hB : B ≤ b) : Below B w0 w' := h.trans (hb.below.mono hB)

set_option maxHeartbeats 1000000 in
theorem toOpS_row (a : Option Addr) (n c : Nat) (ops : List LOp) (L U : Nat) (w : World) (hn : n ≤ 1048576) (hU : U ≤ w.heap.size) (H : OpsAt w L U a n ops) :
    Calls Tryz.prog 55 #[.slice a n c] w fun e w' => (∃ b f, e = .returned (.slice (some ⟨b, 0, none⟩) n n) ∧ w.heap.size ≤ b ∧ b < w'.heap.size ∧ w'.rowIs b 27 (n * 7) f ∧ (∀ i, i < n → OpCell f i) ∧ OpsAt w' w.heap.size w'.heap.size (some ⟨b, 0, none⟩) n ops) ∧ Below w.heap.size w w' := by
  have hmk := run_make_many 43 27 _ 7 80 Tryz.underlying43 info65 n (by omega) (by omega)
  obtain ⟨f0, hf0⟩ := rowIs_many w #[.int .i64 0, .int .i64 0, .string ByteArray.empty, .int .i64 0, .string ByteArray.empty, .int .i64 0, .string ByteArray.empty] (n * 7) 27
  have HF0 : Hid ((w.alloc (.cells (madeCells #[.int .i64 0, .int .i64 0, .string ByteArray.empty, .int .i64 0, .string ByteArray.empty, .int .i64 0, .string ByteArray.empty] (n * 7)) 27)).rowIs w.heap.size 27 (n * 7) f0) := hf0
  clear hf0
  go_enter Tryz.func55, Tryz.ntmps55
  go_wp2
  go_loopg [4] n (fun k i wr => ∃ j : Nat, j ≤ n ∧ Hid (k = n - j) ∧ i = .int .i64 j ∧ (∃ f, Hid (wr.rowIs w.heap.size 27 (n * 7) f ∧ ∀ i, i < j → ∃ o, ops[i]? = some o ∧ opF f i o)) ∧ Below w.heap.size w wr)
  case atStart => exact ⟨0, Nat.zero_le _, by show _ = _; omega, rfl, ⟨f0, HF0.out, fun i hi => by omega⟩, (Below.refl _ _).alloc (Nat.le_refl _) _⟩
  case round =>
    obtain ⟨j, hj, hk, rfl, ⟨f, hf⟩, hb⟩ := hrel
    by_cases hlt : j < n
    · obtain ⟨b, off, ha, hL, hbU, hc⟩ := H.at_ (by omega)
      subst ha
      obtain ⟨o, he, hsz, hat⟩ := hc j hlt
      obtain ⟨d0, d1, d2, d3, d4, d5, d6⟩ := hat.of_block (hb.block b (by omega))
      have HE : Hid (ops[j]? = some o) := he
      have HTO := toOp_any o
      simp only [LOp.val] at HTO
      have hlt' : (j : Int) < (n : Int) := by omega
      have hrl := hf.out.1.lt
      clear he hc hat
      go_wp2_with fail
      refine (HTO _).mono ?_
      rintro x w1 ⟨rfl, hb1⟩
      have hrow := hf.out.1.of_block (hb1.block w.heap.size hf.out.1.lt)
      have g0 := hrow.cell (i := j * 7) (by omega)
      have g1 := hrow.cell (i := j * 7 + 1) (by omega)
      have g2 := hrow.cell (i := j * 7 + 2) (by omega)
      have g3 := hrow.cell (i := j * 7 + 3) (by omega)
      have g4 := hrow.cell (i := j * 7 + 4) (by omega)
      have g5 := hrow.cell (i := j * 7 + 5) (by omega)
      have g6 := hrow.cell (i := j * 7 + 6) (by omega)
      have z0 := hrow.frozen (j * 7)
      have z1 := hrow.frozen (j * 7 + 1)
      have z2 := hrow.frozen (j * 7 + 2)
      have z3 := hrow.frozen (j * 7 + 3)
      have z4 := hrow.frozen (j * 7 + 4)
      have z5 := hrow.frozen (j * 7 + 5)
      have z6 := hrow.frozen (j * 7 + 6)
      have HR : Hid (w1.rowIs w.heap.size 27 (n * 7) f) := hrow
      clear hrow HTO d0 d1 d2 d3 d4 d5 d6
      go_wp2_with fail
      go_roundg (n - (j + 1))
      case measure => have := hk.out; omega
      case rel =>
        have hbs := hb1.size
        refine ⟨j + 1, by omega, rfl, by go_num, ⟨_, (((((((HR.out.set (j * 7) (.int .i64 o.kind)).set (j * 7 + 1) (.int .i64 o.dir)).set (j * 7 + 2) (.string o.name)).set (j * 7 + 3) (.int .i64 o.dir2)).set (j * 7 + 4) (.string o.name2)).set (j * 7 + 5) (.int .i64 o.id)).set (j * 7 + 6) (.string o.text)), fun i hi => ?_⟩, ((((((((hb.trans (hb1.mono hb.size)).setCell (by simp) _).setCell (by simp) _).setCell (by simp) _).setCell (by simp) _).setCell (by simp) _).setCell (by simp) _).setCell (by simp) _)⟩
        by_cases hij : i = j
        · subst hij
          exact ⟨o, HE.out, by simp, by simp, by simp, by simp, by simp, by simp, by simp⟩
        · obtain ⟨o', he', q0, q1, q2, q3, q4, q5, q6⟩ := hf.out.2 i (by omega)
          refine ⟨o', he', ?_, ?_, ?_, ?_, ?_, ?_, ?_⟩ <;> dsimp only <;> rw [if_neg (by omega), if_neg (by omega), if_neg (by omega), if_neg (by omega), if_neg (by omega), if_neg (by omega), if_neg (by omega)] <;> assumption
    · go_wp2_with fail
      go_ret
      refine ⟨⟨w.heap.size, f, rfl, Nat.le_refl _, hf.out.1.lt, hf.out.1, fun i hi => (by obtain ⟨o', _, h⟩ := hf.out.2 i (by omega); exact ⟨o', h⟩), H.len, H.bd, fun hn0 => ⟨w.heap.size, 0, rfl, Nat.le_refl _, hf.out.1.lt, fun i hi => ?_⟩⟩, hb⟩
      obtain ⟨o', he', q0, q1, q2, q3, q4, q5, q6⟩ := hf.out.2 i (by omega)
      obtain ⟨b, off, ha, hL, hbU, hc⟩ := H.at_ hn0
      obtain ⟨o2, he2, hsz, _⟩ := hc i hi
      rw [he'] at he2
      cases he2
      refine ⟨o', he', hsz, by rw [← q0, Nat.zero_add]; exact hf.out.1.cell (by omega), by rw [← q1, Nat.zero_add]; exact hf.out.1.cell (by omega), by rw [← q2, Nat.zero_add]; exact hf.out.1.cell (by omega), by rw [← q3, Nat.zero_add]; exact hf.out.1.cell (by omega), by rw [← q4, Nat.zero_add]; exact hf.out.1.cell (by omega), by rw [← q5, Nat.zero_add]; exact hf.out.1.cell (by omega), by rw [← q6, Nat.zero_add]; exact hf.out.1.cell (by omega)⟩


end Go.Proofs.YtnolbfijcnldjaaGreatDoor

/- The law of ActDo: what stands in its boxes. -/
namespace Go.Proofs.YtnolbfijcnldjaaGreatDoor
open Go.RowKit

/-- The arguments' boxes. -/
structure AB (w W : World) (ta : Option Addr) (tn tc : Nat) (o : LOp) : Prop where
  below : Below w.heap.size w W
  t : W.cell? ⟨w.heap.size, 0, none⟩ = some (.slice ta tn tc)
  k0 : W.cell? ⟨w.heap.size + 1, 0, none⟩ = some (.int .i64 o.kind)
  k1 : W.cell? ⟨w.heap.size + 1, 1, none⟩ = some (.int .i64 o.dir)
  k2 : W.cell? ⟨w.heap.size + 1, 2, none⟩ = some (.string o.name)
  k3 : W.cell? ⟨w.heap.size + 1, 3, none⟩ = some (.int .i64 o.dir2)
  k4 : W.cell? ⟨w.heap.size + 1, 4, none⟩ = some (.string o.name2)
  k5 : W.cell? ⟨w.heap.size + 1, 5, none⟩ = some (.int .i64 o.id)
  k6 : W.cell? ⟨w.heap.size + 1, 6, none⟩ = some (.string o.text)
  sz : w.heap.size + 1 < W.heap.size
theorem AB.of {w W W' : World} {ta : Option Addr} {tn tc : Nat} {o : LOp} (h : AB w W ta tn tc o) (hb : Below w.heap.size w W') (h0 : W'.heap[w.heap.size]? = W.heap[w.heap.size]?) (h1 : W'.heap[w.heap.size + 1]? = W.heap[w.heap.size + 1]?) (hs : w.heap.size + 1 < W'.heap.size) : AB w W' ta tn tc o := by
  have c0 : ∀ j, W'.cell? ⟨w.heap.size, j, none⟩ = W.cell? ⟨w.heap.size, j, none⟩ := fun j => World.cell?_of_block (w := W) h0
  have c1 : ∀ j, W'.cell? ⟨w.heap.size + 1, j, none⟩ = W.cell? ⟨w.heap.size + 1, j, none⟩ := fun j => World.cell?_of_block (w := W) h1
  exact ⟨hb, by rw [c0]; exact h.t, by rw [c1]; exact h.k0, by rw [c1]; exact h.k1, by rw [c1]; exact h.k2, by rw [c1]; exact h.k3, by rw [c1]; exact h.k4, by rw [c1]; exact h.k5, by rw [c1]; exact h.k6, hs⟩
theorem AB.under {w W W' : World} {ta : Option Addr} {tn tc B : Nat} {o : LOp} (h : AB w W ta tn tc o) (hb : Below B W W') (hB : w.heap.size + 1 < B) : AB w W' ta tn tc o :=
  h.of (h.below.trans (hb.mono (by omega))) (hb.block _ (by omega)) (hb.block _ hB) (by have := hb.size; have := h.sz; omega)
theorem AB.next {w W W' : World} {ta : Option Addr} {tn tc : Nat} {o : LOp} (h : AB w W ta tn tc o) (hb : Below W.heap.size W W') : AB w W' ta tn tc o := h.under hb h.sz
theorem AB.but {w W W' : World} {ta : Option Addr} {tn tc q : Nat} {o : LOp} (h : AB w W ta tn tc o) (hb : But q W W') (hq : w.heap.size + 1 < q) : AB w W' ta tn tc o := h.under hb.below hq
/-- A box with a tree that is read. -/
structure TB (W : World) (hi g : Nat) (x : Option Addr) (c : Nat) (l : List LObj) : Prop where
  box : W.cell? ⟨g, 0, none⟩ = some (.slice x l.length c)
  obj : ObjsAt W 0 hi x l.length l
  lt : g < hi
  le : hi ≤ W.heap.size
theorem TB.under {W W' : World} {hi g : Nat} {x : Option Addr} {c B : Nat} {l : List LObj} (h : TB W hi g x c l) (hb : Below B W W') (hB : hi ≤ B) : TB W' hi g x c l :=
  ⟨by rw [hb.cell (by have := h.lt; simp; omega)]; exact h.box, h.obj.below hb hB, h.lt, by have := hb.size; have := h.le; omega⟩
theorem TB.next {W W' : World} {hi g : Nat} {x : Option Addr} {c : Nat} {l : List LObj} (h : TB W hi g x c l) (hb : Below W.heap.size W W') : TB W' hi g x c l := h.under hb h.le
theorem DoAt.objs {w w' : World} {r : List LObj × Int} {e : Ending} (h : DoAt w r e w') : ∃ x c, e = .returned (.tuple #[.agg #[.slice x r.1.length c], .int .i64 r.2]) ∧ ObjsAt w' w.heap.size w'.heap.size x r.1.length r.1 ∧ Below w.heap.size w w' := by
  obtain ⟨⟨h0, rfl⟩ | ⟨b, c, vs, rfl, hO⟩, hb⟩ := h
  · exact ⟨none, 0, by rw [h0]; rfl, by rw [h0]; exact ⟨rfl, Nat.zero_le _, fun h => absurd rfl h⟩, hb⟩
  · exact ⟨_, c, rfl, hO.to_objs, hb⟩
theorem ObjsAt.but_ {w w' : World} {L U q : Nat} {a : Option Addr} {n : Nat} {os : List LObj} (h : ObjsAt w L U a n os) (hb : But q w w') (hq : U ≤ q) : ObjsAt w' L U a n os := h.below hb.below hq
theorem TypedE.under {w w' : World} {L U : Nat} {a : Option Addr} {n : Nat} (h : TypedE w L U a n) (hb : Below U w w') : TypedE w' L U a n := fun hn => by
  obtain ⟨b, off, h1, h2, h3, h4, h5, h6⟩ := h hn
  refine ⟨b, off, h1, h2, h3, by have := hb.size; omega, fun o => by rw [hb.frozen (by simpa using h3)]; exact h5 o, fun i hi => ?_⟩
  obtain ⟨⟨s, hs⟩, x, hx⟩ := h6 i hi
  exact ⟨⟨s, by rw [hb.cell (by simpa using h3)]; exact hs⟩, x, by rw [hb.cell (by simpa using h3)]; exact hx⟩
theorem TypedO.under {w w' : World} {L U : Nat} {a : Option Addr} {n : Nat} {os : List LObj} (h : TypedO w L U a n os) (hb : Below U w w') : TypedO w' L U a n os := fun hn => by
  obtain ⟨b, off, h1, h2, h3, h4, h5, h6⟩ := h hn
  refine ⟨b, off, h1, h2, h3, by have := hb.size; omega, fun o => by rw [hb.frozen (by simpa using h3)]; exact h5 o, fun i hi => ?_⟩
  obtain ⟨⟨x, hx⟩, ⟨y, hy⟩, ⟨s, hs⟩, o, ka, kc, ho, hc, he⟩ := h6 i hi
  exact ⟨⟨x, by rw [hb.cell (by simpa using h3)]; exact hx⟩, ⟨y, by rw [hb.cell (by simpa using h3)]; exact hy⟩, ⟨s, by rw [hb.cell (by simpa using h3)]; exact hs⟩, o, ka, kc, ho, by rw [hb.cell (by simpa using h3)]; exact hc, he.under hb⟩
/-- A box with a tree that is handed in; its blocks lie from L on, the box behind them. -/
structure XB (W : World) (L U b n : Nat) (os : List LObj) : Prop where
  box : W.cell? ⟨U, 0, none⟩ = some (.slice (some ⟨b, 0, none⟩) n n)
  ty : TypedO W L U (some ⟨b, 0, none⟩) n os
  obj : ObjsAt W L U (some ⟨b, 0, none⟩) n os
  lt : U < W.heap.size
theorem XB.under {W W' : World} {L U b n B : Nat} {os : List LObj} (h : XB W L U b n os) (hb : Below B W W') (hB : U < B) : XB W' L U b n os :=
  ⟨by rw [hb.cell (by simpa using hB)]; exact h.box, h.ty.under (hb.mono (by omega)), h.obj.below hb (by omega), by have := hb.size; have := h.lt; omega⟩
/-- All that stands ahead of the call of the program. -/
structure CD (w W : World) (ta : Option Addr) (tn tc : Nat) (o : LOp) (hi g : Nat) (x : Option Addr) (c : Nat) (l : List LObj) (L U b : Nat) (os : List LObj) : Prop where
  ab : AB w W ta tn tc o
  tb : TB W hi g x c l
  xb : XB W L U b tn os
  n1 : w.heap.size + 1 < hi
  n2 : hi ≤ L
  n3 : L ≤ U
theorem CD.under {w W W' : World} {ta : Option Addr} {tn tc : Nat} {o : LOp} {hi g : Nat} {x : Option Addr} {c : Nat} {l : List LObj} {L U b B : Nat} {os : List LObj} (h : CD w W ta tn tc o hi g x c l L U b os) (hb : Below B W W') (hB : U < B) : CD w W' ta tn tc o hi g x c l L U b os :=
  ⟨h.ab.under hb (by have := h.n1; have := h.n2; have := h.n3; omega), h.tb.under hb (by have := h.n2; have := h.n3; omega), h.xb.under hb hB, h.n1, h.n2, h.n3⟩
theorem CD.next {w W W' : World} {ta : Option Addr} {tn tc : Nat} {o : LOp} {hi g : Nat} {x : Option Addr} {c : Nat} {l : List LObj} {L U b : Nat} {os : List LObj} (h : CD w W ta tn tc o hi g x c l L U b os) (hb : Below W.heap.size W W') : CD w W' ta tn tc o hi g x c l L U b os := h.under hb h.xb.lt
theorem CD.but {w W W' : World} {ta : Option Addr} {tn tc : Nat} {o : LOp} {hi g : Nat} {x : Option Addr} {c : Nat} {l : List LObj} {L U b q : Nat} {os : List LObj} (h : CD w W ta tn tc o hi g x c l L U b os) (hb : But q W W') (hq : U < q) : CD w W' ta tn tc o hi g x c l L U b os := h.under hb.below hq
/-- A tree of one's own, or none. -/
def AnsAt (W : World) (lo : Nat) (x : Option Addr) (c : Nat) (vs : Nat → Value) (l : List LObj) : Prop := (l = [] ∧ x = none ∧ c = 0) ∨ ∃ b, x = some ⟨b, 0, none⟩ ∧ OwnT W lo b c l vs
theorem AnsAt.next {W W' : World} {lo : Nat} {x : Option Addr} {c : Nat} {vs : Nat → Value} {l : List LObj} (h : AnsAt W lo x c vs l) (hb : Below W.heap.size W W') : AnsAt W' lo x c vs l := by
  rcases h with h | ⟨b, rfl, h⟩
  · exact .inl h
  · exact .inr ⟨b, rfl, h.below hb⟩
theorem AnsAt.setBox {W : World} {lo q : Nat} {x : Option Addr} {c : Nat} {vs : Nat → Value} {l : List LObj} (h : AnsAt W lo x c vs l) (hq : ∃ f, W.rowIs q 25 1 f) (v : Value) : AnsAt (W.setCell ⟨q, 0, none⟩ v) lo x c vs l := by
  rcases h with h | ⟨b, rfl, h⟩
  · exact .inl h
  · exact .inr ⟨b, rfl, h.setBox hq 0 v⟩
theorem DoAt.ans {w w' : World} {r : List LObj × Int} {e : Ending} (h : DoAt w r e w') : ∃ x c vs, e = .returned (.tuple #[.agg #[.slice x r.1.length c], .int .i64 r.2]) ∧ AnsAt w' w.heap.size x c vs r.1 ∧ Below w.heap.size w w' := by
  obtain ⟨⟨h0, rfl⟩ | ⟨b, c, vs, rfl, hO⟩, hb⟩ := h
  · exact ⟨none, 0, fun _ => .nilIface, by rw [h0]; rfl, .inl ⟨h0, rfl, rfl⟩, hb⟩
  · exact ⟨_, c, vs, rfl, .inr ⟨b, rfl, hO⟩, hb⟩
theorem AnsAt.objs {W : World} {lo : Nat} {x : Option Addr} {c : Nat} {vs : Nat → Value} {l : List LObj} (h : AnsAt W lo x c vs l) : ObjsAt W lo W.heap.size x l.length l := by
  rcases h with ⟨rfl, rfl, rfl⟩ | ⟨b, rfl, h⟩
  · exact ⟨rfl, Nat.zero_le _, fun h => absurd rfl h⟩
  · exact h.to_objs
/-- The box with the program's answer. -/
structure GB (W : World) (lo g : Nat) (x : Option Addr) (c : Nat) (vs : Nat → Value) (l : List LObj) : Prop where
  box : W.cell? ⟨g, 0, none⟩ = some (.slice x l.length c)
  row : ∃ f, W.rowIs g 25 1 f
  ans : AnsAt W lo x c vs l
theorem GB.next {W W' : World} {lo g : Nat} {x : Option Addr} {c : Nat} {vs : Nat → Value} {l : List LObj} (h : GB W lo g x c vs l) (hb : Below W.heap.size W W') : GB W' lo g x c vs l := by
  obtain ⟨f, hf⟩ := h.row
  exact ⟨by rw [hb.cell (by simpa using hf.lt)]; exact h.box, ⟨f, hf.of_block (hb.block g hf.lt)⟩, h.ans.next hb⟩
section
variable {ops : Array Oper} {ac : Act} {K : Act → World → Prop} {Q : Exit → Act → World → Prop} {E : Prop} {ty : TypeId} {ps : String} {af : Array Edge}
theorem st_alloc31 (W : World) (d : Nat)
    (h : ∀ q W', q = W.heap.size → Below W.heap.size W W' → W'.rowIs q 25 1 (zrow #[.slice none 0 0]) → K (ac.put (some d) (.pointer (some ⟨q, 0, none⟩))) W') :
    if Region.wanted { dst := some d, op := .alloc 25, type := ty, pos := ps, after := af, guard := none } (yielded ops ac.tmps) = true then Oper.wp Tryz.prog { dst := some d, op := .alloc 25, type := ty, pos := ps, after := af, guard := none } ac W K Q else E := by
  rw [if_pos (by simp [Region.wanted])]
  have := h W.heap.size (W.alloc (.cells #[.slice none 0 0] 25)) rfl ((Below.refl _ _).alloc (Nat.le_refl _) _) (zrow_new W _ 25)
  unfold Oper.wp
  go_simp
  exact this
theorem st_store31 (W : World) (tp tv : Nat) (q : Nat) (a : Option Addr) (n c : Nat) (hp : ac.tmps[tp]?.getD undef = .pointer (some ⟨q, 0, none⟩)) (hv : ac.tmps[tv]?.getD undef = .agg #[.slice a n c]) (hr : W.rowIs q 25 1 (zrow #[.slice none 0 0]))
    (h : ∀ W', But q W W' → W'.cell? ⟨q, 0, none⟩ = some (.slice a n c) → Hid (W' = W.setCell ⟨q, 0, none⟩ (.slice a n c)) → K ac W') :
    if Region.wanted { dst := none, op := .store 25 (.tmp tp) (.tmp tv), type := ty, pos := ps, after := af, guard := none } (yielded ops ac.tmps) = true then Oper.wp Tryz.prog { dst := none, op := .store 25 (.tmp tp) (.tmp tv), type := ty, pos := ps, after := af, guard := none } ac W K Q else E := by
  rw [if_pos (by simp [Region.wanted])]
  have c0 : W.cell? ⟨q, 0, none⟩ = some (.slice none 0 0) := by rw [hr.cell (by omega)]; rfl
  have z0 := hr.frozen 0
  have r2 := hr.set 0 (.slice a n c)
  have := h (W.setCell ⟨q, 0, none⟩ (.slice a n c)) ((But.refl q W).set _ _) (by rw [r2.cell (by omega)]; rfl) rfl
  clear h hr r2
  unfold Oper.wp
  go_simp
  exact this
end
end Go.Proofs.YtnolbfijcnldjaaGreatDoor

/- The law of ActDo: an answer written over and read again, or none. -/
namespace Go.Proofs.YtnolbfijcnldjaaGreatDoor
open Go.RowKit

theorem OwnEnts.blocks {w w' : World} {B : Nat} {v : Value} {es : List LEnt} (h : OwnEnts w B v es) (hk : ∀ q, B ≤ q → q < w.heap.size → w'.heap[q]? = w.heap[q]?) : OwnEnts w' B v es := by
  refine ⟨h.1, ?_⟩
  rcases h.2 with hn | ⟨g, cap, cur, rfl, hb, hgg, rest⟩
  · exact .inl hn
  · exact .inr ⟨g, cap, cur, rfl, hb, by rw [hk g hb (Array.getElem?_eq_some_iff.1 hgg).1]; exact hgg, rest⟩
theorem OwnT.blocks {w w' : World} {B b c : Nat} {os : List LObj} {vs : Nat → Value} (h : OwnT w B b c os vs) (hk : ∀ q, B ≤ q → q < w.heap.size → w'.heap[q]? = w.heap[q]?) : OwnT w' B b c os vs := by
  obtain ⟨cur, hr, hcs, hlc, hcm⟩ := h.row
  have hb := hk b h.lo h.lt
  have hc : ∀ j, w'.cell? ⟨b, j, none⟩ = w.cell? ⟨b, j, none⟩ := fun j => World.cell?_of_block (w := w) hb
  refine ⟨h.lo, ⟨cur, by rw [hb]; exact hr, hcs, hlc, hcm⟩, fun i o ho => ?_, h.apart⟩
  obtain ⟨h1, h2, h3, h4, h5, h6, h7⟩ := h.at_ i o ho
  exact ⟨h1, by rw [hc]; exact h2, by rw [hc]; exact h3, by rw [hc]; exact h4, by rw [hc]; exact h5, h6.blocks hk, h7⟩
theorem AnsAt.blocks {W W' : World} {lo : Nat} {x : Option Addr} {c : Nat} {vs : Nat → Value} {l : List LObj} (h : AnsAt W lo x c vs l) (hk : ∀ q, lo ≤ q → q < W.heap.size → W'.heap[q]? = W.heap[q]?) : AnsAt W' lo x c vs l := by
  rcases h with h | ⟨b, rfl, h⟩
  · exact .inl h
  · exact .inr ⟨b, rfl, h.blocks hk⟩
/-- The arguments are written over: the answer and its box stand. -/
theorem GB.only {W W' : World} {lo g L U : Nat} {x : Option Addr} {c : Nat} {vs : Nat → Value} {l : List LObj} (h : GB W lo g x c vs l) (hO : Only L U W W') (hlo : U ≤ lo) (hg : U ≤ g) : GB W' lo g x c vs l := by
  obtain ⟨f, hf⟩ := h.row
  have e := hO.2 g hf.lt hg
  exact ⟨by rw [World.cell?_of_block (w := W) e]; exact h.box, ⟨f, hf.of_block e⟩, h.ans.blocks fun q h1 h2 => hO.2 q h2 (by omega)⟩
theorem heldObjS_nil (k : Int) (w : World) : Calls Tryz.prog 110 #[.slice none 0 0, .int .i64 k] w fun e w' => e = .returned (.int .i64 k) ∧ w' = w := by
  go_enter Tryz.func110, Tryz.ntmps110
  go_wp2_with fail
  go_loopg [1, 5] 0 (fun g x i wr => x = .int .i64 k ∧ i = .int .i64 0 ∧ wr = w)
  case atStart => exact ⟨rfl, rfl, rfl⟩
  case round =>
    obtain ⟨rfl, rfl, rfl⟩ := hrel
    go_wp2_with fail
    go_ret
    exact ⟨rfl, rfl⟩
theorem heldTree_nil (w : World) : Calls Tryz.prog 53 #[.agg #[.slice none 0 0], .int .i64 1] w fun e w' => e = .returned (.int .i64 1) ∧ Below w.heap.size w w' := by
  go_enter Tryz.func53, Tryz.ntmps53
  go_wp2_with fail
  refine (heldObjS_nil 1 _).mono ?_
  rintro e w1 ⟨rfl, rfl⟩
  go_wp2_with fail
  go_ret
  exact ⟨rfl, (Below.refl _ _).alloc (Nat.le_refl _) _⟩
/-- An answer that is written over: none, or the tree of one's own with other content. -/
def HeldAt (W : World) (lo : Nat) (x : Option Addr) (c : Nat) (vs : Nat → Value) (l : List LObj) : Prop := (l = [] ∧ x = none ∧ c = 0) ∨ ∃ b cur, x = some ⟨b, 0, none⟩ ∧ OwnT W lo b c cur vs ∧ MkdO 1 l cur l.length
theorem HeldAt.next {W W' : World} {lo : Nat} {x : Option Addr} {c : Nat} {vs : Nat → Value} {l : List LObj} (h : HeldAt W lo x c vs l) (hb : Below W.heap.size W W') : HeldAt W' lo x c vs l := by
  rcases h with h | ⟨b, cur, rfl, h, hm⟩
  · exact .inl h
  · exact .inr ⟨b, cur, rfl, h.below hb, hm⟩
theorem HeldAt.setBox {W : World} {lo q : Nat} {x : Option Addr} {c : Nat} {vs : Nat → Value} {l : List LObj} (h : HeldAt W lo x c vs l) (hq : ∃ f, W.rowIs q 25 1 f) (v : Value) : HeldAt (W.setCell ⟨q, 0, none⟩ v) lo x c vs l := by
  rcases h with h | ⟨b, cur, rfl, h, hm⟩
  · exact .inl h
  · exact .inr ⟨b, cur, rfl, h.setBox hq 0 v, hm⟩
/-- A box of a tree is no block of a tree. -/
theorem OwnT.box_apart {W : World} {B b c q : Nat} {os : List LObj} {vs : Nat → Value} {f : Nat → Value} (h : OwnT W B b c os vs) (hq : W.rowIs q 25 1 f) : q ≠ b ∧ ∀ i, i < os.length → (vs i).ownBlock ≠ some q := by
  obtain ⟨cc, hqq, -⟩ := hq
  obtain ⟨cur, hr, -⟩ := h.row
  refine ⟨fun e => ?_, fun i hi e => ?_⟩
  · subst e; rw [hr] at hqq; simp at hqq
  · have ho := (h.at_ i (os[i]'hi) (by simp [hi])).2.2.2.2.2.1
    rcases ho.2 with ⟨hn, _⟩ | ⟨g, cap, cur2, hv, hb, hgg, _⟩
    · rw [hn] at e; simp [Value.ownBlock] at e
    · rw [hv] at e; simp [Value.ownBlock] at e; subst e; rw [hgg] at hqq; simp at hqq
theorem markAns (lo g : Nat) (x : Option Addr) (c : Nat) (vs : Nat → Value) (l : List LObj) (w : World) (hlo : lo ≤ w.heap.size) (hs : Slim l.length l) (H : GB w lo g x c vs l) :
    Calls Tryz.prog 52 #[.agg #[.slice x l.length c], .int .i64 1] w fun e w' => e = .returned (.int .i64 (kAt 1 l l.length : Int)) ∧ HeldAt w' lo x c vs l ∧ w'.cell? ⟨g, 0, none⟩ = some (.slice x l.length c) ∧ (∃ f, w'.rowIs g 25 1 f) ∧ Below lo w w' := by
  obtain ⟨f, hf⟩ := H.row
  rcases H.ans with ⟨rfl, rfl, rfl⟩ | ⟨b, rfl, h⟩
  · refine (markTree_w 1 none 0 0 w.heap.size w.heap.size [] w (by omega) (by omega) rfl (by simp [totT]) (Nat.le_refl _) (fun h => absurd rfl h)).mono ?_
    rintro e w' ⟨⟨k, rfl, h1, h2⟩, -, hO⟩
    have : k = 1 := by simp [totT] at h2; omega
    subst this
    exact ⟨rfl, .inl ⟨rfl, rfl, rfl⟩, by rw [hO.1.cell (by simpa using hf.lt)]; exact H.box, ⟨f, hf.of_block (hO.1.block g hf.lt)⟩, hO.1.mono hlo⟩
  · obtain ⟨n1, n2⟩ := h.box_apart hf
    refine (markTree_own lo b l.length c l vs w hlo hs h).mono ?_
    rintro e w' ⟨rfl, ⟨cur, h1, h2⟩, hb, hk⟩
    have e1 := hk g hf.lt n1 n2
    exact ⟨rfl, .inr ⟨b, cur, rfl, h1, h2⟩, by rw [World.cell?_of_block (w := w) e1]; exact H.box, ⟨f, hf.of_block e1⟩, hb⟩
theorem heldAns (lo : Nat) (x : Option Addr) (c : Nat) (vs : Nat → Value) (l : List LObj) (w : World) (hs : Slim l.length l) (H : HeldAt w lo x c vs l) :
    Calls Tryz.prog 53 #[.agg #[.slice x l.length c], .int .i64 1] w fun e w' => e = .returned (.int .i64 (kAt 1 l l.length : Int)) ∧ Below w.heap.size w w' := by
  rcases H with ⟨rfl, rfl, rfl⟩ | ⟨b, cur, rfl, h, hm⟩
  · exact heldTree_nil w
  · exact heldTree_own lo b l.length c l cur vs w hs h hm
end Go.Proofs.YtnolbfijcnldjaaGreatDoor
