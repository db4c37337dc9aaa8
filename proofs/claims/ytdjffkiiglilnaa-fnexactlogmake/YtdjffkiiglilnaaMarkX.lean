/- Copies of any tree can be written. -/
import Derived.Test.YtdjffkiiglilnaaMarkW
namespace Go.Proofs.Ytdjffkiiglilnaa
open Go.RowKit

/-- All blocks from B on can be written. -/
def Unf (B : Nat) (w : World) : Prop := ∀ b o, B ≤ b → w.frozen? ⟨b, o, none⟩ = false
theorem Unf.start (w : World) : Unf w.heap.size w := fun b o hb => by
  unfold World.frozen?
  rw [Array.getElem?_eq_none (by simpa using hb)]
theorem Unf.set {B : Nat} {w : World} (h : Unf B w) (p : Addr) (v : Value) : Unf B (w.setCell p v) := fun b o hb => by rw [World.frozen?_setCell]; exact h b o hb
theorem Unf.alloc {B : Nat} {w : World} (h : Unf B w) (c : Array Value) (t : TypeId) : Unf B (w.alloc (.cells c t)) := fun b o hb => by
  by_cases e : b = w.heap.size
  · subst e; exact World.frozen?_alloc_at c t _ _ rfl
  · rw [World.frozen?_alloc_old _ _ _ (by simpa using e)]; exact h b o hb
theorem Unf.next {B : Nat} {w w1 : World} (h : Unf B w) (hb : Below w.heap.size w w1) (h1 : Unf w.heap.size w1) : Unf B w1 := fun b o hB => by
  by_cases e : b < w.heap.size
  · rw [hb.frozen (by simpa using e)]; exact h b o hB
  · exact h1 b o (by omega)

theorem toEnt_u (s : ByteArray) (i : Int) (w : World) :
    Calls Try.prog 159 #[.agg #[.string s, .int .i64 i]] w fun e w' => e = .returned (.agg #[.string s, .int .i64 i]) ∧ Below w.heap.size w w' ∧ Unf w.heap.size w' := by
  go_enter Try.func159, Try.ntmps159
  go_wp2
  exact bodyPost_ret (v := .agg #[.string s, .int .i64 i]) (by simp [results, Try.results159, go_sem]) rfl ⟨rfl, by
    repeat (first | exact Below.refl _ _ | refine Below.setCell ?_ (by simp <;> omega) _ | refine Below.alloc ?_ (by simp <;> omega) _), by
    repeat (first | exact Unf.start _ | refine Unf.set ?_ _ _ | refine Unf.alloc ?_ _ _)⟩

set_option maxHeartbeats 400000 in
theorem toEntS_u (a : Option Addr) (n c : Nat) (es : List LEnt) (L U : Nat) (w : World) (hn : n ≤ 1048576) (hU : U ≤ w.heap.size) (H : EntsAt w L U a n es) :
    Calls Try.prog 140 #[.slice a n c] w fun e w' => (∃ b, e = .returned (.slice (some ⟨b, 0, none⟩) n n) ∧ EntsAt w' w.heap.size w'.heap.size (some ⟨b, 0, none⟩) n es) ∧ Below w.heap.size w w' ∧ Unf w.heap.size w' := by
  have hmk := run_make_many 36 137 _ 2 24 Try.underlying36 info47 n (by omega) (by omega)
  obtain ⟨f0, hf0⟩ := rowIs_many w #[.string ByteArray.empty, .int .i64 0] (n * 2) 137
  have HF0 : Hid ((w.alloc (.cells (madeCells #[.string ByteArray.empty, .int .i64 0] (n * 2)) 137)).rowIs w.heap.size 137 (n * 2) f0) := hf0
  clear hf0
  go_enter Try.func140, Try.ntmps140
  go_wp2
  go_loopg [4] n (fun k i wr => ∃ j : Nat, j ≤ n ∧ Hid (k = n - j) ∧ i = .int .i64 j ∧ (∃ f, Hid (wr.rowIs w.heap.size 137 (n * 2) f ∧ ∀ i, i < j → ∃ e, es[i]? = some e ∧ f (i * 2) = .string e.name ∧ f (i * 2 + 1) = .int .i64 e.id)) ∧ Below w.heap.size w wr ∧ Unf w.heap.size wr)
  case atStart => exact ⟨0, Nat.zero_le _, by show _ = _; omega, rfl, ⟨f0, HF0.out, fun i hi => by omega⟩, (Below.refl _ _).alloc (Nat.le_refl _) _, (Unf.start w).alloc _ _⟩
  case round =>
    obtain ⟨j, hj, hk, rfl, ⟨f, hf⟩, hb, hu⟩ := hrel
    by_cases hlt : j < n
    · obtain ⟨b, off, ha, hL, hbU, hc⟩ := H.at_ (by omega)
      subst ha
      obtain ⟨e, he, hsz, hc0, hc1⟩ := hc j hlt
      rw [← hb.cell (by simp; omega)] at hc0 hc1
      have HE : Hid (es[j]? = some e) := he
      clear he hc
      go_wp2_with fail
      refine (toEnt_u _ _ _).mono ?_
      rintro x w1 ⟨rfl, hb1, hu1⟩
      have hrow := hf.out.1.of_block (hb1.block w.heap.size hf.out.1.lt)
      have g0 := hrow.cell (i := j * 2) (by omega)
      have g1 := hrow.cell (i := j * 2 + 1) (by omega)
      have z0 := hrow.frozen (j * 2)
      have z1 := hrow.frozen (j * 2 + 1)
      have HR : Hid (w1.rowIs w.heap.size 137 (n * 2) f) := hrow
      clear hrow
      go_wp2_with fail
      go_roundg (n - (j + 1))
      case measure => have := hk.out; omega
      case rel =>
        refine ⟨j + 1, by omega, rfl, by go_num, ⟨_, (HR.out.set (j * 2) (.string e.name)).set (j * 2 + 1) (.int .i64 e.id), fun i hi => ?_⟩, ((hb.trans (hb1.mono hb.size)).setCell (by simp) _).setCell (by simp) _, ((hu.next hb1 hu1).set _ _).set _ _⟩
        by_cases hij : i = j
        · subst hij
          exact ⟨e, HE.out, by simp, by simp⟩
        · obtain ⟨e', he', q0, q1⟩ := hf.out.2 i (by omega)
          refine ⟨e', he', ?_, ?_⟩
          · show (if i * 2 = j * 2 + 1 then _ else if i * 2 = j * 2 then _ else f (i * 2)) = _
            rw [if_neg (by omega), if_neg (by omega)]; exact q0
          · show (if i * 2 + 1 = j * 2 + 1 then _ else if i * 2 + 1 = j * 2 then _ else f (i * 2 + 1)) = _
            rw [if_neg (by omega), if_neg (by omega)]; exact q1
    · go_wp2_with fail
      go_ret
      refine ⟨⟨w.heap.size, rfl, H.len, H.bd, fun hn0 => ⟨w.heap.size, 0, rfl, Nat.le_refl _, hf.out.1.lt, fun i hi => ?_⟩⟩, hb, hu⟩
      obtain ⟨e', he', q0, q1⟩ := hf.out.2 i (by omega)
      obtain ⟨b, off, ha, hL, hbU, hc⟩ := H.at_ hn0
      obtain ⟨e2, he2, hsz, _, _⟩ := hc i hi
      rw [he'] at he2
      cases he2
      exact ⟨e', he', hsz, by rw [← q0, Nat.zero_add]; exact hf.out.1.cell (by omega), by rw [← q1, Nat.zero_add]; exact hf.out.1.cell (by omega)⟩

set_option maxHeartbeats 400000 in
theorem toObj_u (k v : Int) (s : ByteArray) (a : Option Addr) (n c : Nat) (es : List LEnt) (L U : Nat) (w : World) (hn : n ≤ 1048576) (hU : U ≤ w.heap.size) (H : EntsAt w L U a n es) :
    Calls Try.prog 107 #[.agg #[.int .i64 k, .int .i64 v, .string s, .slice a n c]] w fun e w' => (∃ b, e = .returned (.agg #[.int .i64 k, .int .i64 v, .string s, .slice (some ⟨b, 0, none⟩) n n]) ∧ EntsAt w' w.heap.size w'.heap.size (some ⟨b, 0, none⟩) n es) ∧ Below w.heap.size w w' ∧ Unf w.heap.size w' := by
  go_enter Try.func107, Try.ntmps107
  go_wp2_with fail
  refine (toEntS_u _ _ _ _ L U _ hn (by simp; omega) (H.below ((((Below.refl _ _).alloc (Nat.le_refl _) _).alloc (by simp) _).alloc (by simp; omega) _) hU)).mono ?_
  rintro x w1 ⟨⟨b, rfl, hk⟩, hb, hu1⟩
  obtain ⟨hc, hf⟩ := bcell hb
  have hz : w.heap.size + 3 ≤ w1.heap.size := by have := hb.size; simp at this; omega
  have hb0 : Below w.heap.size w w1 := ((((Below.refl _ _).alloc (Nat.le_refl _) _).alloc (by simp) _).alloc (by simp; omega) _).trans (hb.mono (by simp; omega))
  go_wp2_with fail
  refine bodyPost_ret (v := .agg #[.int .i64 k, .int .i64 v, .string s, .slice (some ⟨b, 0, none⟩) n n]) (by simp [results, Try.results107, go_sem, hc]) rfl ⟨⟨b, rfl, ?_⟩, ?_, ?_⟩
  · refine EntsAt.wide (L := w.heap.size + 3) (U := w1.heap.size) ?_ (by omega) (by simp)
    have hk' : EntsAt w1 (w.heap.size + 3) w1.heap.size (some ⟨b, 0, none⟩) n es := hk.wide (by simp) (Nat.le_refl _)
    repeat (first | exact hk' | refine EntsAt.setCell ?_ _ _ (by simp <;> omega))
  · repeat (first | exact hb0 | refine Below.setCell ?_ (by simp <;> omega) _)
  · have hu0 : Unf w.heap.size w1 := ((((Unf.start w).alloc _ _).alloc _ _).alloc _ _).next hb hu1
    repeat (first | refine Unf.set ?_ _ _ | exact hu0)

set_option maxHeartbeats 800000 in
theorem toObjS_u (a : Option Addr) (n c : Nat) (os : List LObj) (L U : Nat) (w : World) (hn : n ≤ 1048576) (hS : Sizes os 1048576) (hU : U ≤ w.heap.size) (H : ObjsAt w L U a n os) :
    Calls Try.prog 62 #[.slice a n c] w fun e w' => (∃ b, e = .returned (.slice (some ⟨b, 0, none⟩) n n) ∧ ObjsAt w' w.heap.size w'.heap.size (some ⟨b, 0, none⟩) n os) ∧ Below w.heap.size w w' ∧ Unf w.heap.size w' := by
  have hmk := run_make_many 23 38 _ 4 56 Try.underlying23 info34 n (by omega) (by omega)
  obtain ⟨f0, hf0⟩ := rowIs_many w #[.int .i64 0, .int .i64 0, .string ByteArray.empty, .slice none 0 0] (n * 4) 38
  have HF0 : Hid ((w.alloc (.cells (madeCells #[.int .i64 0, .int .i64 0, .string ByteArray.empty, .slice none 0 0] (n * 4)) 38)).rowIs w.heap.size 38 (n * 4) f0) := hf0
  clear hf0
  go_enter Try.func62, Try.ntmps62
  go_wp2
  go_loopg [4] n (fun k i wr => ∃ j : Nat, j ≤ n ∧ Hid (k = n - j) ∧ i = .int .i64 j ∧ (∃ f, Hid (wr.rowIs w.heap.size 38 (n * 4) f ∧ ∀ i, i < j → ∃ o ka kn kc, os[i]? = some o ∧ f (i * 4) = .int .i64 o.kind ∧ f (i * 4 + 1) = .int .i64 o.ver ∧ f (i * 4 + 2) = .string o.text ∧ f (i * 4 + 3) = .slice ka kn kc ∧ EntsAt wr (w.heap.size + 1) wr.heap.size ka kn o.kids)) ∧ Below w.heap.size w wr ∧ Unf w.heap.size wr)
  case atStart => exact ⟨0, Nat.zero_le _, by show _ = _; omega, rfl, ⟨f0, HF0.out, fun i hi => by omega⟩, (Below.refl _ _).alloc (Nat.le_refl _) _, (Unf.start w).alloc _ _⟩
  case round =>
    obtain ⟨j, hj, hk, rfl, ⟨f, hf⟩, hb, hu⟩ := hrel
    by_cases hlt : j < n
    · obtain ⟨b, off, ha, hL, hbU, hc⟩ := H.at_ (by omega)
      subst ha
      obtain ⟨o, ka, kn, kc, he, hsz, hc0, hc1, hc2, hc3, hks⟩ := hc j hlt
      have hkn : kn ≤ 1048576 := by rw [hks.len]; exact hS o (List.mem_of_getElem? he)
      rw [← hb.cell (by simp; omega)] at hc0 hc1 hc2 hc3
      have HE : Hid (os[j]? = some o) := he
      clear he hc
      have hrl := hf.out.1.lt
      go_wp2_with fail
      refine (toObj_u _ _ _ _ _ _ _ L U _ hkn (by have := hb.size; omega) (hks.below hb hU)).mono ?_
      rintro x w1 ⟨⟨kb, rfl, hke⟩, hb1, hu1⟩
      have hrow := hf.out.1.of_block (hb1.block w.heap.size hf.out.1.lt)
      have g0 := hrow.cell (i := j * 4) (by omega)
      have g1 := hrow.cell (i := j * 4 + 1) (by omega)
      have g2 := hrow.cell (i := j * 4 + 2) (by omega)
      have g3 := hrow.cell (i := j * 4 + 3) (by omega)
      have z0 := hrow.frozen (j * 4)
      have z1 := hrow.frozen (j * 4 + 1)
      have z2 := hrow.frozen (j * 4 + 2)
      have z3 := hrow.frozen (j * 4 + 3)
      have HR : Hid (w1.rowIs w.heap.size 38 (n * 4) f) := hrow
      clear hrow
      go_wp2_with fail
      go_roundg (n - (j + 1))
      case measure => have := hk.out; omega
      case rel =>
        have hbs := hb1.size
        refine ⟨j + 1, by omega, rfl, by go_num, ⟨_, (((HR.out.set (j * 4) (.int .i64 o.kind)).set (j * 4 + 1) (.int .i64 o.ver)).set (j * 4 + 2) (.string o.text)).set (j * 4 + 3) (.slice (some ⟨kb, 0, none⟩) kn kn), fun i hi => ?_⟩, ((((hb.trans (hb1.mono hb.size)).setCell (by simp) _).setCell (by simp) _).setCell (by simp) _).setCell (by simp) _, ((((hu.next hb1 hu1).set _ _).set _ _).set _ _).set _ _⟩
        by_cases hij : i = j
        · subst hij
          refine ⟨o, _, _, _, HE.out, by simp, by simp, by simp, by simp; exact ⟨rfl, rfl, rfl⟩, ?_⟩
          refine EntsAt.wide (L := wr.heap.size) (U := w1.heap.size) ?_ (by omega) (by simp)
          repeat (first | exact hke | refine EntsAt.setCell ?_ _ _ (by simp <;> omega))
        · obtain ⟨o', ka', kn', kc', he', q0, q1, q2, q3, qk⟩ := hf.out.2 i (by omega)
          refine ⟨o', ka', kn', kc', he', ?_, ?_, ?_, ?_, ?_⟩
          · rw [if_neg (by omega), if_neg (by omega), if_neg (by omega), if_neg (by omega)]; exact q0
          · rw [if_neg (by omega), if_neg (by omega), if_neg (by omega), if_neg (by omega)]; exact q1
          · rw [if_neg (by omega), if_neg (by omega), if_neg (by omega), if_neg (by omega)]; exact q2
          · rw [if_neg (by omega), if_neg (by omega), if_neg (by omega), if_neg (by omega)]; exact q3
          · refine EntsAt.wide (L := w.heap.size + 1) (U := wr.heap.size) ?_ (by omega) (by simp; omega)
            have qk' := qk.below hb1 (Nat.le_refl _)
            repeat (first | exact qk' | refine EntsAt.setCell ?_ _ _ (by simp))
    · go_wp2_with fail
      go_ret
      refine ⟨⟨w.heap.size, rfl, H.len, H.bd, fun hn0 => ⟨w.heap.size, 0, rfl, Nat.le_refl _, hf.out.1.lt, fun i hi => ?_⟩⟩, hb, hu⟩
      obtain ⟨o', ka', kn', kc', he', q0, q1, q2, q3, qk⟩ := hf.out.2 i (by omega)
      obtain ⟨b, off, ha, hL, hbU, hc⟩ := H.at_ hn0
      obtain ⟨o2, _, _, _, he2, hsz, _⟩ := hc i hi
      rw [he'] at he2
      cases he2
      refine ⟨o', ka', kn', kc', he', hsz, ?_, ?_, ?_, ?_, qk.wide (by omega) (Nat.le_refl _)⟩
      · rw [← q0, Nat.zero_add]; exact hf.out.1.cell (by omega)
      · rw [← q1, Nat.zero_add]; exact hf.out.1.cell (by omega)
      · rw [← q2, Nat.zero_add]; exact hf.out.1.cell (by omega)
      · rw [← q3, Nat.zero_add]; exact hf.out.1.cell (by omega)

set_option maxHeartbeats 400000 in
theorem toTree_u (a : Option Addr) (n c : Nat) (os : List LObj) (L U : Nat) (w : World) (hn : n ≤ 1048576) (hS : Sizes os 1048576) (hU : U ≤ w.heap.size) (H : ObjsAt w L U a n os) :
    Calls Try.prog 22 #[.agg #[.slice a n c]] w fun e w' => (∃ b, e = .returned (.agg #[.slice (some ⟨b, 0, none⟩) n n]) ∧ ObjsAt w' w.heap.size w'.heap.size (some ⟨b, 0, none⟩) n os) ∧ Below w.heap.size w w' ∧ Unf w.heap.size w' := by
  go_enter Try.func22, Try.ntmps22
  go_wp2_with fail
  refine (toObjS_u _ _ _ _ L U _ hn hS (by simp; omega) (H.below ((((Below.refl _ _).alloc (Nat.le_refl _) _).alloc (by simp) _).alloc (by simp; omega) _) hU)).mono ?_
  rintro x w1 ⟨⟨b, rfl, hk⟩, hb, hu1⟩
  obtain ⟨hc, hf⟩ := bcell hb
  have hz : w.heap.size + 3 ≤ w1.heap.size := by have := hb.size; simp at this; omega
  have hb0 : Below w.heap.size w w1 := ((((Below.refl _ _).alloc (Nat.le_refl _) _).alloc (by simp) _).alloc (by simp; omega) _).trans (hb.mono (by simp; omega))
  go_wp2_with fail
  refine bodyPost_ret (v := .agg #[.slice (some ⟨b, 0, none⟩) n n]) (by simp [results, Try.results22, go_sem, hc]) rfl ⟨⟨b, rfl, ?_⟩, ?_, ?_⟩
  · refine ObjsAt.wide (L := w.heap.size + 3) (U := w1.heap.size) ?_ (by omega) (by simp)
    have hk' : ObjsAt w1 (w.heap.size + 3) w1.heap.size (some ⟨b, 0, none⟩) n os := hk.wide (by simp) (Nat.le_refl _)
    repeat (first | exact hk' | refine ObjsAt.setCell ?_ _ _ (by simp <;> omega))
  · repeat (first | exact hb0 | refine Below.setCell ?_ (by simp <;> omega) _)
  · have hu0 : Unf w.heap.size w1 := ((((Unf.start w).alloc _ _).alloc _ _).alloc _ _).next hb hu1
    repeat (first | refine Unf.set ?_ _ _ | exact hu0)

/-- What was copied can be marked. -/
theorem ObjsAt.typed {w : World} {L U : Nat} {a : Option Addr} {n : Nat} {os : List LObj} (h : ObjsAt w L U a n os) (hU : U ≤ w.heap.size) (hu : Unf L w) : TypedO w L U a n os := fun hn => by
  obtain ⟨b, off, ha, hL, hbU, hc⟩ := h.at_ hn
  refine ⟨b, off, ha, hL, hbU, by omega, fun o => hu b o hL, fun i hi => ?_⟩
  obtain ⟨o, ka, kn, kc, he, _, h0, h1, h2, h3, hk⟩ := hc i hi
  obtain rfl : kn = o.kids.length := hk.len
  refine ⟨⟨_, h0⟩, ⟨_, h1⟩, ⟨_, h2⟩, o, ka, kc, he, h3, fun hk0 => ?_⟩
  obtain ⟨kb, koff, hka, hkL, hkU, hkc⟩ := hk.at_ hk0
  refine ⟨kb, koff, hka, hkL, hkU, by omega, fun o => hu kb o hkL, fun t ht => ?_⟩
  obtain ⟨e, _, _, g0, g1⟩ := hkc t ht
  exact ⟨⟨_, g0⟩, _, g1⟩
end Go.Proofs.Ytdjffkiiglilnaa
