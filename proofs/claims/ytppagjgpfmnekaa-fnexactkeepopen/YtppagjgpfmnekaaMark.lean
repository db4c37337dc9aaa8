/- Marks laid into a tree and looked for again; a tree that is opened: contracts. -/
import Derived.Test.YtppagjgpfmnekaaEq
import Derived.Deep.DeepCutAuto
import Derived.Laws.IdiomStrings
namespace Go.Proofs.Ytppagjgpfmnekaa
open Go.RowKit

def dg (x : Nat) : UInt8 := UInt8.ofNat (48 + x % 10)
def digs : Nat → Nat → ByteArray → ByteArray
  | 0, _, s => s
  | f + 1, k, s => if 0 < k then digs f (k / 10) (⟨#[dg k]⟩ ++ s) else s
def mkT (k : Nat) : ByteArray := ⟨#[109]⟩ ++ digs k k ⟨#[]⟩

theorem conv1 (wr : World) (x : Nat) : (convert 51 9 (.slice (some ⟨wr.heap.size, 0, none⟩) 1 1)).run Try.prog (wr.alloc (Obj.cells #[Value.int IntKind.u8 (48 + (x : Int) % 10)] 5)) = .ok (.string ⟨#[dg x]⟩) (wr.alloc (Obj.cells #[Value.int IntKind.u8 (48 + (x : Int) % 10)] 5)) := by
  refine run_convert_bytes_back (P := Try.prog) (wr.alloc (Obj.cells #[Value.int IntKind.u8 (48 + (x : Int) % 10)] 5)) 51 9 5 ⟨wr.heap.size, 0, none⟩ 1 [UInt8.ofNat (48 + x % 10)] Try.underlying51 Try.underlying5 Try.underlying9 (fun j hj => ?_)
  have : j = 0 := by simpa using hj
  subst this
  have e : (48 + x % 10) % 256 = 48 + x % 10 := by omega
  simp [go_sem, Addr.add, UInt8.toNat_ofNat', e]

set_option maxHeartbeats 1000000 in
set_option maxRecDepth 100000 in
theorem markText_any (k : Nat) (w : World) (h0 : 1 ≤ k) (h1 : k ≤ 10000) :
    Calls Try.prog 24 #[.int .i64 k] w fun e w' => e = .returned (.string (mkT k)) ∧ Below w.heap.size w w' := by
  have hk : ¬ (k : Int) ≤ 0 := by omega
  go_enter Try.func24, Try.ntmps24
  go_wp2_with fail
  go_loopg [0, 3] k (fun g i p wr => ∃ (x f : Nat) (s : ByteArray), s.size + x ≤ k ∧ Hid (g = x) ∧ i = .int .i64 x ∧ p = .string s ∧ x ≤ f ∧ Hid (digs k k ⟨#[]⟩ = digs f x s) ∧ Below w.heap.size w wr)
  case atStart => exact ⟨k, k, ⟨#[]⟩, by simp [ByteArray.size], rfl, rfl, rfl, by omega, rfl, Below.refl _ _⟩
  case round =>
    obtain ⟨x, f, s, hs, hg, rfl, rfl, hf, hq, hb⟩ := hrel
    by_cases hx0 : 0 < x
    · have hx0' : (0 : Int) < (x : Int) := by omega
      have hcv := conv1 wr x
      obtain ⟨y, hy⟩ : ∃ y : Nat, (x : Int) / 10 = (y : Int) := ⟨x / 10, by omega⟩
      have hy1 : y < x := by omega
      have HY : Hid (digs k k ⟨#[]⟩ = digs (f - 1) y (⟨#[dg x]⟩ ++ s)) := by
        show _ = _
        rw [hq.out]
        obtain ⟨f', rfl⟩ : ∃ f', f = f' + 1 := ⟨f - 1, by omega⟩
        rw [digs, if_pos hx0, show x / 10 = y by omega]
        rfl
      go_wp2_with fail
      go_roundg y
      case measure => have := hg.out; omega
      case rel => exact ⟨y, f - 1, ⟨#[dg x]⟩ ++ s, by rw [ByteArray.size_append]; show 1 + s.size + y ≤ _; omega, rfl, rfl, rfl, by omega, HY, hb.alloc hb.size _⟩
    · have hx0' : ¬ (0 : Int) < (x : Int) := by omega
      have HX : Hid (digs k k ⟨#[]⟩ = s) := by
        show _ = _
        rw [hq.out, show x = 0 by omega]
        cases f with
        | zero => rfl
        | succ f => rw [digs, if_neg (by omega)]
      go_wp2_with fail
      go_ret
      exact ⟨by show Ending.returned (.string _) = Ending.returned (.string _); unfold mkT; rw [HX.out], hb⟩

theorem markText_at (x : Int) (k : Nat) (w : World) (e : x = k) (h0 : 1 ≤ k) (h1 : k ≤ 10000) :
    Calls Try.prog 24 #[.int .i64 x] w fun e w' => e = .returned (.string (mkT k)) ∧ Below w.heap.size w w' := by
  subst e
  exact markText_any k w h0 h1
/-- What a tree that is opened holds, cell by cell. -/
def openF (i : Nat) : Value := if i = 0 then .int .i64 2 else if i = 1 then .int .i64 1 else if i % 4 = 2 then .string ⟨#[]⟩ else if i % 4 = 3 then .slice none 0 0 else .int .i64 0
def zs128 : Array Value := madeCells #[.int .i64 0, .int .i64 0, .string ByteArray.empty, .slice none 0 0] (32 * 4)
theorem make128 (w : World) : (Instr.makeSlice 22 (.int .i64 32) (.int .i64 32)).run Try.prog w = .ok (.slice (some ⟨w.heap.size, 0, none⟩) 32 32) (w.alloc (.cells zs128 42)) := by
  have h := run_make_many 22 42 _ 4 56 Try.underlying22 info34 32 (by omega) (by omega) w
  have e : ((32 : Nat) : Int) = 32 := by omega
  rw [e] at h
  exact h
theorem zs128_at (i : Nat) (hi : i < 128) : zs128[i]? = some (if i % 4 = 2 then .string ⟨#[]⟩ else if i % 4 = 3 then .slice none 0 0 else .int .i64 0) := by
  have h4 : i % 4 < 4 := Nat.mod_lt _ (by omega)
  unfold zs128 madeCells
  simp [hi]
  rcases (show i % 4 = 0 ∨ i % 4 = 1 ∨ i % 4 = 2 ∨ i % 4 = 3 by omega) with h | h | h | h <;> simp [h] <;> rfl
theorem row128 (w : World) : (w.alloc (.cells zs128 42)).rowIs w.heap.size 42 128 (fun i => if i % 4 = 2 then .string ⟨#[]⟩ else if i % 4 = 3 then .slice none 0 0 else .int .i64 0) := by
  have h := World.rowIs_alloc w zs128 42 (fun i => if i % 4 = 2 then .string ⟨#[]⟩ else if i % 4 = 3 then .slice none 0 0 else .int .i64 0) (fun i hi => zs128_at i (by unfold zs128 at hi; rw [size_madeCells] at hi; omega))
  have e : zs128.size = 128 := by unfold zs128; rw [size_madeCells]
  rwa [e] at h

def OpenEnd (w : World) (e : Ending) (w' : World) : Prop := ∃ b, e = .returned (.agg #[.slice (some ⟨b, 0, none⟩) 32 32]) ∧ w.heap.size ≤ b ∧ w'.rowIs b 42 128 openF

def openA : Array Value := (((zs128.setIfInBounds 0 (Value.int IntKind.i64 2)).setIfInBounds 1 (Value.int IntKind.i64 1)).setIfInBounds 2 (Value.string ⟨#[]⟩)).setIfInBounds 3 (Value.slice none 0 0)
theorem openA_row (w : World) : (w.alloc (.cells openA 42)).rowIs w.heap.size 42 128 openF := by
  have e0 : zs128.size = 128 := by unfold zs128; rw [size_madeCells]
  have e : openA.size = 128 := by unfold openA; simp [e0]
  have h := World.rowIs_alloc w openA 42 openF (fun i hi => by
    rw [e] at hi
    have hz := zs128_at i hi
    unfold openA openF
    rw [Array.getElem?_setIfInBounds, Array.getElem?_setIfInBounds, Array.getElem?_setIfInBounds, Array.getElem?_setIfInBounds]
    simp only [Array.size_setIfInBounds, e0]
    by_cases h3 : i = 3
    · subst h3; rfl
    by_cases h2 : i = 2
    · subst h2; rfl
    by_cases h1 : i = 1
    · subst h1; rfl
    by_cases h0 : i = 0
    · subst h0; rfl
    rw [if_neg (fun h => h3 h.symm), if_neg (fun h => h2 h.symm), if_neg (fun h => h1 h.symm), if_neg (fun h => h0 h.symm), hz, if_neg h0, if_neg h1])
  rwa [e] at h

set_option maxHeartbeats 1000000 in
theorem specOpen (w : World) : Calls Try.prog 9 #[] w fun e w' => OpenEnd w e w' ∧ Below w.heap.size w w' := by
  have hmk := make128
  have z0 : zs128[0]? = some (.int .i64 0) := zs128_at 0 (by omega)
  have z1 : zs128[1]? = some (.int .i64 0) := zs128_at 1 (by omega)
  have z2 : zs128[2]? = some (.string ⟨#[]⟩) := zs128_at 2 (by omega)
  have z3 : zs128[3]? = some (.slice none 0 0) := zs128_at 3 (by omega)
  go_enter Try.func9, Try.ntmps9
  go_wp2_with fail
  have hr := openA_row (w.alloc (Obj.cells #[Value.slice (some ⟨w.heap.size + 1, 0, none⟩) 32 32] 24))
  refine bodyPost_ret (v := .agg #[.slice (some ⟨w.heap.size + 1, 0, none⟩) 32 32]) (by simp [results, Try.results9, go_sem]) rfl ⟨⟨w.heap.size + 1, rfl, by omega, ?_⟩, ?_⟩
  · have h2 := World.rowIs.alloc hr (Obj.cells #[Value.slice (some ⟨w.heap.size + 1, 0, none⟩) 32 32] 24)
    unfold openA at h2
    simpa using h2
  · repeat (first | exact Below.refl _ _ | refine Below.alloc ?_ (by simp <;> omega) _)

set_option maxHeartbeats 1000000 in
theorem implOpen (w : World) : Calls Try.prog 11 #[] w fun e w' => OpenEnd w e w' ∧ Below w.heap.size w w' := by
  have hmk := make128
  have z0 : zs128[0]? = some (.int .i64 0) := zs128_at 0 (by omega)
  have z1 : zs128[1]? = some (.int .i64 0) := zs128_at 1 (by omega)
  have z2 : zs128[2]? = some (.string ⟨#[]⟩) := zs128_at 2 (by omega)
  have z3 : zs128[3]? = some (.slice none 0 0) := zs128_at 3 (by omega)
  go_enter Try.func11, Try.ntmps11
  go_wp2_with fail
  have hr := openA_row (w.alloc (Obj.cells #[Value.slice (some ⟨w.heap.size + 1, 0, none⟩) 32 32] 24))
  refine bodyPost_ret (v := .agg #[.slice (some ⟨w.heap.size + 1, 0, none⟩) 32 32]) (by simp [results, Try.results11, go_sem]) rfl ⟨⟨w.heap.size + 1, rfl, by omega, ?_⟩, ?_⟩
  · have h2 := World.rowIs.alloc hr (Obj.cells #[Value.slice (some ⟨w.heap.size + 1, 0, none⟩) 32 32] 24)
    unfold openA at h2
    simpa using h2
  · repeat (first | exact Below.refl _ _ | refine Below.alloc ?_ (by simp <;> omega) _)

/-- A tree of which no directory has a name, cell by cell. -/
def Bare (f : Nat → Value) : Prop := ∀ i, i < 32 → (∃ k v s, f (i * 4) = .int .i64 k ∧ f (i * 4 + 1) = .int .i64 v ∧ f (i * 4 + 2) = .string s) ∧ f (i * 4 + 3) = .slice none 0 0
/-- The marks on the first j objects. -/
def Marked (f : Nat → Value) (j : Nat) : Prop := ∀ i, i < j → f (i * 4) = .int .i64 ((1 + 3 * i : Nat) : Int) ∧ f (i * 4 + 1) = .int .i64 ((2 + 3 * i : Nat) : Int) ∧ f (i * 4 + 2) = .string (mkT (3 + 3 * i))
theorem bare_open : Bare openF := by
  intro i hi
  refine ⟨?_, ?_⟩
  · by_cases h : i = 0
    · subst h; exact ⟨2, 1, ⟨#[]⟩, rfl, rfl, rfl⟩
    · exact ⟨0, 0, ⟨#[]⟩, by unfold openF; rw [if_neg (by omega), if_neg (by omega), if_neg (by omega), if_neg (by omega)], by unfold openF; rw [if_neg (by omega), if_neg (by omega), if_neg (by omega), if_neg (by omega)], by unfold openF; rw [if_neg (by omega), if_neg (by omega), if_pos (by omega)]⟩
  · unfold openF; rw [if_neg (by omega), if_neg (by omega), if_neg (by omega), if_pos (by omega)]

theorem markEntS_nil (k : Int) (w : World) : Calls Try.prog 27 #[.slice none 0 0, .int .i64 k] w fun e w' => e = .returned (.int .i64 k) ∧ w' = w := by
  go_enter Try.func27, Try.ntmps27
  go_wp2_with fail
  go_loopg [1, 5] 0 (fun g x i wr => x = .int .i64 k ∧ i = .int .i64 0 ∧ wr = w)
  case atStart => exact ⟨rfl, rfl, rfl⟩
  case round =>
    obtain ⟨rfl, rfl, rfl⟩ := hrel
    go_wp2_with fail
    go_ret
    exact ⟨rfl, rfl⟩
theorem heldEntS_nil (k : Int) (w : World) : Calls Try.prog 28 #[.slice none 0 0, .int .i64 k] w fun e w' => e = .returned (.int .i64 k) ∧ w' = w := by
  go_enter Try.func28, Try.ntmps28
  go_wp2_with fail
  go_loopg [1, 5] 0 (fun g x i wr => x = .int .i64 k ∧ i = .int .i64 0 ∧ wr = w)
  case atStart => exact ⟨rfl, rfl, rfl⟩
  case round =>
    obtain ⟨rfl, rfl, rfl⟩ := hrel
    go_wp2_with fail
    go_ret
    exact ⟨rfl, rfl⟩

/-- All blocks that were there but one are as they were. -/
structure But (b : Nat) (w w' : World) : Prop where
  below : Below b w w'
  block : ∀ k, k ≠ b → k < w.heap.size → w'.heap[k]? = w.heap[k]?
theorem But.cell {b : Nat} {w w' : World} (h : But b w w') {q : Addr} (h1 : q.block ≠ b) (h2 : q.block < w.heap.size) : w'.cell? q = w.cell? q := World.cell?_of_block (w := w) (h.block q.block h1 h2)
theorem But.refl (b : Nat) (w : World) : But b w w := ⟨Below.refl _ _, fun _ _ _ => rfl⟩
theorem But.trans {b : Nat} {w w1 w2 : World} (h : But b w w1) (k : But b w1 w2) : But b w w2 :=
  ⟨h.below.trans k.below, fun i h1 h2 => (k.block i h1 (by have := h.below.size; omega)).trans (h.block i h1 h2)⟩
theorem But.next {b : Nat} {w w1 w2 : World} (h : But b w w1) (hb : b ≤ w1.heap.size) (k : Below w1.heap.size w1 w2) : But b w w2 :=
  h.trans ⟨k.mono hb, fun i _ h2 => k.block i h2⟩
theorem But.set {b : Nat} {w w1 : World} (h : But b w w1) (o : Nat) (v : Value) : But b w (w1.setCell ⟨b, o, none⟩ v) :=
  h.trans ⟨(Below.refl _ _).setCell (by exact Nat.le_refl _) _, fun i h1 _ => Below.heap_setCell w1 ⟨b, o, none⟩ v i h1⟩

set_option maxHeartbeats 1000000 in
theorem markObjS_any (b c : Nat) (f : Nat → Value) (w : World) (hrow : w.rowIs b 42 128 f) (hbare : Bare f) :
    Calls Try.prog 23 #[.slice (some ⟨b, 0, none⟩) 32 c, .int .i64 1] w fun e w' => e = .returned (.int .i64 97) ∧ (∃ f', w'.rowIs b 42 128 f' ∧ Bare f' ∧ Marked f' 32) ∧ But b w w' := by
  have HR : Hid (w.rowIs b 42 128 f ∧ Bare f) := ⟨hrow, hbare⟩
  clear hrow hbare
  go_enter Try.func23, Try.ntmps23
  go_wp2_with fail
  go_loopg [1, 5] 32 (fun g k i wr => ∃ j : Nat, j ≤ 32 ∧ Hid (g = 32 - j) ∧ i = .int .i64 j ∧ k = .int .i64 ((1 + 3 * j : Nat) : Int) ∧ (∃ f', Hid (wr.rowIs b 42 128 f' ∧ Bare f' ∧ Marked f' j)) ∧ But b w wr)
  case atStart => exact ⟨0, by omega, by show _ = _; omega, rfl, rfl, ⟨f, HR.out.1, HR.out.2, fun i hi => by omega⟩, But.refl _ _⟩
  case round =>
    obtain ⟨j, hj, hg, rfl, rfl, ⟨f', hf⟩, hb⟩ := hrel
    by_cases hlt : j < 32
    · obtain ⟨⟨k0, v0, s0, q0, q1, q2⟩, q3⟩ := hf.out.2.1 j hlt
      have g0 := hf.out.1.cell (i := j * 4) (by omega)
      have g1 := hf.out.1.cell (i := j * 4 + 1) (by omega)
      have g3 := hf.out.1.cell (i := j * 4 + 3) (by omega)
      have z0 := hf.out.1.frozen (j * 4)
      have z1 := hf.out.1.frozen (j * 4 + 1)
      rw [q0] at g0
      rw [q1] at g1
      rw [q3] at g3
      clear q0 q1 q2 q3
      have hlt' : (j : Int) < 32 := by omega
      go_wp2_with fail
      rw [show (1 + 3 * (j : Int) + 1 + 1) = ((3 + 3 * j : Nat) : Int) by omega]
      refine (markText_any (3 + 3 * j) _ (by omega) (by omega)).mono ?_
      rintro x w3 ⟨rfl, hb3⟩
      have r1 := (hf.out.1.set (j * 4) (.int .i64 (1 + 3 * (j : Int)))).set (j * 4 + 1) (.int .i64 (1 + 3 * (j : Int) + 1))
      have r2 := r1.of_block (hb3.block _ r1.lt)
      have hbut := (hb.set (j * 4) (.int .i64 (1 + 3 * (j : Int)))).set (j * 4 + 1) (.int .i64 (1 + 3 * (j : Int) + 1))
      have hbut3 := hbut.next (Nat.le_of_lt r1.lt) hb3
      have g2' := r2.cell (i := j * 4 + 2) (by omega)
      have g3' := r2.cell (i := j * 4 + 3) (by omega)
      have z2' := r2.frozen (j * 4 + 2)
      obtain ⟨⟨k0, v0, s0, q0, q1, q2⟩, q3⟩ := hf.out.2.1 j hlt
      rw [if_neg (by omega), if_neg (by omega), q2] at g2'
      rw [if_neg (by omega), if_neg (by omega), q3] at g3'
      have HR3 : Hid (w3.rowIs b 42 128 (fun i => if i = j * 4 + 1 then .int .i64 (1 + 3 * (j : Int) + 1) else if i = j * 4 then .int .i64 (1 + 3 * (j : Int)) else f' i)) := r2
      clear r1 r2 hbut q0 q1 q2 q3 g0 g1 g3 z0 z1 hb3
      go_wp2_with (go_at_call 27; refine (markEntS_nil _ _).mono ?_; rintro x w4 ⟨rfl, rfl⟩)
      go_roundg (32 - (j + 1))
      case measure => have := hg.out; omega
      case rel =>
        have r4 := HR3.out.set (j * 4 + 2) (.string (mkT (3 + 3 * j)))
        refine ⟨j + 1, by omega, rfl, by go_num, ?_, ⟨_, r4, ?_, ?_⟩, hbut3.set _ _⟩
        · go_num
        · intro i hi
          by_cases hij : i = j
          · subst hij
            refine ⟨⟨1 + 3 * (i : Int), 1 + 3 * (i : Int) + 1, mkT (3 + 3 * i), ?_, ?_, ?_⟩, ?_⟩
            · dsimp only; rw [if_neg (by omega), if_neg (by omega), if_pos rfl]
            · dsimp only; rw [if_neg (by omega), if_pos rfl]
            · dsimp only; rw [if_pos rfl]
            · dsimp only; rw [if_neg (by omega), if_neg (by omega), if_neg (by omega)]; exact (hf.out.2.1 i hi).2
          · obtain ⟨⟨k0, v0, s0, q0, q1, q2⟩, q3⟩ := hf.out.2.1 i hi
            refine ⟨⟨k0, v0, s0, ?_, ?_, ?_⟩, ?_⟩ <;> dsimp only <;> rw [if_neg (by omega), if_neg (by omega), if_neg (by omega)] <;> assumption
        · intro i hi
          by_cases hij : i = j
          · subst hij
            refine ⟨?_, ?_, ?_⟩
            · dsimp only; rw [if_neg (by omega), if_neg (by omega), if_pos rfl, show (1 + 3 * (i : Int)) = ((1 + 3 * i : Nat) : Int) by omega]
            · dsimp only; rw [if_neg (by omega), if_pos rfl]; congr 1; omega
            · dsimp only; rw [if_pos rfl]
          · obtain ⟨q0, q1, q2⟩ := hf.out.2.2 i (by omega)
            refine ⟨?_, ?_, ?_⟩ <;> dsimp only <;> rw [if_neg (by omega), if_neg (by omega), if_neg (by omega)] <;> assumption
    · have hj32 : j = 32 := by omega
      subst hj32
      go_wp2_with fail
      go_ret
      exact ⟨rfl, ⟨f', hf.out⟩, hb⟩

set_option maxHeartbeats 1000000 in
theorem heldObjS_any (b c : Nat) (f : Nat → Value) (w : World) (hrow : w.rowIs b 42 128 f) (hbare : Bare f) (hm : Marked f 32) :
    Calls Try.prog 25 #[.slice (some ⟨b, 0, none⟩) 32 c, .int .i64 1] w fun e w' => e = .returned (.int .i64 97) ∧ Below w.heap.size w w' := by
  have HR : Hid (w.rowIs b 42 128 f ∧ Bare f ∧ Marked f 32) := ⟨hrow, hbare, hm⟩
  clear hrow hbare hm
  go_enter Try.func25, Try.ntmps25
  go_wp2_with fail
  go_loopg [1, 5] 32 (fun g k i wr => ∃ j : Nat, j ≤ 32 ∧ Hid (g = 32 - j) ∧ i = .int .i64 j ∧ k = .int .i64 ((1 + 3 * j : Nat) : Int) ∧ Hid (wr.rowIs b 42 128 f) ∧ Below w.heap.size w wr)
  case atStart => exact ⟨0, by omega, by show _ = _; omega, rfl, rfl, HR.out.1, Below.refl _ _⟩
  case round =>
    obtain ⟨j, hj, hg, rfl, rfl, hrow, hb⟩ := hrel
    by_cases hlt : j < 32
    · obtain ⟨q0, q1, q2⟩ := HR.out.2.2 j hlt
      have q3 := (HR.out.2.1 j hlt).2
      have g0 := hrow.out.cell (i := j * 4) (by omega)
      have g1 := hrow.out.cell (i := j * 4 + 1) (by omega)
      have g2 := hrow.out.cell (i := j * 4 + 2) (by omega)
      have g3 := hrow.out.cell (i := j * 4 + 3) (by omega)
      rw [q0, show ((1 + 3 * j : Nat) : Int) = 1 + 3 * (j : Int) by omega] at g0
      rw [q1, show ((2 + 3 * j : Nat) : Int) = 1 + 3 * (j : Int) + 1 by omega] at g1
      rw [q2] at g2
      rw [q3] at g3
      clear q0 q1 q2 q3
      have hlt' : (j : Int) < 32 := by omega
      have hrl := hrow.out.lt
      go_upto_region 10 with fail
      go_cut [37] (fun s wx => s = .bool false ∧ Hid (wx.rowIs b 42 128 f) ∧ Below w.heap.size w wx)
      case first =>
        go_region_with (go_at_call 24; go_must (refine (markText_at _ (3 + 3 * j) _ (by omega) (by omega) (by omega)).mono ?_; rintro x w3 ⟨rfl, hb3⟩; have g2' : w3.cell? ⟨b, j * 4 + 2, none⟩ = some (.string (mkT (3 + 3 * j))) := (by rw [hb3.cell (by simp; omega)]; simpa using g2)))
        all_goals
          go_wp2_with fail
          go_meet
          exact ⟨rfl, hrow.out.drew.of_block (hb3.block _ hrl), (hb.drew).trans (hb3.mono hb.size)⟩
      case rest =>
        clear g0 g1 g2 g3 hrl hb hrow
        obtain ⟨rfl, hrow, hb⟩ := hcut
        have g3 := hrow.out.cell (i := j * 4 + 3) (by omega)
        rw [(HR.out.2.1 j hlt).2] at g3
        go_wp2_with (go_at_call 28; refine (heldEntS_nil _ _).mono ?_; rintro x w4 ⟨rfl, rfl⟩)
        go_roundg (32 - (j + 1))
        case measure => have := hg.out; omega
        case rel => exact ⟨j + 1, by omega, rfl, by go_num, by go_num, hrow.out, hb⟩
    · have hj32 : j = 32 := by omega
      subst hj32
      go_wp2_with fail
      go_ret
      exact ⟨rfl, hb⟩

theorem markTree_any (b c : Nat) (f : Nat → Value) (w : World) (hrow : w.rowIs b 42 128 f) (hbare : Bare f) :
    Calls Try.prog 15 #[.agg #[.slice (some ⟨b, 0, none⟩) 32 c], .int .i64 1] w fun e w' => e = .returned (.int .i64 97) ∧ (∃ f', w'.rowIs b 42 128 f' ∧ Bare f' ∧ Marked f' 32) ∧ But b w w' := by
  have hlt := hrow.lt
  have HR : Hid (w.rowIs b 42 128 f ∧ Bare f) := ⟨hrow, hbare⟩
  clear hrow hbare
  go_enter Try.func15, Try.ntmps15
  go_wp2_with fail
  refine (markObjS_any b c f _ (HR.out.1.alloc _) HR.out.2).mono ?_
  rintro x w1 ⟨rfl, hm, hb⟩
  have hb0 : But b w w1 := ((But.refl b w).next (by omega) ((Below.refl _ _).alloc (Nat.le_refl _) _)).trans hb
  go_wp2_with fail
  go_ret
  exact ⟨rfl, hm, hb0⟩
theorem heldTree_any (b c : Nat) (f : Nat → Value) (w : World) (hrow : w.rowIs b 42 128 f) (hbare : Bare f) (hm : Marked f 32) :
    Calls Try.prog 18 #[.agg #[.slice (some ⟨b, 0, none⟩) 32 c], .int .i64 1] w fun e w' => e = .returned (.int .i64 97) ∧ Below w.heap.size w w' := by
  have HR : Hid (w.rowIs b 42 128 f ∧ Bare f ∧ Marked f 32) := ⟨hrow, hbare, hm⟩
  clear hrow hbare hm
  go_enter Try.func18, Try.ntmps18
  go_wp2_with fail
  refine (heldObjS_any b c f _ (HR.out.1.alloc _) HR.out.2.1 HR.out.2.2).mono ?_
  rintro x w1 ⟨rfl, hb⟩
  go_wp2_with fail
  go_ret
  exact ⟨rfl, Below.trans ((Below.refl _ _).alloc (Nat.le_refl _) _) (hb.mono (by simp))⟩

def openT : List LObj := (List.range 32).map fun i => if i = 0 then ⟨2, 1, ⟨#[]⟩, []⟩ else ⟨0, 0, ⟨#[]⟩, []⟩
theorem open_objs_at {w : World} {b : Nat} (h : w.rowIs b 42 128 openF) : ObjsAt w 0 w.heap.size (some ⟨b, 0, none⟩) 32 openT := by
  refine ⟨by simp [openT], by unfold maxLen; omega, fun _ => ⟨b, 0, rfl, Nat.zero_le _, h.lt, fun i hi => ?_⟩⟩
  refine ⟨if i = 0 then ⟨2, 1, ⟨#[]⟩, []⟩ else ⟨0, 0, ⟨#[]⟩, []⟩, none, 0, 0, ?_, ?_, ?_, ?_, ?_, ?_, ?_⟩
  · simp [openT, hi]
  · by_cases e : i = 0
    · rw [if_pos e]; exact Nat.zero_le _
    · rw [if_neg e]; exact Nat.zero_le _
  · rw [Nat.zero_add, h.cell (by omega)]
    by_cases e : i = 0
    · subst e; rfl
    · unfold openF; rw [if_neg (by omega), if_neg (by omega), if_neg (by omega), if_neg (by omega), if_neg e]
  · rw [Nat.zero_add, h.cell (by omega)]
    by_cases e : i = 0
    · subst e; rfl
    · unfold openF; rw [if_neg (by omega), if_neg (by omega), if_neg (by omega), if_neg (by omega), if_neg e]
  · rw [Nat.zero_add, h.cell (by omega)]
    by_cases e : i = 0
    · subst e; rfl
    · unfold openF; rw [if_neg (by omega), if_neg (by omega), if_pos (by omega), if_neg e]
  · rw [Nat.zero_add, h.cell (by omega)]
    unfold openF; rw [if_neg (by omega), if_neg (by omega), if_neg (by omega), if_pos (by omega)]
  · by_cases e : i = 0
    · rw [if_pos e]; exact ⟨rfl, by simp, fun h => absurd rfl h⟩
    · rw [if_neg e]; exact ⟨rfl, by simp, fun h => absurd rfl h⟩
end Go.Proofs.Ytppagjgpfmnekaa
