/- KeepOpen of both sides; clients told as one, marked and held. -/
import Derived.Test.YtppagjgpfmnekaaMark
import Derived.OpenShut
import Derived.ShutString
import Derived.ChangeOld
import Derived.RowKitTokens
import Derived.ProofKit
namespace Go.Proofs.Ytppagjgpfmnekaa
open Go.RowKit

def zrow (z : Array Value) (i : Nat) : Value := z[i]?.getD default
theorem zrow_new (W : World) (z : Array Value) (t : TypeId) : (W.alloc (.cells z t)).rowIs W.heap.size t z.size (zrow z) := World.rowIs_alloc W z t (zrow z) (fun i hi => by unfold zrow; rw [Array.getElem?_eq_getElem hi]; rfl)
theorem eqOpS_nil (w : World) : Calls Try.prog 13 #[.slice none 0 0, .slice none 0 0] w fun e w' => e = .returned (.bool true) ∧ w' = w := by
  go_enter Try.func13, Try.ntmps13
  go_wp2_with fail
  go_loopg [5] 0 (fun g i wr => i = .int .i64 0 ∧ wr = w)
  case atStart => exact ⟨rfl, rfl⟩
  case round =>
    obtain ⟨rfl, rfl⟩ := hrel
    go_wp2_with fail
    go_ret
    exact ⟨rfl, rfl⟩
theorem eqOpSS_nil (w : World) : Calls Try.prog 14 #[.slice none 0 0, .slice none 0 0] w fun e w' => e = .returned (.bool true) ∧ w' = w := by
  go_enter Try.func14, Try.ntmps14
  go_wp2_with fail
  go_loopg [5] 0 (fun g i wr => i = .int .i64 0 ∧ wr = w)
  case atStart => exact ⟨rfl, rfl⟩
  case round =>
    obtain ⟨rfl, rfl⟩ := hrel
    go_wp2_with fail
    go_ret
    exact ⟨rfl, rfl⟩
theorem markOpS_nil (k : Int) (w : World) : Calls Try.prog 16 #[.slice none 0 0, .int .i64 k] w fun e w' => e = .returned (.int .i64 k) ∧ w' = w := by
  go_enter Try.func16, Try.ntmps16
  go_wp2_with fail
  go_loopg [1, 5] 0 (fun g x i wr => x = .int .i64 k ∧ i = .int .i64 0 ∧ wr = w)
  case atStart => exact ⟨rfl, rfl, rfl⟩
  case round =>
    obtain ⟨rfl, rfl, rfl⟩ := hrel
    go_wp2_with fail
    go_ret
    exact ⟨rfl, rfl⟩
theorem markOpSS_nil (k : Int) (w : World) : Calls Try.prog 17 #[.slice none 0 0, .int .i64 k] w fun e w' => e = .returned (.int .i64 k) ∧ w' = w := by
  go_enter Try.func17, Try.ntmps17
  go_wp2_with fail
  go_loopg [1, 5] 0 (fun g x i wr => x = .int .i64 k ∧ i = .int .i64 0 ∧ wr = w)
  case atStart => exact ⟨rfl, rfl, rfl⟩
  case round =>
    obtain ⟨rfl, rfl, rfl⟩ := hrel
    go_wp2_with fail
    go_ret
    exact ⟨rfl, rfl⟩
theorem heldOpS_nil (k : Int) (w : World) : Calls Try.prog 19 #[.slice none 0 0, .int .i64 k] w fun e w' => e = .returned (.int .i64 k) ∧ w' = w := by
  go_enter Try.func19, Try.ntmps19
  go_wp2_with fail
  go_loopg [1, 5] 0 (fun g x i wr => x = .int .i64 k ∧ i = .int .i64 0 ∧ wr = w)
  case atStart => exact ⟨rfl, rfl, rfl⟩
  case round =>
    obtain ⟨rfl, rfl, rfl⟩ := hrel
    go_wp2_with fail
    go_ret
    exact ⟨rfl, rfl⟩
theorem heldOpSS_nil (k : Int) (w : World) : Calls Try.prog 20 #[.slice none 0 0, .int .i64 k] w fun e w' => e = .returned (.int .i64 k) ∧ w' = w := by
  go_enter Try.func20, Try.ntmps20
  go_wp2_with fail
  go_loopg [1, 5] 0 (fun g x i wr => x = .int .i64 k ∧ i = .int .i64 0 ∧ wr = w)
  case atStart => exact ⟨rfl, rfl, rfl⟩
  case round =>
    obtain ⟨rfl, rfl, rfl⟩ := hrel
    go_wp2_with fail
    go_ret
    exact ⟨rfl, rfl⟩
theorem markObjS_nil (k : Int) (w : World) : Calls Try.prog 23 #[.slice none 0 0, .int .i64 k] w fun e w' => e = .returned (.int .i64 k) ∧ w' = w := by
  go_enter Try.func23, Try.ntmps23
  go_wp2_with fail
  go_loopg [1, 5] 0 (fun g x i wr => x = .int .i64 k ∧ i = .int .i64 0 ∧ wr = w)
  case atStart => exact ⟨rfl, rfl, rfl⟩
  case round =>
    obtain ⟨rfl, rfl, rfl⟩ := hrel
    go_wp2_with fail
    go_ret
    exact ⟨rfl, rfl⟩
theorem heldObjS_nil (k : Int) (w : World) : Calls Try.prog 25 #[.slice none 0 0, .int .i64 k] w fun e w' => e = .returned (.int .i64 k) ∧ w' = w := by
  go_enter Try.func25, Try.ntmps25
  go_wp2_with fail
  go_loopg [1, 5] 0 (fun g x i wr => x = .int .i64 k ∧ i = .int .i64 0 ∧ wr = w)
  case atStart => exact ⟨rfl, rfl, rfl⟩
  case round =>
    obtain ⟨rfl, rfl, rfl⟩ := hrel
    go_wp2_with fail
    go_ret
    exact ⟨rfl, rfl⟩
theorem markTree_nil (w : World) : Calls Try.prog 15 #[.agg #[.slice none 0 0], .int .i64 1] w fun e w' => e = .returned (.int .i64 1) ∧ Below w.heap.size w w' := by
  go_enter Try.func15, Try.ntmps15
  go_wp2_with fail
  refine (markObjS_nil 1 _).mono ?_
  rintro e w1 ⟨rfl, rfl⟩
  go_wp2_with fail
  go_ret
  exact ⟨rfl, (Below.refl _ _).alloc (Nat.le_refl _) _⟩
theorem heldTree_nil (w : World) : Calls Try.prog 18 #[.agg #[.slice none 0 0], .int .i64 1] w fun e w' => e = .returned (.int .i64 1) ∧ Below w.heap.size w w' := by
  go_enter Try.func18, Try.ntmps18
  go_wp2_with fail
  refine (heldObjS_nil 1 _).mono ?_
  rintro e w1 ⟨rfl, rfl⟩
  go_wp2_with fail
  go_ret
  exact ⟨rfl, (Below.refl _ _).alloc (Nat.le_refl _) _⟩

theorem isClient_any (q : Int) (w : World) : Calls Try.prog 10 #[.int .i64 q] w fun e w' => e = .returned (.bool (decide (0 ≤ q) && decide (q < 3))) ∧ w' = w := by
  by_cases h0 : 0 ≤ q
  · by_cases h3 : q < 3
    · have h9 : (decide (0 ≤ q) && decide (q < 3)) = true := by simp; omega
      rw [h9]
      clear h9
      go_enter Try.func10, Try.ntmps10
      go_wp2
      go_ret
      exact ⟨rfl, rfl⟩
    · have h9 : (decide (0 ≤ q) && decide (q < 3)) = false := by simp; omega
      rw [h9]
      clear h9
      go_enter Try.func10, Try.ntmps10
      go_wp2
      go_ret
      exact ⟨rfl, rfl⟩
  · have h9 : (decide (0 ≤ q) && decide (q < 3)) = false := by simp; omega
    rw [h9]
    clear h9
    go_enter Try.func10, Try.ntmps10
    go_wp2
    go_ret
    exact ⟨rfl, rfl⟩

/-- A client at its beginning: the tree of one's own, and nothing else. -/
def KOpen (w : World) (q : Int) (e : Ending) (w' : World) : Prop := ∃ b, e = .returned (.agg #[.int .i64 q, .int .i64 0, .slice (some ⟨b, 0, none⟩) 32 32, .bool false, .slice none 0 0, .slice none 0 0, .slice none 0 0]) ∧ w.heap.size ≤ b ∧ w'.rowIs b 42 128 openF
def KNone (e : Ending) : Prop := e = .returned (.agg #[.int .i64 0, .int .i64 0, .slice none 0 0, .bool false, .slice none 0 0, .slice none 0 0, .slice none 0 0])
def kb (q : Int) : Bool := decide (0 ≤ q) && decide (q < 3)
def KEnd (w : World) (q : Int) (e : Ending) (w' : World) : Prop := (if kb q = true then KOpen w q e w' else KNone e) ∧ Below w.heap.size w w'
set_option maxHeartbeats 16000000 in
theorem specKeepOpen (q : Int) (w : World) : Calls Try.prog 4 #[.int .i64 q] w fun e w' => KEnd w q e w' := by
  by_cases h0 : q < 0
  · have hv : kb q = false := by unfold kb; simp; omega
    go_enter Try.func4, Try.ntmps4
    go_wp2_with fail
    refine bodyPost_ret (v := .agg #[.int .i64 0, .int .i64 0, .slice none 0 0, .bool false, .slice none 0 0, .slice none 0 0, .slice none 0 0]) (by simp [results, Try.results4, go_sem]) rfl ⟨by rw [if_neg (by rw [hv]; simp)]; rfl, by repeat (first | exact (Below.refl _ _).alloc (Nat.le_refl _) _ | refine Below.setCell ?_ (by simp <;> omega) _)⟩
  by_cases h3 : 3 ≤ q
  · have hv : kb q = false := by unfold kb; simp; omega
    go_enter Try.func4, Try.ntmps4
    go_wp2_with fail
    refine bodyPost_ret (v := .agg #[.int .i64 0, .int .i64 0, .slice none 0 0, .bool false, .slice none 0 0, .slice none 0 0, .slice none 0 0]) (by simp [results, Try.results4, go_sem]) rfl ⟨by rw [if_neg (by rw [hv]; simp)]; rfl, by repeat (first | exact (Below.refl _ _).alloc (Nat.le_refl _) _ | refine Below.setCell ?_ (by simp <;> omega) _)⟩
  have hv : kb q = true := by unfold kb; simp; omega
  go_enter Try.func4, Try.ntmps4
  go_wp2_with fail
  refine (specOpen _).mono ?_
  rintro e w2 ⟨⟨b, rfl, hb, hr⟩, hbw⟩
  have hlo : w.heap.size + 1 ≤ b := by simpa using hb
  have HR1 : Hid (w2.rowIs b 42 128 openF) := hr
  have HV : Hid (kb q = true) := hv
  have c0 : w2.cell? ⟨w.heap.size, 0, none⟩ = some (.int .i64 0) := by rw [hbw.cell (by simp)]; simp [go_sem]
  have c1 : w2.cell? ⟨w.heap.size, 1, none⟩ = some (.int .i64 0) := by rw [hbw.cell (by simp)]; simp [go_sem]
  have c2 : w2.cell? ⟨w.heap.size, 2, none⟩ = some (.slice none 0 0) := by rw [hbw.cell (by simp)]; simp [go_sem]
  have c3 : w2.cell? ⟨w.heap.size, 3, none⟩ = some (.bool false) := by rw [hbw.cell (by simp)]; simp [go_sem]
  have c4 : w2.cell? ⟨w.heap.size, 4, none⟩ = some (.slice none 0 0) := by rw [hbw.cell (by simp)]; simp [go_sem]
  have c5 : w2.cell? ⟨w.heap.size, 5, none⟩ = some (.slice none 0 0) := by rw [hbw.cell (by simp)]; simp [go_sem]
  have c6 : w2.cell? ⟨w.heap.size, 6, none⟩ = some (.slice none 0 0) := by rw [hbw.cell (by simp)]; simp [go_sem]
  have z0 : ∀ o, w2.frozen? ⟨w.heap.size, o, none⟩ = false := fun o => by rw [hbw.frozen (by simp)]; simp [go_sem]
  have hB : Below w.heap.size w w2 := ((Below.refl _ _).alloc (Nat.le_refl _) _).trans (hbw.mono (by simp))
  clear hr hb hv
  have R0 : w2.rowIs w.heap.size 28 7 (zrow #[.int .i64 0, .int .i64 0, .slice none 0 0, .bool false, .slice none 0 0, .slice none 0 0, .slice none 0 0]) := (zrow_new w #[.int .i64 0, .int .i64 0, .slice none 0 0, .bool false, .slice none 0 0, .slice none 0 0, .slice none 0 0] 28).of_block (hbw.block _ (by simp))
  clear hbw
  go_wp2_with fail
  obtain ⟨W, hW, R7⟩ : ∃ W, W = (((((((w2.setCell ⟨w.heap.size, 0, none⟩ (.int .i64 q)).setCell ⟨w.heap.size, 1, none⟩ (.int .i64 0)).setCell ⟨w.heap.size, 2, none⟩ (.slice (some ⟨b, 0, none⟩) 32 32)).setCell ⟨w.heap.size, 3, none⟩ (.bool false)).setCell ⟨w.heap.size, 4, none⟩ (.slice none 0 0)).setCell ⟨w.heap.size, 5, none⟩ (.slice none 0 0)).setCell ⟨w.heap.size, 6, none⟩ (.slice none 0 0)) ∧ W.rowIs w.heap.size 28 7 (fun i => if i = 6 then .slice none 0 0 else if i = 5 then .slice none 0 0 else if i = 4 then .slice none 0 0 else if i = 3 then .bool false else if i = 2 then .slice (some ⟨b, 0, none⟩) 32 32 else if i = 1 then .int .i64 0 else if i = 0 then .int .i64 q else zrow #[.int .i64 0, .int .i64 0, .slice none 0 0, .bool false, .slice none 0 0, .slice none 0 0, .slice none 0 0] i) := ⟨_, rfl, ((((((R0.set 0 _).set 1 _).set 2 _).set 3 _).set 4 _).set 5 _).set 6 _⟩
  have hbb : W.heap[b]? = w2.heap[b]? := by
    rw [hW]
    have hne : b ≠ w.heap.size := by omega
    rw [Below.heap_setCell _ _ _ b hne, Below.heap_setCell _ _ _ b hne, Below.heap_setCell _ _ _ b hne, Below.heap_setCell _ _ _ b hne, Below.heap_setCell _ _ _ b hne, Below.heap_setCell _ _ _ b hne, Below.heap_setCell _ _ _ b hne]
  have hBW : Below w.heap.size w W := by
    rw [hW]
    exact ((((((hB.setCell (Nat.le_refl _) _).setCell (Nat.le_refl _) _).setCell (Nat.le_refl _) _).setCell (Nat.le_refl _) _).setCell (Nat.le_refl _) _).setCell (Nat.le_refl _) _).setCell (Nat.le_refl _) _
  rw [← hW]
  clear hW R0 c0 c1 c2 c3 c4 c5 c6 z0 hB
  have k0 : W.cell? ⟨w.heap.size, 0, none⟩ = some (.int .i64 q) := (R7.cell (by omega)).trans rfl
  have k1 : W.cell? ⟨w.heap.size, 1, none⟩ = some (.int .i64 0) := (R7.cell (by omega)).trans rfl
  have k2 : W.cell? ⟨w.heap.size, 2, none⟩ = some (.slice (some ⟨b, 0, none⟩) 32 32) := (R7.cell (by omega)).trans rfl
  have k3 : W.cell? ⟨w.heap.size, 3, none⟩ = some (.bool false) := (R7.cell (by omega)).trans rfl
  have k4 : W.cell? ⟨w.heap.size, 4, none⟩ = some (.slice none 0 0) := (R7.cell (by omega)).trans rfl
  have k5 : W.cell? ⟨w.heap.size, 5, none⟩ = some (.slice none 0 0) := (R7.cell (by omega)).trans rfl
  have k6 : W.cell? ⟨w.heap.size, 6, none⟩ = some (.slice none 0 0) := (R7.cell (by omega)).trans rfl
  clear R7
  refine bodyPost_ret (v := .agg #[.int .i64 q, .int .i64 0, .slice (some ⟨b, 0, none⟩) 32 32, .bool false, .slice none 0 0, .slice none 0 0, .slice none 0 0]) (by simp [results, Try.results4, go_sem, k0, k1, k2, k3, k4, k5, k6]) rfl ⟨?_, hBW⟩
  rw [if_pos HV.out]
  exact ⟨b, rfl, by omega, HR1.out.of_block hbb⟩
set_option maxHeartbeats 16000000 in
theorem implKeepOpen (q : Int) (w : World) : Calls Try.prog 5 #[.int .i64 q] w fun e w' => KEnd w q e w' := by
  go_enter Try.func5, Try.ntmps5
  go_wp2_with fail
  refine (isClient_any q _).mono ?_
  rintro e w1 ⟨rfl, rfl⟩
  rcases hv : kb q with _ | _
  · have hv' : (decide (0 ≤ q) && decide (q < 3)) = false := hv
    rw [hv']
    clear hv'
    have HV : Hid (kb q = false) := hv
    clear hv
    go_wp2_with fail
    refine bodyPost_ret (v := .agg #[.int .i64 0, .int .i64 0, .slice none 0 0, .bool false, .slice none 0 0, .slice none 0 0, .slice none 0 0]) (by simp [results, Try.results5, go_sem]) rfl ⟨by rw [if_neg (by rw [HV.out]; simp)]; rfl, by repeat (first | exact (Below.refl _ _).alloc (Nat.le_refl _) _ | refine Below.setCell ?_ (by simp <;> omega) _)⟩
  have hv' : (decide (0 ≤ q) && decide (q < 3)) = true := hv
  rw [hv']
  clear hv'
  have HW : Hid (kb q = true) := hv
  clear hv
  go_wp2_with fail
  refine (implOpen _).mono ?_
  rintro e w2 ⟨⟨b, rfl, hb, hr⟩, hbw⟩
  have hlo : w.heap.size + 1 ≤ b := by simpa using hb
  have HR1 : Hid (w2.rowIs b 42 128 openF) := hr
  have HV : Hid (kb q = true) := HW.out
  have c0 : w2.cell? ⟨w.heap.size, 0, none⟩ = some (.int .i64 0) := by rw [hbw.cell (by simp)]; simp [go_sem]
  have c1 : w2.cell? ⟨w.heap.size, 1, none⟩ = some (.int .i64 0) := by rw [hbw.cell (by simp)]; simp [go_sem]
  have c2 : w2.cell? ⟨w.heap.size, 2, none⟩ = some (.slice none 0 0) := by rw [hbw.cell (by simp)]; simp [go_sem]
  have c3 : w2.cell? ⟨w.heap.size, 3, none⟩ = some (.bool false) := by rw [hbw.cell (by simp)]; simp [go_sem]
  have c4 : w2.cell? ⟨w.heap.size, 4, none⟩ = some (.slice none 0 0) := by rw [hbw.cell (by simp)]; simp [go_sem]
  have c5 : w2.cell? ⟨w.heap.size, 5, none⟩ = some (.slice none 0 0) := by rw [hbw.cell (by simp)]; simp [go_sem]
  have c6 : w2.cell? ⟨w.heap.size, 6, none⟩ = some (.slice none 0 0) := by rw [hbw.cell (by simp)]; simp [go_sem]
  have z0 : ∀ o, w2.frozen? ⟨w.heap.size, o, none⟩ = false := fun o => by rw [hbw.frozen (by simp)]; simp [go_sem]
  have hB : Below w.heap.size w w2 := ((Below.refl _ _).alloc (Nat.le_refl _) _).trans (hbw.mono (by simp))
  clear hr hb HW
  have R0 : w2.rowIs w.heap.size 28 7 (zrow #[.int .i64 0, .int .i64 0, .slice none 0 0, .bool false, .slice none 0 0, .slice none 0 0, .slice none 0 0]) := (zrow_new w #[.int .i64 0, .int .i64 0, .slice none 0 0, .bool false, .slice none 0 0, .slice none 0 0, .slice none 0 0] 28).of_block (hbw.block _ (by simp))
  clear hbw
  go_wp2_with fail
  obtain ⟨W, hW, R7⟩ : ∃ W, W = (((((((w2.setCell ⟨w.heap.size, 0, none⟩ (.int .i64 q)).setCell ⟨w.heap.size, 1, none⟩ (.int .i64 0)).setCell ⟨w.heap.size, 2, none⟩ (.slice (some ⟨b, 0, none⟩) 32 32)).setCell ⟨w.heap.size, 3, none⟩ (.bool false)).setCell ⟨w.heap.size, 4, none⟩ (.slice none 0 0)).setCell ⟨w.heap.size, 5, none⟩ (.slice none 0 0)).setCell ⟨w.heap.size, 6, none⟩ (.slice none 0 0)) ∧ W.rowIs w.heap.size 28 7 (fun i => if i = 6 then .slice none 0 0 else if i = 5 then .slice none 0 0 else if i = 4 then .slice none 0 0 else if i = 3 then .bool false else if i = 2 then .slice (some ⟨b, 0, none⟩) 32 32 else if i = 1 then .int .i64 0 else if i = 0 then .int .i64 q else zrow #[.int .i64 0, .int .i64 0, .slice none 0 0, .bool false, .slice none 0 0, .slice none 0 0, .slice none 0 0] i) := ⟨_, rfl, ((((((R0.set 0 _).set 1 _).set 2 _).set 3 _).set 4 _).set 5 _).set 6 _⟩
  have hbb : W.heap[b]? = w2.heap[b]? := by
    rw [hW]
    have hne : b ≠ w.heap.size := by omega
    rw [Below.heap_setCell _ _ _ b hne, Below.heap_setCell _ _ _ b hne, Below.heap_setCell _ _ _ b hne, Below.heap_setCell _ _ _ b hne, Below.heap_setCell _ _ _ b hne, Below.heap_setCell _ _ _ b hne, Below.heap_setCell _ _ _ b hne]
  have hBW : Below w.heap.size w W := by
    rw [hW]
    exact ((((((hB.setCell (Nat.le_refl _) _).setCell (Nat.le_refl _) _).setCell (Nat.le_refl _) _).setCell (Nat.le_refl _) _).setCell (Nat.le_refl _) _).setCell (Nat.le_refl _) _).setCell (Nat.le_refl _) _
  rw [← hW]
  clear hW R0 c0 c1 c2 c3 c4 c5 c6 z0 hB
  have k0 : W.cell? ⟨w.heap.size, 0, none⟩ = some (.int .i64 q) := (R7.cell (by omega)).trans rfl
  have k1 : W.cell? ⟨w.heap.size, 1, none⟩ = some (.int .i64 0) := (R7.cell (by omega)).trans rfl
  have k2 : W.cell? ⟨w.heap.size, 2, none⟩ = some (.slice (some ⟨b, 0, none⟩) 32 32) := (R7.cell (by omega)).trans rfl
  have k3 : W.cell? ⟨w.heap.size, 3, none⟩ = some (.bool false) := (R7.cell (by omega)).trans rfl
  have k4 : W.cell? ⟨w.heap.size, 4, none⟩ = some (.slice none 0 0) := (R7.cell (by omega)).trans rfl
  have k5 : W.cell? ⟨w.heap.size, 5, none⟩ = some (.slice none 0 0) := (R7.cell (by omega)).trans rfl
  have k6 : W.cell? ⟨w.heap.size, 6, none⟩ = some (.slice none 0 0) := (R7.cell (by omega)).trans rfl
  clear R7
  refine bodyPost_ret (v := .agg #[.int .i64 q, .int .i64 0, .slice (some ⟨b, 0, none⟩) 32 32, .bool false, .slice none 0 0, .slice none 0 0, .slice none 0 0]) (by simp [results, Try.results5, go_sem, k0, k1, k2, k3, k4, k5, k6]) rfl ⟨?_, hBW⟩
  rw [if_pos HV.out]
  exact ⟨b, rfl, by omega, HR1.out.of_block hbb⟩

/-- Two clients of one tree's content are told as one. -/
theorem eqKeep_same (q : Int) (x x' : Option Addr) (n c c' : Nat) (os : List LObj) (L U L' U' : Nat) (w : World) (hU : U ≤ w.heap.size) (hU' : U' ≤ w.heap.size) (H : ObjsAt w L U x n os) (H' : ObjsAt w L' U' x' n os) :
    Calls Try.prog 6 #[.agg #[.int .i64 q, .int .i64 0, .slice x n c, .bool false, .slice none 0 0, .slice none 0 0, .slice none 0 0], .agg #[.int .i64 q, .int .i64 0, .slice x' n c', .bool false, .slice none 0 0, .slice none 0 0, .slice none 0 0]] w fun e w' => e = .returned (.bool true) ∧ Below w.heap.size w w' := by
  have hB : ∀ o1 o2, Below w.heap.size w ((w.alloc o1).alloc o2) := fun o1 o2 => ((Below.refl _ _).alloc (Nat.le_refl _) _).alloc (by simp) _
  go_enter Try.func6, Try.ntmps6
  go_wp2_with fail
  refine (eqTree_same x x' n c c' os L U L' U' _ (by simp; omega) (by simp; omega) (H.below (hB _ _) hU) (H'.below (hB _ _) hU')).mono ?_
  rintro e w1 ⟨rfl, hb1⟩
  obtain ⟨W0, hW0⟩ : ∃ W0, W0 = (w.alloc (.cells #[.int .i64 q, .int .i64 0, .slice x n c, .bool false, .slice none 0 0, .slice none 0 0, .slice none 0 0] 28)).alloc (.cells #[.int .i64 q, .int .i64 0, .slice x' n c', .bool false, .slice none 0 0, .slice none 0 0, .slice none 0 0] 28) := ⟨_, rfl⟩
  have hb0 : Below w.heap.size w W0 := by rw [hW0]; exact hB _ _
  rw [← hW0] at hb1
  have hz : w.heap.size + 1 < W0.heap.size := by rw [hW0]; simp
  have a3 : w1.cell? ⟨w.heap.size, 3, none⟩ = some (.bool false) := by rw [hb1.cell (by simp; omega), hW0]; simp [go_sem]
  have b3 : w1.cell? ⟨w.heap.size + 1, 3, none⟩ = some (.bool false) := by rw [hb1.cell (by simp; omega), hW0]; simp [go_sem]
  have a4 : w1.cell? ⟨w.heap.size, 4, none⟩ = some (.slice none 0 0) := by rw [hb1.cell (by simp; omega), hW0]; simp [go_sem]
  have b4 : w1.cell? ⟨w.heap.size + 1, 4, none⟩ = some (.slice none 0 0) := by rw [hb1.cell (by simp; omega), hW0]; simp [go_sem]
  have a5 : w1.cell? ⟨w.heap.size, 5, none⟩ = some (.slice none 0 0) := by rw [hb1.cell (by simp; omega), hW0]; simp [go_sem]
  have b5 : w1.cell? ⟨w.heap.size + 1, 5, none⟩ = some (.slice none 0 0) := by rw [hb1.cell (by simp; omega), hW0]; simp [go_sem]
  have a6 : w1.cell? ⟨w.heap.size, 6, none⟩ = some (.slice none 0 0) := by rw [hb1.cell (by simp; omega), hW0]; simp [go_sem]
  have b6 : w1.cell? ⟨w.heap.size + 1, 6, none⟩ = some (.slice none 0 0) := by rw [hb1.cell (by simp; omega), hW0]; simp [go_sem]
  have hbw := hb0.trans (hb1.mono hb0.size)
  clear hb1 hb0 hW0 hz hB H H'
  go_wp2_with fail
  refine (eqOpS_nil _).mono ?_
  rintro e w2 ⟨rfl, rfl⟩
  go_wp2_with fail
  refine (eqOpS_nil _).mono ?_
  rintro e w2 ⟨rfl, rfl⟩
  go_wp2_with fail
  refine (eqOpSS_nil _).mono ?_
  rintro e w2 ⟨rfl, rfl⟩
  go_wp2_with fail
  go_ret
  exact ⟨rfl, hbw⟩
theorem markKeep_row (q : Int) (b : Nat) (f : Nat → Value) (w : World) (hrow : w.rowIs b 42 128 f) (hbare : Bare f) : Calls Try.prog 7 #[.agg #[.int .i64 q, .int .i64 0, .slice (some ⟨b, 0, none⟩) 32 32, .bool false, .slice none 0 0, .slice none 0 0, .slice none 0 0], .int .i64 1] w fun e w' => e = .returned (.int .i64 97) ∧ (∃ f', w'.rowIs b 42 128 f' ∧ Bare f' ∧ Marked f' 32) ∧ But b w w' := by
  have hlt := hrow.lt
  have HR : Hid (w.rowIs b 42 128 f ∧ Bare f) := ⟨hrow, hbare⟩
  clear hrow hbare
  have hA : Below w.heap.size w (w.alloc (.cells #[.int .i64 q, .int .i64 0, .slice (some ⟨b, 0, none⟩) 32 32, .bool false, .slice none 0 0, .slice none 0 0, .slice none 0 0] 28)) := (Below.refl _ _).alloc (Nat.le_refl _) _
  have hs : (w.alloc (.cells #[.int .i64 q, .int .i64 0, .slice (some ⟨b, 0, none⟩) 32 32, .bool false, .slice none 0 0, .slice none 0 0, .slice none 0 0] 28)).heap.size = w.heap.size + 1 := by simp
  have a4 : (w.alloc (.cells #[.int .i64 q, .int .i64 0, .slice (some ⟨b, 0, none⟩) 32 32, .bool false, .slice none 0 0, .slice none 0 0, .slice none 0 0] 28)).cell? ⟨w.heap.size, 4, none⟩ = some (.slice none 0 0) := by simp [go_sem]
  have a5 : (w.alloc (.cells #[.int .i64 q, .int .i64 0, .slice (some ⟨b, 0, none⟩) 32 32, .bool false, .slice none 0 0, .slice none 0 0, .slice none 0 0] 28)).cell? ⟨w.heap.size, 5, none⟩ = some (.slice none 0 0) := by simp [go_sem]
  have a6 : (w.alloc (.cells #[.int .i64 q, .int .i64 0, .slice (some ⟨b, 0, none⟩) 32 32, .bool false, .slice none 0 0, .slice none 0 0, .slice none 0 0] 28)).cell? ⟨w.heap.size, 6, none⟩ = some (.slice none 0 0) := by simp [go_sem]
  have HA : Hid ((w.alloc (.cells #[.int .i64 q, .int .i64 0, .slice (some ⟨b, 0, none⟩) 32 32, .bool false, .slice none 0 0, .slice none 0 0, .slice none 0 0] 28)).cell? ⟨w.heap.size, 4, none⟩ = some (.slice none 0 0) ∧ (w.alloc (.cells #[.int .i64 q, .int .i64 0, .slice (some ⟨b, 0, none⟩) 32 32, .bool false, .slice none 0 0, .slice none 0 0, .slice none 0 0] 28)).cell? ⟨w.heap.size, 5, none⟩ = some (.slice none 0 0) ∧ (w.alloc (.cells #[.int .i64 q, .int .i64 0, .slice (some ⟨b, 0, none⟩) 32 32, .bool false, .slice none 0 0, .slice none 0 0, .slice none 0 0] 28)).cell? ⟨w.heap.size, 6, none⟩ = some (.slice none 0 0)) := ⟨a4, a5, a6⟩
  clear a4 a5 a6
  go_enter Try.func7, Try.ntmps7
  go_wp2_with fail
  refine (markTree_any b 32 f _ (HR.out.1.alloc _) HR.out.2).mono ?_
  rintro e w1 ⟨rfl, hm, hb⟩
  have a4 : w1.cell? ⟨w.heap.size, 4, none⟩ = some (.slice none 0 0) := by rw [hb.cell (by simp; omega) (by simp)]; exact HA.out.1
  have a5 : w1.cell? ⟨w.heap.size, 5, none⟩ = some (.slice none 0 0) := by rw [hb.cell (by simp; omega) (by simp)]; exact HA.out.2.1
  have a6 : w1.cell? ⟨w.heap.size, 6, none⟩ = some (.slice none 0 0) := by rw [hb.cell (by simp; omega) (by simp)]; exact HA.out.2.2
  have hbw : But b w w1 := ((But.refl b w).next (by omega) hA).trans hb
  clear hb
  clear HA hA hs
  go_wp2_with fail
  refine (markOpS_nil _ _).mono ?_
  rintro e w2 ⟨rfl, rfl⟩
  go_wp2_with fail
  refine (markOpS_nil _ _).mono ?_
  rintro e w2 ⟨rfl, rfl⟩
  go_wp2_with fail
  refine (markOpSS_nil _ _).mono ?_
  rintro e w2 ⟨rfl, rfl⟩
  go_wp2_with fail
  go_ret
  exact ⟨rfl, hm, hbw⟩
theorem markKeep_nil (q : Int) (w : World) : Calls Try.prog 7 #[.agg #[.int .i64 q, .int .i64 0, .slice none 0 0, .bool false, .slice none 0 0, .slice none 0 0, .slice none 0 0], .int .i64 1] w fun e w' => e = .returned (.int .i64 1) ∧ Below w.heap.size w w' := by
  have hA : Below w.heap.size w (w.alloc (.cells #[.int .i64 q, .int .i64 0, .slice none 0 0, .bool false, .slice none 0 0, .slice none 0 0, .slice none 0 0] 28)) := (Below.refl _ _).alloc (Nat.le_refl _) _
  have hs : (w.alloc (.cells #[.int .i64 q, .int .i64 0, .slice none 0 0, .bool false, .slice none 0 0, .slice none 0 0, .slice none 0 0] 28)).heap.size = w.heap.size + 1 := by simp
  have a4 : (w.alloc (.cells #[.int .i64 q, .int .i64 0, .slice none 0 0, .bool false, .slice none 0 0, .slice none 0 0, .slice none 0 0] 28)).cell? ⟨w.heap.size, 4, none⟩ = some (.slice none 0 0) := by simp [go_sem]
  have a5 : (w.alloc (.cells #[.int .i64 q, .int .i64 0, .slice none 0 0, .bool false, .slice none 0 0, .slice none 0 0, .slice none 0 0] 28)).cell? ⟨w.heap.size, 5, none⟩ = some (.slice none 0 0) := by simp [go_sem]
  have a6 : (w.alloc (.cells #[.int .i64 q, .int .i64 0, .slice none 0 0, .bool false, .slice none 0 0, .slice none 0 0, .slice none 0 0] 28)).cell? ⟨w.heap.size, 6, none⟩ = some (.slice none 0 0) := by simp [go_sem]
  have HA : Hid ((w.alloc (.cells #[.int .i64 q, .int .i64 0, .slice none 0 0, .bool false, .slice none 0 0, .slice none 0 0, .slice none 0 0] 28)).cell? ⟨w.heap.size, 4, none⟩ = some (.slice none 0 0) ∧ (w.alloc (.cells #[.int .i64 q, .int .i64 0, .slice none 0 0, .bool false, .slice none 0 0, .slice none 0 0, .slice none 0 0] 28)).cell? ⟨w.heap.size, 5, none⟩ = some (.slice none 0 0) ∧ (w.alloc (.cells #[.int .i64 q, .int .i64 0, .slice none 0 0, .bool false, .slice none 0 0, .slice none 0 0, .slice none 0 0] 28)).cell? ⟨w.heap.size, 6, none⟩ = some (.slice none 0 0)) := ⟨a4, a5, a6⟩
  clear a4 a5 a6
  go_enter Try.func7, Try.ntmps7
  go_wp2_with fail
  refine (markTree_nil _).mono ?_
  rintro e w1 ⟨rfl, hb⟩
  have a4 : w1.cell? ⟨w.heap.size, 4, none⟩ = some (.slice none 0 0) := by rw [hb.cell (by simp)]; exact HA.out.1
  have a5 : w1.cell? ⟨w.heap.size, 5, none⟩ = some (.slice none 0 0) := by rw [hb.cell (by simp)]; exact HA.out.2.1
  have a6 : w1.cell? ⟨w.heap.size, 6, none⟩ = some (.slice none 0 0) := by rw [hb.cell (by simp)]; exact HA.out.2.2
  have hbw := hA.trans (hb.mono hA.size)
  clear hb
  clear HA hA hs
  go_wp2_with fail
  refine (markOpS_nil _ _).mono ?_
  rintro e w2 ⟨rfl, rfl⟩
  go_wp2_with fail
  refine (markOpS_nil _ _).mono ?_
  rintro e w2 ⟨rfl, rfl⟩
  go_wp2_with fail
  refine (markOpSS_nil _ _).mono ?_
  rintro e w2 ⟨rfl, rfl⟩
  go_wp2_with fail
  go_ret
  exact ⟨rfl, hbw⟩
theorem heldKeep_row (q : Int) (b : Nat) (f : Nat → Value) (w : World) (hrow : w.rowIs b 42 128 f) (hbare : Bare f) (hm : Marked f 32) : Calls Try.prog 8 #[.agg #[.int .i64 q, .int .i64 0, .slice (some ⟨b, 0, none⟩) 32 32, .bool false, .slice none 0 0, .slice none 0 0, .slice none 0 0], .int .i64 1] w fun e w' => e = .returned (.int .i64 97) ∧ Below w.heap.size w w' := by
  have hlt := hrow.lt
  have HR : Hid (w.rowIs b 42 128 f ∧ Bare f ∧ Marked f 32) := ⟨hrow, hbare, hm⟩
  clear hrow hbare hm
  have hA : Below w.heap.size w (w.alloc (.cells #[.int .i64 q, .int .i64 0, .slice (some ⟨b, 0, none⟩) 32 32, .bool false, .slice none 0 0, .slice none 0 0, .slice none 0 0] 28)) := (Below.refl _ _).alloc (Nat.le_refl _) _
  have hs : (w.alloc (.cells #[.int .i64 q, .int .i64 0, .slice (some ⟨b, 0, none⟩) 32 32, .bool false, .slice none 0 0, .slice none 0 0, .slice none 0 0] 28)).heap.size = w.heap.size + 1 := by simp
  have a4 : (w.alloc (.cells #[.int .i64 q, .int .i64 0, .slice (some ⟨b, 0, none⟩) 32 32, .bool false, .slice none 0 0, .slice none 0 0, .slice none 0 0] 28)).cell? ⟨w.heap.size, 4, none⟩ = some (.slice none 0 0) := by simp [go_sem]
  have a5 : (w.alloc (.cells #[.int .i64 q, .int .i64 0, .slice (some ⟨b, 0, none⟩) 32 32, .bool false, .slice none 0 0, .slice none 0 0, .slice none 0 0] 28)).cell? ⟨w.heap.size, 5, none⟩ = some (.slice none 0 0) := by simp [go_sem]
  have a6 : (w.alloc (.cells #[.int .i64 q, .int .i64 0, .slice (some ⟨b, 0, none⟩) 32 32, .bool false, .slice none 0 0, .slice none 0 0, .slice none 0 0] 28)).cell? ⟨w.heap.size, 6, none⟩ = some (.slice none 0 0) := by simp [go_sem]
  have HA : Hid ((w.alloc (.cells #[.int .i64 q, .int .i64 0, .slice (some ⟨b, 0, none⟩) 32 32, .bool false, .slice none 0 0, .slice none 0 0, .slice none 0 0] 28)).cell? ⟨w.heap.size, 4, none⟩ = some (.slice none 0 0) ∧ (w.alloc (.cells #[.int .i64 q, .int .i64 0, .slice (some ⟨b, 0, none⟩) 32 32, .bool false, .slice none 0 0, .slice none 0 0, .slice none 0 0] 28)).cell? ⟨w.heap.size, 5, none⟩ = some (.slice none 0 0) ∧ (w.alloc (.cells #[.int .i64 q, .int .i64 0, .slice (some ⟨b, 0, none⟩) 32 32, .bool false, .slice none 0 0, .slice none 0 0, .slice none 0 0] 28)).cell? ⟨w.heap.size, 6, none⟩ = some (.slice none 0 0)) := ⟨a4, a5, a6⟩
  clear a4 a5 a6
  go_enter Try.func8, Try.ntmps8
  go_wp2_with fail
  refine (heldTree_any b 32 f _ (HR.out.1.alloc _) HR.out.2.1 HR.out.2.2).mono ?_
  rintro e w1 ⟨rfl, hb⟩
  have a4 : w1.cell? ⟨w.heap.size, 4, none⟩ = some (.slice none 0 0) := by rw [hb.cell (by simp)]; exact HA.out.1
  have a5 : w1.cell? ⟨w.heap.size, 5, none⟩ = some (.slice none 0 0) := by rw [hb.cell (by simp)]; exact HA.out.2.1
  have a6 : w1.cell? ⟨w.heap.size, 6, none⟩ = some (.slice none 0 0) := by rw [hb.cell (by simp)]; exact HA.out.2.2
  have hbw := hA.trans (hb.mono hA.size)
  clear hb
  clear HA hA hs
  go_wp2_with fail
  refine (heldOpS_nil _ _).mono ?_
  rintro e w2 ⟨rfl, rfl⟩
  go_wp2_with fail
  refine (heldOpS_nil _ _).mono ?_
  rintro e w2 ⟨rfl, rfl⟩
  go_wp2_with fail
  refine (heldOpSS_nil _ _).mono ?_
  rintro e w2 ⟨rfl, rfl⟩
  go_wp2_with fail
  go_ret
  exact ⟨rfl, hbw⟩
theorem heldKeep_nil (q : Int) (w : World) : Calls Try.prog 8 #[.agg #[.int .i64 q, .int .i64 0, .slice none 0 0, .bool false, .slice none 0 0, .slice none 0 0, .slice none 0 0], .int .i64 1] w fun e w' => e = .returned (.int .i64 1) ∧ Below w.heap.size w w' := by
  have hA : Below w.heap.size w (w.alloc (.cells #[.int .i64 q, .int .i64 0, .slice none 0 0, .bool false, .slice none 0 0, .slice none 0 0, .slice none 0 0] 28)) := (Below.refl _ _).alloc (Nat.le_refl _) _
  have hs : (w.alloc (.cells #[.int .i64 q, .int .i64 0, .slice none 0 0, .bool false, .slice none 0 0, .slice none 0 0, .slice none 0 0] 28)).heap.size = w.heap.size + 1 := by simp
  have a4 : (w.alloc (.cells #[.int .i64 q, .int .i64 0, .slice none 0 0, .bool false, .slice none 0 0, .slice none 0 0, .slice none 0 0] 28)).cell? ⟨w.heap.size, 4, none⟩ = some (.slice none 0 0) := by simp [go_sem]
  have a5 : (w.alloc (.cells #[.int .i64 q, .int .i64 0, .slice none 0 0, .bool false, .slice none 0 0, .slice none 0 0, .slice none 0 0] 28)).cell? ⟨w.heap.size, 5, none⟩ = some (.slice none 0 0) := by simp [go_sem]
  have a6 : (w.alloc (.cells #[.int .i64 q, .int .i64 0, .slice none 0 0, .bool false, .slice none 0 0, .slice none 0 0, .slice none 0 0] 28)).cell? ⟨w.heap.size, 6, none⟩ = some (.slice none 0 0) := by simp [go_sem]
  have HA : Hid ((w.alloc (.cells #[.int .i64 q, .int .i64 0, .slice none 0 0, .bool false, .slice none 0 0, .slice none 0 0, .slice none 0 0] 28)).cell? ⟨w.heap.size, 4, none⟩ = some (.slice none 0 0) ∧ (w.alloc (.cells #[.int .i64 q, .int .i64 0, .slice none 0 0, .bool false, .slice none 0 0, .slice none 0 0, .slice none 0 0] 28)).cell? ⟨w.heap.size, 5, none⟩ = some (.slice none 0 0) ∧ (w.alloc (.cells #[.int .i64 q, .int .i64 0, .slice none 0 0, .bool false, .slice none 0 0, .slice none 0 0, .slice none 0 0] 28)).cell? ⟨w.heap.size, 6, none⟩ = some (.slice none 0 0)) := ⟨a4, a5, a6⟩
  clear a4 a5 a6
  go_enter Try.func8, Try.ntmps8
  go_wp2_with fail
  refine (heldTree_nil _).mono ?_
  rintro e w1 ⟨rfl, hb⟩
  have a4 : w1.cell? ⟨w.heap.size, 4, none⟩ = some (.slice none 0 0) := by rw [hb.cell (by simp)]; exact HA.out.1
  have a5 : w1.cell? ⟨w.heap.size, 5, none⟩ = some (.slice none 0 0) := by rw [hb.cell (by simp)]; exact HA.out.2.1
  have a6 : w1.cell? ⟨w.heap.size, 6, none⟩ = some (.slice none 0 0) := by rw [hb.cell (by simp)]; exact HA.out.2.2
  have hbw := hA.trans (hb.mono hA.size)
  clear hb
  clear HA hA hs
  go_wp2_with fail
  refine (heldOpS_nil _ _).mono ?_
  rintro e w2 ⟨rfl, rfl⟩
  go_wp2_with fail
  refine (heldOpS_nil _ _).mono ?_
  rintro e w2 ⟨rfl, rfl⟩
  go_wp2_with fail
  refine (heldOpSS_nil _ _).mono ?_
  rintro e w2 ⟨rfl, rfl⟩
  go_wp2_with fail
  go_ret
  exact ⟨rfl, hbw⟩

end Go.Proofs.Ytppagjgpfmnekaa
