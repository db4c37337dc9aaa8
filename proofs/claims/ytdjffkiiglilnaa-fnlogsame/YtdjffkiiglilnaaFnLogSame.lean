/-
  At every code the call of laws.FnLogSame returns true: of the two logs that are drawn by it the program tells whether they are one as the specification does, a log is one with itself, and either way round; of a log that is drawn it tells whether it is ok as the specification does; one that is ok is not one with another Seq or a base more, and that is not ok; the code reads behind the call as it did. No condition.
-/
import Derived.Test.YtdjffkiiglilnaaLogY
import Derived.Test.YtdjffkiiglilnaaClosed
import Derived.Deep.DeepCutAuto
import Derived.ProofKit
import Derived.OpenShut
import Derived.ShutString
import Derived.ChangeOld
namespace Go.Proofs.Ytdjffkiiglilnaa
open Go.RowKit

theorem logEq_seq (l : LLog) (s : Int) (h : s ≠ l.seq) : logEq { l with seq := s } l = false := by
  have : (s == l.seq) = false := by simpa using h
  simp [logEq, this]
theorem logEq_more (l : LLog) (b : LBase) : logEq { l with bases := l.bases ++ [b] } l = false := by
  have : listEq baseEq (l.bases ++ [b]) l.bases = false := listEq_len (by simp)
  simp [logEq, this]
theorem logOk_more (l : LLog) (b : LBase) (h : logOk l = true) : logOk { l with bases := l.bases ++ [b] } = false := by
  simp only [logOk, Bool.and_eq_true] at h
  have h1 : l.bases.length = (logIds l.list).length := by
    rcases Nat.decEq l.bases.length (logIds l.list).length with hn | hn
    · rw [basesFor_len hn] at h; cases h.2
    · exact hn
  have h2 : basesFor (l.bases ++ [b]) (logIds l.list) = false := basesFor_len (by simp; omega)
  simp [logOk, h2]

set_option maxHeartbeats 8000000 in
set_option maxRecDepth 20000 in
theorem walkLogSameL (a : Option Addr) (n c : Nat) (zs : List Int) (w : World) (hc : n ≤ c) (hcb : n ≤ maxLen) (H : BytesAt w w.heap.size a n zs) :
    Calls Try.prog 4 #[.slice a n c] w fun e w' => e = .returned (.bool true) ∧ Below w.heap.size w w' := by
  unfold maxLen at hcb
  by_cases hbig : 1048576 < n
  · go_enter Try.func4, Try.ntmps4
    go_wp2_with fail
    go_ret
    exact ⟨rfl, Below.refl _ _⟩
  go_enter Try.func4, Try.ntmps4
  go_wp2_with fail
  refine (drawLogSame a n c zs w (by omega) hc H).mono ?_
  rintro e W1 ⟨⟨x1, y1, a1, n1, k1, a1', n1', k1', l1, x2, y2, a2, n2, k2, a2', n2', k2', l2, rfl, ⟨hL1, _⟩, hL2, _⟩, hb1⟩
  have hal1 : Below W1.heap.size W1 ((W1.alloc (Obj.cells #[.int .i64 x1, .int .i64 y1, .slice a1 n1 k1, .slice a1' n1' k1'] 29)).alloc (Obj.cells #[.int .i64 x2, .int .i64 y2, .slice a2 n2 k2, .slice a2' n2' k2'] 29)) := ((Below.refl _ _).alloc (Nat.le_refl _) _).alloc (by simp) _
  have hA2 : Hid (Below w.heap.size w ((W1.alloc (Obj.cells #[.int .i64 x1, .int .i64 y1, .slice a1 n1 k1, .slice a1' n1' k1'] 29)).alloc (Obj.cells #[.int .i64 x2, .int .i64 y2, .slice a2 n2 k2, .slice a2' n2' k2'] 29))) := hb1.trans (hal1.mono hb1.size)
  have hB1 : Hid (LogBox ((W1.alloc (Obj.cells #[.int .i64 x1, .int .i64 y1, .slice a1 n1 k1, .slice a1' n1' k1'] 29)).alloc (Obj.cells #[.int .i64 x2, .int .i64 y2, .slice a2 n2 k2, .slice a2' n2' k2'] 29)) W1.heap.size x1 y1 a1 n1 k1 a1' n1' k1') := ⟨by simp [go_sem], by simp [go_sem], by simp [go_sem], by simp [go_sem]⟩
  have hB2 : Hid (LogBox ((W1.alloc (Obj.cells #[.int .i64 x1, .int .i64 y1, .slice a1 n1 k1, .slice a1' n1' k1'] 29)).alloc (Obj.cells #[.int .i64 x2, .int .i64 y2, .slice a2 n2 k2, .slice a2' n2' k2'] 29)) (W1.heap.size + 1) x2 y2 a2 n2 k2 a2' n2' k2') := ⟨by simp [go_sem], by simp [go_sem], by simp [go_sem], by simp [go_sem]⟩
  have hLa : Hid (LogAt ((W1.alloc (Obj.cells #[.int .i64 x1, .int .i64 y1, .slice a1 n1 k1, .slice a1' n1' k1'] 29)).alloc (Obj.cells #[.int .i64 x2, .int .i64 y2, .slice a2 n2 k2, .slice a2' n2' k2'] 29)) w.heap.size W1.heap.size x1 y1 a1 n1 a1' n1' l1) := hL1.below hal1 (Nat.le_refl _)
  have hLb : Hid (LogAt ((W1.alloc (Obj.cells #[.int .i64 x1, .int .i64 y1, .slice a1 n1 k1, .slice a1' n1' k1'] 29)).alloc (Obj.cells #[.int .i64 x2, .int .i64 y2, .slice a2 n2 k2, .slice a2' n2' k2'] 29)) w.heap.size W1.heap.size x2 y2 a2 n2 a2' n2' l2) := hL2.below hal1 (Nat.le_refl _)
  have hz2 : W1.heap.size + 2 ≤ ((W1.alloc (Obj.cells #[.int .i64 x1, .int .i64 y1, .slice a1 n1 k1, .slice a1' n1' k1'] 29)).alloc (Obj.cells #[.int .i64 x2, .int .i64 y2, .slice a2 n2 k2, .slice a2' n2' k2'] 29)).heap.size := by simp
  clear hL1 hL2 hal1
  go_wp2_with fail
  generalize hW2 : (W1.alloc (Obj.cells #[.int .i64 x1, .int .i64 y1, .slice a1 n1 k1, .slice a1' n1' k1'] 29)).alloc (Obj.cells #[.int .i64 x2, .int .i64 y2, .slice a2 n2 k2, .slice a2' n2' k2'] 29) = W2 at *
  obtain ⟨T4, hT4⟩ : ∃ t, t = W1.heap.size + 1 := ⟨_, rfl⟩
  rw [← hT4] at hB2 ⊢
  have h34 : W1.heap.size < T4 := by omega
  have h42 : T4 < W2.heap.size := by omega
  generalize hT3 : W1.heap.size = T3 at *
  clear hW2 hT4 hT3 hb1
  refine (drawLogOk a n c zs W2 (by omega) hc ((H.below hA2.out (Nat.le_refl _)).wide hA2.out.size)).mono ?_
  rintro e W3 ⟨⟨x3, y3, a3, n3, k3, a3', n3', k3', l3, rfl, hL3, hn3, hk3, hk3'⟩, hb3⟩
  have HX : Hid (Tri w (W3.alloc (Obj.cells #[.int .i64 x3, .int .i64 y3, .slice a3 n3 k3, .slice a3' n3' k3'] 29)) T3 T4 W3.heap.size (W3.heap.size + 1) x1 y1 a1 n1 k1 a1' n1' k1' l1 x2 y2 a2 n2 k2 a2' n2' k2' l2 x3 y3 a3 n3 k3 a3' n3' k3' l3) := by
    have hal : Below W3.heap.size W3 (W3.alloc (Obj.cells #[.int .i64 x3, .int .i64 y3, .slice a3 n3 k3, .slice a3' n3' k3'] 29)) := (Below.refl _ _).alloc (Nat.le_refl _) _
    have h23 := hb3.size
    have hd : Below W2.heap.size W2 (W3.alloc (Obj.cells #[.int .i64 x3, .int .i64 y3, .slice a3 n3 k3, .slice a3' n3' k3'] 29)) := hb3.trans (hal.mono h23)
    exact ⟨hA2.out.trans (hd.mono hA2.out.size), hB1.out.of (hd.block _ (by omega)), hB2.out.of (hd.block _ h42), ⟨by simp [go_sem], by simp [go_sem], by simp [go_sem], by simp [go_sem]⟩, (hLa.out.below hd (by omega)).wide (Nat.le_refl _) (by omega), (hLb.out.below hd (by omega)).wide (Nat.le_refl _) (by omega), (hL3.below hal (Nat.le_refl _)).wide hA2.out.size (by omega), by simp; omega⟩
  clear hL3 hb3 hA2 hB1 hB2 hLa hLb H hz2
  go_upto_region 5 with fail
  generalize hW4 : W3.alloc (Obj.cells #[.int .i64 x3, .int .i64 y3, .slice a3 n3 k3, .slice a3' n3' k3'] 29) = W4 at *
  obtain ⟨U, hU⟩ : ∃ t, t = W3.heap.size + 1 := ⟨_, rfl⟩
  rw [← hU] at HX
  generalize hT5 : W3.heap.size = T5 at *
  clear hW4 hU hT5
  go_cut [46] (fun x wx => x = .bool false ∧ Tri w wx T3 T4 T5 U x1 y1 a1 n1 k1 a1' n1' k1' l1 x2 y2 a2 n2 k2 a2' n2' k2' l2 x3 y3 a3 n3 k3 a3' n3' k3' l3)
  case first =>
    have hX := HX.out.next (Below.refl _ _).drew
    refine wp_region_held_drew (S := (fun W => LogBox W T3 x1 y1 a1 n1 k1 a1' n1' k1' ∧ LogBox W T4 x2 y2 a2 n2 k2 a2' n2' k2' ∧ LogBox W T5 x3 y3 a3 n3 k3 a3' n3' k3')) (by kernel_rfl) ?_ (fun hHeld => ?_)
    · exact ⟨hX.b1, hX.b2, hX.b3⟩
    refine listH (l2 := #[false, false, false, false, false, false, false, false, false, false, false, false, false, false, false, false, false, false, false, false, false, false, false, false, false, false, false, false, false]) (by kernel_rfl) ?_
    refine takeH (i := 0) (oi := _) (v := ?vk35) 18 #[true, false, false, false, false, false, false, false, false, false, false, false, false, false, false, false, false, false, false, false, false, false, false, false, false, false, false, false, false] rfl (by kernel_rfl) (by kernel_rfl) (by kernel_rfl) rfl (by kernel_rfl) (fun _ _ _ h => h) (Or.inl ⟨by rfl, ?yk35⟩) (by assumption) ?rk35
    case yk35 => (intro w' hSw; obtain ⟨⟨u0, u1, u2, u3⟩, ⟨v0, v1, v2, v3⟩, z0, z1, z2, z3⟩ := hSw; go_simp; try with_reducible rfl)
    simp only [Act.put, List.setIfInBounds_toArray, List.set_cons_succ, List.set_cons_zero]
    refine takeH (i := 1) (oi := _) (v := ?vk36) 19 #[true, true, false, false, false, false, false, false, false, false, false, false, false, false, false, false, false, false, false, false, false, false, false, false, false, false, false, false, false] rfl (by kernel_rfl) (by kernel_rfl) (by kernel_rfl) rfl (by kernel_rfl) (fun _ _ _ h => h) (Or.inl ⟨by rfl, ?yk36⟩) (by assumption) ?rk36
    case yk36 => (intro w' hSw; obtain ⟨⟨u0, u1, u2, u3⟩, ⟨v0, v1, v2, v3⟩, z0, z1, z2, z3⟩ := hSw; go_simp; try with_reducible rfl)
    simp only [Act.put, List.setIfInBounds_toArray, List.set_cons_succ, List.set_cons_zero]
    refine takeH (i := 3) (oi := _) (v := ?vk37) 21 #[true, true, false, true, false, false, false, false, false, false, false, false, false, false, false, false, false, false, false, false, false, false, false, false, false, false, false, false, false] rfl (by kernel_rfl) (by kernel_rfl) (by kernel_rfl) rfl (by kernel_rfl) (fun _ _ _ h => h) (Or.inl ⟨by rfl, ?yk37⟩) (by assumption) ?rk37
    case yk37 => (intro w' hSw; obtain ⟨⟨u0, u1, u2, u3⟩, ⟨v0, v1, v2, v3⟩, z0, z1, z2, z3⟩ := hSw; go_simp; try with_reducible rfl)
    simp only [Act.put, List.setIfInBounds_toArray, List.set_cons_succ, List.set_cons_zero]
    refine takeH (i := 4) (oi := _) (v := ?vk38) 22 #[true, true, false, true, true, false, false, false, false, false, false, false, false, false, false, false, false, false, false, false, false, false, false, false, false, false, false, false, false] rfl (by kernel_rfl) (by kernel_rfl) (by kernel_rfl) rfl (by kernel_rfl) (fun _ _ _ h => h) (Or.inl ⟨by rfl, ?yk38⟩) (by assumption) ?rk38
    case yk38 => (intro w' hSw; obtain ⟨⟨u0, u1, u2, u3⟩, ⟨v0, v1, v2, v3⟩, z0, z1, z2, z3⟩ := hSw; go_simp; try with_reducible rfl)
    simp only [Act.put, List.setIfInBounds_toArray, List.set_cons_succ, List.set_cons_zero]
    refine wpAnyH_ready (rs := [2]) (by kernel_rfl) (by simp) ?_
    refine AllReadyH.cons (o := _) rfl (fun K hK => ?_) AllReadyH.nil
    go_simp
    refine (implLogSame _ _ _ _ _ _ _ _ _ _ _ _ _ _ _ _ l1 l2 _ _ _ _ _ (by have := hX.z; omega) (by have := hX.z; omega) hX.l1 hX.l2).mono ?_
    rintro e V2 ⟨rfl, hb⟩
    have hX := hX.next hb
    clear hb
    go_wp2_with fail
    refine hK.out _ _ ⟨hX.b1, hX.b2, hX.b3⟩ (fun hHeld => ?_)
    clear hK K
    try simp only [Act.put]
    refine listH (l2 := #[true, true, true, true, true, false, false, false, false, false, false, false, false, false, false, false, false, false, false, false, false, false, false, false, false, false, false, false, false]) (by kernel_rfl) ?_
    refine wpAnyH_ready (rs := [5]) (by kernel_rfl) (by simp) ?_
    refine AllReadyH.cons (o := _) rfl (fun K hK => ?_) AllReadyH.nil
    go_simp
    refine (specLogSame _ _ _ _ _ _ _ _ _ _ _ _ _ _ _ _ l1 l2 _ _ _ _ _ (by have := hX.z; omega) (by have := hX.z; omega) hX.l1 hX.l2).mono ?_
    rintro e V5 ⟨rfl, hb⟩
    have hX := hX.next hb
    clear hb
    go_wp2_with fail
    refine hK.out _ _ ⟨hX.b1, hX.b2, hX.b3⟩ (fun hHeld => ?_)
    clear hK K
    try simp only [Act.put]
    refine listH (l2 := #[true, true, true, true, true, true, false, false, false, false, false, false, false, false, false, false, false, false, false, false, false, false, false, false, false, false, false, false, false]) (by kernel_rfl) ?_
    refine takeH (i := 6) (oi := _) (v := (.bool false)) 24 #[true, true, true, true, true, true, true, false, false, false, false, false, false, false, false, false, false, false, false, false, false, false, false, false, false, false, false, false, false] rfl (by kernel_rfl) (by kernel_rfl) (by kernel_rfl) rfl (by kernel_rfl) (fun _ _ _ h => h) (Or.inl ⟨by rfl, ?yk39⟩) (by assumption) ?rk39
    case yk39 => (intro w' hSw; obtain ⟨⟨u0, u1, u2, u3⟩, ⟨v0, v1, v2, v3⟩, z0, z1, z2, z3⟩ := hSw; go_simp)
    simp only [Act.put, List.setIfInBounds_toArray, List.set_cons_succ, List.set_cons_zero]
    refine takeH (i := 7) (oi := _) (v := ?vk40) 25 #[true, true, true, true, true, true, true, true, false, false, false, false, false, false, false, false, false, false, false, false, false, false, false, false, false, false, false, false, false] rfl (by kernel_rfl) (by kernel_rfl) (by kernel_rfl) rfl (by kernel_rfl) (fun _ _ _ h => h) (Or.inl ⟨by rfl, ?yk40⟩) (by assumption) ?rk40
    case yk40 => (intro w' hSw; obtain ⟨⟨u0, u1, u2, u3⟩, ⟨v0, v1, v2, v3⟩, z0, z1, z2, z3⟩ := hSw; go_simp; try with_reducible rfl)
    simp only [Act.put, List.setIfInBounds_toArray, List.set_cons_succ, List.set_cons_zero]
    refine takeH (i := 8) (oi := _) (v := ?vk41) 26 #[true, true, true, true, true, true, true, true, true, false, false, false, false, false, false, false, false, false, false, false, false, false, false, false, false, false, false, false, false] rfl (by kernel_rfl) (by kernel_rfl) (by kernel_rfl) rfl (by kernel_rfl) (fun _ _ _ h => h) (Or.inl ⟨by rfl, ?yk41⟩) (by assumption) ?rk41
    case yk41 => (intro w' hSw; obtain ⟨⟨u0, u1, u2, u3⟩, ⟨v0, v1, v2, v3⟩, z0, z1, z2, z3⟩ := hSw; go_simp; try with_reducible rfl)
    simp only [Act.put, List.setIfInBounds_toArray, List.set_cons_succ, List.set_cons_zero]
    refine takeH (i := 9) (oi := _) (v := ?vk42) 27 #[true, true, true, true, true, true, true, true, true, true, false, false, false, false, false, false, false, false, false, false, false, false, false, false, false, false, false, false, false] rfl (by kernel_rfl) (by kernel_rfl) (by kernel_rfl) rfl (by kernel_rfl) (fun _ _ _ h => h) (Or.inl ⟨by rfl, ?yk42⟩) (by assumption) ?rk42
    case yk42 => (intro w' hSw; obtain ⟨⟨u0, u1, u2, u3⟩, ⟨v0, v1, v2, v3⟩, z0, z1, z2, z3⟩ := hSw; go_simp; try with_reducible rfl)
    simp only [Act.put, List.setIfInBounds_toArray, List.set_cons_succ, List.set_cons_zero]
    refine wpAnyH_ready (rs := [10]) (by kernel_rfl) (by simp) ?_
    refine AllReadyH.cons (o := _) rfl (fun K hK => ?_) AllReadyH.nil
    go_simp
    refine (implLogSame _ _ _ _ _ _ _ _ _ _ _ _ _ _ _ _ l1 l1 _ _ _ _ _ (by have := hX.z; omega) (by have := hX.z; omega) hX.l1 hX.l1).mono ?_
    rintro e V10 ⟨rfl, hb⟩
    have hX := hX.next hb
    clear hb
    rw [logEq_refl]
    go_wp2_with fail
    refine hK.out _ _ ⟨hX.b1, hX.b2, hX.b3⟩ (fun hHeld => ?_)
    clear hK K
    try simp only [Act.put]
    refine listH (l2 := #[true, true, true, true, true, true, true, true, true, true, true, false, false, false, false, false, false, false, false, false, false, false, false, false, false, false, false, false, false]) (by kernel_rfl) ?_
    refine takeH (i := 11) (oi := _) (v := ?vk43) 29 #[true, true, true, true, true, true, true, true, true, true, true, true, false, false, false, false, false, false, false, false, false, false, false, false, false, false, false, false, false] rfl (by kernel_rfl) (by kernel_rfl) (by kernel_rfl) rfl (by kernel_rfl) (fun _ _ _ h => h) (Or.inl ⟨by rfl, ?yk43⟩) (by assumption) ?rk43
    case yk43 => (intro w' hSw; obtain ⟨⟨u0, u1, u2, u3⟩, ⟨v0, v1, v2, v3⟩, z0, z1, z2, z3⟩ := hSw; go_simp; try with_reducible rfl)
    simp only [Act.put, List.setIfInBounds_toArray, List.set_cons_succ, List.set_cons_zero]
    refine takeH (i := 12) (oi := _) (v := (.bool false)) 30 #[true, true, true, true, true, true, true, true, true, true, true, true, true, false, false, false, false, false, false, false, false, false, false, false, false, false, false, false, false] rfl (by kernel_rfl) (by kernel_rfl) (by kernel_rfl) rfl (by kernel_rfl) (fun _ _ _ h => h) (Or.inl ⟨by rfl, ?yk44⟩) (by assumption) ?rk44
    case yk44 => (intro w' hSw; obtain ⟨⟨u0, u1, u2, u3⟩, ⟨v0, v1, v2, v3⟩, z0, z1, z2, z3⟩ := hSw; go_simp; try with_reducible rfl)
    simp only [Act.put, List.setIfInBounds_toArray, List.set_cons_succ, List.set_cons_zero]
    refine takeH (i := 13) (oi := _) (v := ?vk45) 31 #[true, true, true, true, true, true, true, true, true, true, true, true, true, true, false, false, false, false, false, false, false, false, false, false, false, false, false, false, false] rfl (by kernel_rfl) (by kernel_rfl) (by kernel_rfl) rfl (by kernel_rfl) (fun _ _ _ h => h) (Or.inl ⟨by rfl, ?yk45⟩) (by assumption) ?rk45
    case yk45 => (intro w' hSw; obtain ⟨⟨u0, u1, u2, u3⟩, ⟨v0, v1, v2, v3⟩, z0, z1, z2, z3⟩ := hSw; go_simp; try with_reducible rfl)
    simp only [Act.put, List.setIfInBounds_toArray, List.set_cons_succ, List.set_cons_zero]
    refine takeH (i := 14) (oi := _) (v := ?vk46) 32 #[true, true, true, true, true, true, true, true, true, true, true, true, true, true, true, false, false, false, false, false, false, false, false, false, false, false, false, false, false] rfl (by kernel_rfl) (by kernel_rfl) (by kernel_rfl) rfl (by kernel_rfl) (fun _ _ _ h => h) (Or.inl ⟨by rfl, ?yk46⟩) (by assumption) ?rk46
    case yk46 => (intro w' hSw; obtain ⟨⟨u0, u1, u2, u3⟩, ⟨v0, v1, v2, v3⟩, z0, z1, z2, z3⟩ := hSw; go_simp; try with_reducible rfl)
    simp only [Act.put, List.setIfInBounds_toArray, List.set_cons_succ, List.set_cons_zero]
    refine takeH (i := 16) (oi := _) (v := ?vk47) 34 #[true, true, true, true, true, true, true, true, true, true, true, true, true, true, true, false, true, false, false, false, false, false, false, false, false, false, false, false, false] rfl (by kernel_rfl) (by kernel_rfl) (by kernel_rfl) rfl (by kernel_rfl) (fun _ _ _ h => h) (Or.inl ⟨by rfl, ?yk47⟩) (by assumption) ?rk47
    case yk47 => (intro w' hSw; obtain ⟨⟨u0, u1, u2, u3⟩, ⟨v0, v1, v2, v3⟩, z0, z1, z2, z3⟩ := hSw; go_simp; try with_reducible rfl)
    simp only [Act.put, List.setIfInBounds_toArray, List.set_cons_succ, List.set_cons_zero]
    refine wpAnyH_ready (rs := [15]) (by kernel_rfl) (by simp) ?_
    refine AllReadyH.cons (o := _) rfl (fun K hK => ?_) AllReadyH.nil
    go_simp
    refine (implLogOk _ _ _ _ _ _ _ _ l3 _ _ _ (by have := hX.z; omega) hk3 hk3' hX.l3).mono ?_
    rintro e V15 ⟨rfl, hb⟩
    have hX := hX.next hb
    clear hb
    go_wp2_with fail
    refine hK.out _ _ ⟨hX.b1, hX.b2, hX.b3⟩ (fun hHeld => ?_)
    clear hK K
    try simp only [Act.put]
    refine listH (l2 := #[true, true, true, true, true, true, true, true, true, true, true, true, true, true, true, true, true, false, false, false, false, false, false, false, false, false, false, false, false]) (by kernel_rfl) ?_
    refine wpAnyH_ready (rs := [17]) (by kernel_rfl) (by simp) ?_
    refine AllReadyH.cons (o := _) rfl (fun K hK => ?_) AllReadyH.nil
    go_simp
    refine (specLogOk _ _ _ _ _ _ _ _ l3 _ _ _ (by have := hX.z; omega) hX.l3).mono ?_
    rintro e V17 ⟨rfl, hb⟩
    have hX := hX.next hb
    clear hb
    go_wp2_with fail
    refine hK.out _ _ ⟨hX.b1, hX.b2, hX.b3⟩ (fun hHeld => ?_)
    clear hK K
    try simp only [Act.put]
    refine listH (l2 := #[true, true, true, true, true, true, true, true, true, true, true, true, true, true, true, true, true, true, false, false, false, false, false, false, false, false, false, false, false]) (by kernel_rfl) ?_
    refine takeH (i := 18) (oi := _) (v := (.bool false)) 36 #[true, true, true, true, true, true, true, true, true, true, true, true, true, true, true, true, true, true, true, false, false, false, false, false, false, false, false, false, false] rfl (by kernel_rfl) (by kernel_rfl) (by kernel_rfl) rfl (by kernel_rfl) (fun _ _ _ h => h) (Or.inl ⟨by rfl, ?yk48⟩) (by assumption) ?rk48
    case yk48 => (intro w' hSw; obtain ⟨⟨u0, u1, u2, u3⟩, ⟨v0, v1, v2, v3⟩, z0, z1, z2, z3⟩ := hSw; go_simp)
    simp only [Act.put, List.setIfInBounds_toArray, List.set_cons_succ, List.set_cons_zero]
    refine takeH (i := 19) (oi := _) (v := (.bool false)) 37 #[true, true, true, true, true, true, true, true, true, true, true, true, true, true, true, true, true, true, true, true, false, false, false, false, false, false, false, false, false] rfl (by kernel_rfl) (by kernel_rfl) (by kernel_rfl) rfl (by kernel_rfl) (fun _ _ _ h => h) (Or.inl ⟨by rfl, ?yk49⟩) (by assumption) ?rk49
    case yk49 => (intro w' hSw; obtain ⟨⟨u0, u1, u2, u3⟩, ⟨v0, v1, v2, v3⟩, z0, z1, z2, z3⟩ := hSw; go_simp; try with_reducible rfl)
    simp only [Act.put, List.setIfInBounds_toArray, List.set_cons_succ, List.set_cons_zero]
    refine takeH (i := 20) (oi := _) (v := ?vk50) 38 #[true, true, true, true, true, true, true, true, true, true, true, true, true, true, true, true, true, true, true, true, true, false, false, false, false, false, false, false, false] rfl (by kernel_rfl) (by kernel_rfl) (by kernel_rfl) rfl (by kernel_rfl) (fun _ _ _ h => h) (Or.inl ⟨by rfl, ?yk50⟩) (by assumption) ?rk50
    case yk50 => (intro w' hSw; obtain ⟨⟨u0, u1, u2, u3⟩, ⟨v0, v1, v2, v3⟩, z0, z1, z2, z3⟩ := hSw; go_simp; try with_reducible rfl)
    simp only [Act.put, List.setIfInBounds_toArray, List.set_cons_succ, List.set_cons_zero]
    refine takeH (i := 21) (oi := _) (v := ?vk51) 39 #[true, true, true, true, true, true, true, true, true, true, true, true, true, true, true, true, true, true, true, true, true, true, false, false, false, false, false, false, false] rfl (by kernel_rfl) (by kernel_rfl) (by kernel_rfl) rfl (by kernel_rfl) (fun _ _ _ h => h) (Or.inl ⟨by rfl, ?yk51⟩) (by assumption) ?rk51
    case yk51 => (intro w' hSw; obtain ⟨⟨u0, u1, u2, u3⟩, ⟨v0, v1, v2, v3⟩, z0, z1, z2, z3⟩ := hSw; go_simp; try with_reducible rfl)
    simp only [Act.put, List.setIfInBounds_toArray, List.set_cons_succ, List.set_cons_zero]
    refine takeH (i := 22) (oi := _) (v := ?vk52) 40 #[true, true, true, true, true, true, true, true, true, true, true, true, true, true, true, true, true, true, true, true, true, true, true, false, false, false, false, false, false] rfl (by kernel_rfl) (by kernel_rfl) (by kernel_rfl) rfl (by kernel_rfl) (fun _ _ _ h => h) (Or.inl ⟨by rfl, ?yk52⟩) (by assumption) ?rk52
    case yk52 => (intro w' hSw; obtain ⟨⟨u0, u1, u2, u3⟩, ⟨v0, v1, v2, v3⟩, z0, z1, z2, z3⟩ := hSw; go_simp; try with_reducible rfl)
    simp only [Act.put, List.setIfInBounds_toArray, List.set_cons_succ, List.set_cons_zero]
    refine takeH (i := 24) (oi := _) (v := ?vk53) 42 #[true, true, true, true, true, true, true, true, true, true, true, true, true, true, true, true, true, true, true, true, true, true, true, false, true, false, false, false, false] rfl (by kernel_rfl) (by kernel_rfl) (by kernel_rfl) rfl (by kernel_rfl) (fun _ _ _ h => h) (Or.inl ⟨by rfl, ?yk53⟩) (by assumption) ?rk53
    case yk53 => (intro w' hSw; obtain ⟨⟨u0, u1, u2, u3⟩, ⟨v0, v1, v2, v3⟩, z0, z1, z2, z3⟩ := hSw; go_simp; try with_reducible rfl)
    simp only [Act.put, List.setIfInBounds_toArray, List.set_cons_succ, List.set_cons_zero]
    refine takeH (i := 25) (oi := _) (v := ?vk54) 43 #[true, true, true, true, true, true, true, true, true, true, true, true, true, true, true, true, true, true, true, true, true, true, true, false, true, true, false, false, false] rfl (by kernel_rfl) (by kernel_rfl) (by kernel_rfl) rfl (by kernel_rfl) (fun _ _ _ h => h) (Or.inl ⟨by rfl, ?yk54⟩) (by assumption) ?rk54
    case yk54 => (intro w' hSw; obtain ⟨⟨u0, u1, u2, u3⟩, ⟨v0, v1, v2, v3⟩, z0, z1, z2, z3⟩ := hSw; go_simp; try with_reducible rfl)
    simp only [Act.put, List.setIfInBounds_toArray, List.set_cons_succ, List.set_cons_zero]
    refine wpAnyH_ready (rs := [23]) (by kernel_rfl) (by simp) ?_
    refine AllReadyH.cons (o := _) rfl (fun K hK => ?_) AllReadyH.nil
    go_simp
    refine (implLogSame _ _ _ _ _ _ _ _ _ _ _ _ _ _ _ _ l1 l2 _ _ _ _ _ (by have := hX.z; omega) (by have := hX.z; omega) hX.l1 hX.l2).mono ?_
    rintro e V23 ⟨rfl, hb⟩
    have hX := hX.next hb
    clear hb
    go_wp2_with fail
    refine hK.out _ _ ⟨hX.b1, hX.b2, hX.b3⟩ (fun hHeld => ?_)
    clear hK K
    try simp only [Act.put]
    refine listH (l2 := #[true, true, true, true, true, true, true, true, true, true, true, true, true, true, true, true, true, true, true, true, true, true, true, true, true, true, false, false, false]) (by kernel_rfl) ?_
    refine wpAnyH_ready (rs := [26]) (by kernel_rfl) (by simp) ?_
    refine AllReadyH.cons (o := _) rfl (fun K hK => ?_) AllReadyH.nil
    go_simp
    refine (implLogSame _ _ _ _ _ _ _ _ _ _ _ _ _ _ _ _ l2 l1 _ _ _ _ _ (by have := hX.z; omega) (by have := hX.z; omega) hX.l2 hX.l1).mono ?_
    rintro e V26 ⟨rfl, hb⟩
    have hX := hX.next hb
    clear hb
    rw [logEq_symm l2 l1]
    go_wp2_with fail
    refine hK.out _ _ ⟨hX.b1, hX.b2, hX.b3⟩ (fun hHeld => ?_)
    clear hK K
    try simp only [Act.put]
    refine listH (l2 := #[true, true, true, true, true, true, true, true, true, true, true, true, true, true, true, true, true, true, true, true, true, true, true, true, true, true, true, false, false]) (by kernel_rfl) ?_
    refine takeH (i := 27) (oi := _) (v := (.bool false)) 45 #[true, true, true, true, true, true, true, true, true, true, true, true, true, true, true, true, true, true, true, true, true, true, true, true, true, true, true, true, false] rfl (by kernel_rfl) (by kernel_rfl) (by kernel_rfl) rfl (by kernel_rfl) (fun _ _ _ h => h) (Or.inl ⟨by rfl, ?yk55⟩) (by assumption) ?rk55
    case yk55 => (intro w' hSw; obtain ⟨⟨u0, u1, u2, u3⟩, ⟨v0, v1, v2, v3⟩, z0, z1, z2, z3⟩ := hSw; go_simp)
    simp only [Act.put, List.setIfInBounds_toArray, List.set_cons_succ, List.set_cons_zero]
    refine takeH (i := 28) (oi := _) (v := (.bool false)) 46 #[true, true, true, true, true, true, true, true, true, true, true, true, true, true, true, true, true, true, true, true, true, true, true, true, true, true, true, true, true] rfl (by kernel_rfl) (by kernel_rfl) (by kernel_rfl) rfl (by kernel_rfl) (fun _ _ _ h => h) (Or.inl ⟨by rfl, ?yk56⟩) (by assumption) ?rk56
    case yk56 => (intro w' hSw; obtain ⟨⟨u0, u1, u2, u3⟩, ⟨v0, v1, v2, v3⟩, z0, z1, z2, z3⟩ := hSw; go_simp; try with_reducible rfl)
    simp only [Act.put, List.setIfInBounds_toArray, List.set_cons_succ, List.set_cons_zero]
    refine wpAnyH_done (by kernel_rfl) ?_ _
    go_wp2_with fail
    go_meet
    exact ⟨rfl, hX⟩
  obtain ⟨rfl, h6⟩ := hcut
  clear HX
  rename World => W6
  have HX6 : Hid (Tri w W6 T3 T4 T5 U x1 y1 a1 n1 k1 a1' n1' k1' l1 x2 y2 a2 n2 k2 a2' n2' k2' l2 x3 y3 a3 n3 k3 a3' n3' k3' l3) := h6
  clear h6
  obtain ⟨g0, g1, g2, g3⟩ := HX6.out.b3
  have z6 := HX6.out.z
  go_wp2_with fail
  refine (specLogOk _ _ _ _ _ _ _ _ l3 _ _ _ (by omega) HX6.out.l3).mono ?_
  rintro e W7 ⟨rfl, hb7⟩
  have HX7 : Hid (Tri w W7 T3 T4 T5 U x1 y1 a1 n1 k1 a1' n1' k1' l1 x2 y2 a2 n2 k2 a2' n2' k2' l2 x3 y3 a3 n3 k3 a3' n3' k3' l3) := HX6.out.next hb7
  clear HX6 hb7 g0 g1 g2 g3 z6
  rcases t1 : logOk l3 with _ | _
  · go_wp2_with fail
    go_ret
    exact ⟨rfl, HX7.out.below⟩
  have HOK : Hid (logOk l3 = true) := t1
  have HSEQ : Hid (wrap64 (y3 + 1) ≠ l3.seq) := by
    show _ ≠ _
    have h1 := HX7.out.l3.s
    simp only [logOk, whoB, Bool.and_eq_true, decide_eq_true_eq] at t1
    have h2 : wrap64 (y3 + 1) = y3 + 1 := by simp only [wrap64]; omega
    rw [h2]
    omega
  obtain ⟨g0, g1, g2, g3⟩ := HX7.out.b3
  have z7 := HX7.out.z
  clear t1
  have gg : ∀ o : Obj, LogBox (W7.alloc o) T5 x3 y3 a3 n3 k3 a3' n3' k3' := fun o => (HX7.out.next ((Below.refl _ _).alloc (Nat.le_refl _) o)).b3
  have q0 := fun o => (gg o).c0
  have q1 := fun o => (gg o).c1
  have q2 := fun o => (gg o).c2
  have q3 := fun o => (gg o).c3
  clear gg
  go_upto_region 12 with fail
  obtain ⟨WB, hWB⟩ : ∃ V : World, V = (W7.alloc (Obj.cells #[.int .i64 x3, .int .i64 (wrap64 (y3 + 1)), .slice a3 n3 k3, .slice a3' n3' k3'] 29)).alloc (Obj.cells #[.int .i64 x3, .int .i64 y3, .slice a3 n3 k3, .slice a3' n3' k3'] 29) := ⟨_, rfl⟩
  rw [← hWB]
  have hbB : Below W7.heap.size W7 WB := by rw [hWB]; exact ((Below.refl _ _).alloc (Nat.le_refl _) _).alloc (by simp) _
  have bx6 : Hid (LogBox WB W7.heap.size x3 (wrap64 (y3 + 1)) a3 n3 k3 a3' n3' k3') := by show LogBox _ _ _ _ _ _ _ _ _ _; rw [hWB]; exact ⟨by simp [go_sem], by simp [go_sem], by simp [go_sem], by simp [go_sem]⟩
  have bx7 : Hid (LogBox WB (W7.heap.size + 1) x3 y3 a3 n3 k3 a3' n3' k3') := by show LogBox _ _ _ _ _ _ _ _ _ _; rw [hWB]; exact ⟨by simp [go_sem], by simp [go_sem], by simp [go_sem], by simp [go_sem]⟩
  have fz7 : Hid (∀ o, WB.frozen? ⟨W7.heap.size + 1, o, none⟩ = false) := fun o => by rw [hWB]; simp [go_sem]
  have hsB : W7.heap.size + 2 ≤ WB.heap.size := by rw [hWB]; simp
  have HXB : Hid (Tri w WB T3 T4 T5 U x1 y1 a1 n1 k1 a1' n1' k1' l1 x2 y2 a2 n2 k2 a2' n2' k2' l2 x3 y3 a3 n3 k3 a3' n3' k3' l3) := HX7.out.next hbB
  have hw7 := HX7.out.below.size
  obtain ⟨T7, hT7⟩ : ∃ t, t = W7.heap.size + 1 := ⟨_, rfl⟩
  rw [← hT7] at bx7 fz7 ⊢
  have h67 : W7.heap.size < T7 := by omega
  have h7B : T7 < WB.heap.size := by omega
  generalize hT6 : W7.heap.size = T6 at *
  clear hWB hbB hT7 hT6 HX7 g0 g1 g2 g3 hsB q0 q1 q2 q3
  have HN3 : Hid (n3 = l3.bases.length) := HXB.out.l3.b.len
  have hE0 := OwnBases.empty WB WB.heap.size (Nat.le_refl _)
  have hal0 : Below WB.heap.size WB (WB.alloc (Obj.cells #[] 40)) := (Below.refl _ _).alloc (Nat.le_refl _) _
  have hBA := HXB.out.l3.b.below hal0 (by have := HXB.out.z; omega)
  have g2' : ∀ o : Obj, (WB.alloc o).cell? ⟨T5, 2, none⟩ = some (.slice a3 n3 k3) := fun o => by
    rw [((Below.refl WB.heap.size WB).alloc (Nat.le_refl _) o).cell (by have := HXB.out.z; simp; omega)]; exact HXB.out.b3.c2
  go_wp2_with (first
    | (at_builtin; refine wpList_app_allB _ rfl (.tmp 56) (.tmp 58) rfl WB.heap.size _ [] l3.bases hE0 a3 n3 k3 w.heap.size U hBA rfl rfl ?c2 ?c3 ?_)
    | go_in)
  case c2 => simp; omega
  case c3 => simp
  intro v1 w1 hE1
  have hb1 : Below WB.heap.size WB w1 := below_grown hal0 hE1.grown (fun i e => (World.ownsRow.lt hE0 i e).1) (by simp)
  have hE1o : OwnBases w1 WB.heap.size v1 l3.bases := by simpa using hE1.own
  clear hE1 hE0 hBA hal0 g2'
  go_wp2_with (first
    | (at_builtin; refine wpList_app_base _ rfl (.tmp 59) (.tmp 61) rfl WB.heap.size _ l3.bases ⟨31, 0⟩ (World.ownsRow.alloc hE1o _) ⟨w1.heap.size, 0, none⟩ rfl rfl ?d1 ?d2 ?d3 ?_)
    | go_in)
  case d1 => intro i u hi; exact base_at hi rfl
  case d2 => have := HN3.out; omega
  case d3 => have := hb1.size; simp; omega
  intro v2 w2 hE2
  have hb2 : Below WB.heap.size WB w2 := below_grown (hb1.alloc hb1.size _) hE2.grown (fun i e => ((World.ownsRow.alloc hE1o (Obj.cells #[.int .i64 31, .int .i64 0] 40)).lt i e).1) (by have := hb1.size; simp; omega)
  have hE2o : OwnBases w2 WB.heap.size v2 (l3.bases ++ [⟨31, 0⟩]) := hE2.own
  clear hE2 hE1o hb1
  obtain ⟨a4, k4, rfl⟩ := hE2o.form
  rw [List.length_append, List.length_singleton, ← HN3.out] at hE2o ⊢
  have c7 : w2.cell? ⟨T7, 2, none⟩ = some (.slice a3 n3 k3) := by rw [hb2.cell (by simpa using h7B)]; exact bx7.out.c2
  have f7 : w2.frozen? ⟨T7, 2, none⟩ = false := by rw [hb2.frozen (by simpa using h7B)]; exact fz7.out 2
  have hT7 : T7 < w2.heap.size := by have := hb2.size; omega
  have hset : Below T7 w2 (w2.setCell ⟨T7, 2, none⟩ (.slice a4 (n3 + 1) k4)) := (Below.refl _ _).setCell (by simp) _
  have hd : Below T7 WB (w2.setCell ⟨T7, 2, none⟩ (.slice a4 (n3 + 1) k4)) := (hb2.mono (by omega)).trans hset
  have HX8 : Hid (Tri w (w2.setCell ⟨T7, 2, none⟩ (.slice a4 (n3 + 1) k4)) T3 T4 T5 U x1 y1 a1 n1 k1 a1' n1' k1' l1 x2 y2 a2 n2 k2 a2' n2' k2' l2 x3 y3 a3 n3 k3 a3' n3' k3' l3) := HXB.out.low hd (by omega) (by omega)
  have HB6 : Hid (LogBox (w2.setCell ⟨T7, 2, none⟩ (.slice a4 (n3 + 1) k4)) T6 x3 (wrap64 (y3 + 1)) a3 n3 k3 a3' n3' k3') := bx6.out.of (hd.block _ h67)
  have HB7 : Hid (LogBox (w2.setCell ⟨T7, 2, none⟩ (.slice a4 (n3 + 1) k4)) T7 x3 y3 a4 (n3 + 1) k4 a3' n3' k3') := (bx7.out.of (hb2.block _ h7B)).set2 a4 (n3 + 1) k4
  have HE8 : Hid (OwnBases (w2.setCell ⟨T7, 2, none⟩ (.slice a4 (n3 + 1) k4)) WB.heap.size (.slice a4 (n3 + 1) k4) (l3.bases ++ [⟨31, 0⟩])) := hE2o.setLow _ _ (by simpa using h7B)
  have hz8 : T7 < (w2.setCell ⟨T7, 2, none⟩ (.slice a4 (n3 + 1) k4)).heap.size := by simpa using hT7
  have hz8' : WB.heap.size ≤ (w2.setCell ⟨T7, 2, none⟩ (.slice a4 (n3 + 1) k4)).heap.size := by have := hb2.size; simpa using this
  clear hset hd hE2o hb2 bx6 bx7 fz7 HXB
  go_upto_region 13 with fail
  generalize hW8 : w2.setCell ⟨T7, 2, none⟩ (.slice a4 (n3 + 1) k4) = W8 at *
  clear hW8 c7 f7 hT7
  have hwB : w.heap.size ≤ WB.heap.size := by omega
  obtain ⟨p0, p1, p2, p3⟩ := HB6.out
  obtain ⟨g0, g1, g2, g3⟩ := HX8.out.b3
  go_wp2_with fail
  refine (implLogSame _ _ _ _ _ _ _ _ _ _ _ _ _ _ _ _ { l3 with seq := wrap64 (y3 + 1) } l3 w.heap.size U w.heap.size U _ (by have := HX8.out.z; omega) (by have := HX8.out.z; omega) ⟨HX8.out.l3.q, rfl, HX8.out.l3.b, HX8.out.l3.o⟩ HX8.out.l3).mono ?_
  rintro e W9 ⟨rfl, hb9⟩
  rw [logEq_seq l3 _ HSEQ.out]
  have HX9 : Hid (Tri w W9 T3 T4 T5 U x1 y1 a1 n1 k1 a1' n1' k1' l1 x2 y2 a2 n2 k2 a2' n2' k2' l2 x3 y3 a3 n3 k3 a3' n3' k3' l3) := HX8.out.next hb9
  have HB79 : Hid (LogBox W9 T7 x3 y3 a4 (n3 + 1) k4 a3' n3' k3') := HB7.out.of (hb9.block _ hz8)
  have HE9 : Hid (OwnBases W9 WB.heap.size (.slice a4 (n3 + 1) k4) (l3.bases ++ [⟨31, 0⟩])) := HE8.out.next hb9
  have hs9 := hb9.size
  clear HX8 HB7 HE8 hb9 p0 p1 p2 p3 g0 g1 g2 g3 HB6
  obtain ⟨p0, p1, p2, p3⟩ := HB79.out
  obtain ⟨g0, g1, g2, g3⟩ := HX9.out.b3
  have hz9 : T7 < W9.heap.size := by omega
  have HY : Hid (LogAt W9 w.heap.size W9.heap.size x3 y3 a4 (n3 + 1) a3' n3' { l3 with bases := l3.bases ++ [⟨31, 0⟩] }) := ⟨HX9.out.l3.q, HX9.out.l3.s, (HE9.out.at3 (by have := HN3.out; simp; omega)).wide hwB (Nat.le_refl _), HX9.out.l3.o.wide (Nat.le_refl _) (by have := HX9.out.z; omega)⟩
  go_wp2_with fail
  refine (implLogSame _ _ _ _ _ _ _ _ _ _ _ _ _ _ _ _ { l3 with bases := l3.bases ++ [⟨31, 0⟩] } l3 w.heap.size W9.heap.size w.heap.size U _ (Nat.le_refl _) (by have := HX9.out.z; omega) HY.out HX9.out.l3).mono ?_
  rintro e W10 ⟨rfl, hb10⟩
  rw [logEq_more]
  have HB10 : Hid (LogBox W10 T7 x3 y3 a4 (n3 + 1) k4 a3' n3' k3') := HB79.out.of (hb10.block _ hz9)
  have HY10 : Hid (LogAt W10 w.heap.size W9.heap.size x3 y3 a4 (n3 + 1) a3' n3' { l3 with bases := l3.bases ++ [⟨31, 0⟩] }) := HY.out.below hb10 (Nat.le_refl _)
  have HBL10 : Hid (Below w.heap.size w W10) := HX9.out.below.trans (hb10.mono HX9.out.below.size)
  have hs10 := hb10.size
  clear HX9 HB79 HE9 HY hb10 p0 p1 p2 p3 g0 g1 g2 g3
  obtain ⟨p0, p1, p2, p3⟩ := HB10.out
  have hz10 : T7 < W10.heap.size := by omega
  go_wp2_with fail
  refine (implLogOk _ _ _ _ _ _ _ _ { l3 with bases := l3.bases ++ [⟨31, 0⟩] } w.heap.size W9.heap.size _ hs10 hk3 hk3' HY10.out).mono ?_
  rintro e W11 ⟨rfl, hb11⟩
  rw [logOk_more l3 _ HOK.out]
  have HBL11 : Hid (Below w.heap.size w W11) := HBL10.out.trans (hb11.mono HBL10.out.size)
  clear HBL10 HB10 HY10 hb11 p0 p1 p2 p3
  go_wp2_with fail
  go_ret
  exact ⟨rfl, HBL11.out⟩

namespace fnLogSame
open Go.ChangeShapes Go.WideShapes Go.ChangeAt Go.RowKit
open Go.ChangeMaps (open_string shut_string)
set_option linter.unusedVariables false

theorem own : ownKnob Try.prog.godebug = none := by kernel_rfl

set_option maxRecDepth 100000 in
theorem lifted (os : Os) (started : os.Started) (H : Type) (enc : TypeId × Value → H) :
    ReturnsInHanded {} Try.checked os 4 .any (Rows.fnLogSameSpec.pre6 enc Try.prog Try.f4 Rows.fnLogSameRow.domain false) (Rows.fnLogSameSpec.post enc Try.prog Try.f4 false true false false) := by
  refine returnsInHanded_of_change (C := Try.checked) own started (by kernel_rfl) Try.func4
    (ChangeSpec.witness6 (enc := enc) (C := Try.checked) false ⟨#[], #[.slice none 0 0], []⟩ 8 (by kernel_rfl) (by kernel_rfl) (by kernel_rfl) (by kernel_rfl)) ?_
  intro W base args ds gs before hval0 hW hcnd _
  have hval : ∀ (j : Nat) t v, Try.f4.params[j]? = some t → args[j]? = some v → Value.okWide Try.prog W .any base t v := hval0
  have hW' := hW
  obtain ⟨p, q, hA0, hV, rfl, hfz, hnd⟩ := hW
  have hA : DataW.TrodAll enc Try.prog W 0 (fun _ => true) true Try.f4.params.toList args.toList ds p := hA0
  rw [Try.params4] at hA hval
  obtain ⟨v0, vs0, d0, ds0, p0, q0, hargs, rfl, rfl, h0, r0⟩ := trodAll_cons hA
  obtain ⟨rfl, rfl, rfl⟩ := trodAll_nil r0
  obtain rfl : args = #[v0] := by cases args; simp_all
  obtain ⟨rfl, rfl⟩ := trodVars_none hV
  have k0 := h0
  have lt0 : ∀ x ∈ p0, x.block < W.heap.size := by obtain ⟨m, hm⟩ := k0; exact DataW.trod_lt m _ _ _ hm
  obtain ⟨a0, n0, c0, z0, rfl, hnc0, hnm0, w0⟩ := open_bytes (hval 0 22 v0 rfl rfl) h0
  clear hA0 hval0
  refine (walkLogSameL a0 n0 c0 z0 W hnc0 hnm0 w0).mono fun e W' ⟨he, bel⟩ => ?_
  subst he
  exact ⟨_, rfl, _, _, _, [], _, [], hW', trodAll_mk1 (shut_bool Try.underlying4 _), (trodAll_cons_mk (Below.trod fLaid (by kernel_rfl) (of_decide_eq_true (by kernel_rfl)) k0 bel lt0) trodAll_mk0), rfl, bel.frame _, fun h => by cases h⟩

set_option maxHeartbeats 4000000 in
theorem closed : joinedFacts Try.prog 4 Try.f4 Rows.fnLogSameSpec Rows.fnLogSameRow = true := by
  refine closedOf rfl rfl rfl ?_ ?_ ?_ ?_ ?_ ?_ ?_ ?_ ?_ ?_ ?_ ?_ ?_ ?_ ?_ ?_ ?_ ?_ ?_ rfl rfl ?_ ?_ ?_
  all_goals (as_aux_lemma => kernel_rfl)

theorem over : Rows.fnLogSameRow.holds Try.pinned (OpenSpec.ofChange Rows.fnLogSameSpec) :=
  OpenClaim.holds_of_wide 4 Try.f4 rfl rfl rfl rfl rfl rfl rfl ⟨rfl, rfl, rfl, rfl, rfl⟩ rfl rfl rfl rfl rfl (by kernel_rfl) Try.func4 closed
    (of_decide_eq_true (by kernel_rfl)) (by unfold Func.isWrapper; first | (rw [if_pos (by decide +kernel)]; kernel_rfl) | (rw [if_neg (by decide +kernel)]; exact ⟨rfl, rfl⟩))
    (fun os started H enc _ => lifted os started H enc)
end fnLogSame

theorem fnLogSame_holds : Rows.FnLogSameSaid := fnLogSame.over
#print axioms fnLogSame_holds
end Go.Proofs.Ytdjffkiiglilnaa
