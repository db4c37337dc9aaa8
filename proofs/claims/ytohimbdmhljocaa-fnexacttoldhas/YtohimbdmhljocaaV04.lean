/- Lemmas that the proofs of this seat share: MapV, Closed. -/
import Derived.Test.YtohimbdmhljocaaV03
import Derived.Test.YtohimbdmhljocaaV02
import Derived.Carry
import Derived.ChangeMaps5
/- How many logs there are of each client and number: the walks; ToldHas of both sides. -/
namespace Go.Proofs.Ytohimbdmhljocaa
open Go.RowKit Go.ChangeShapes Go.WideShapes
open Go.MapKept (Stamped)
open Go.ChangeMaps (setBlock heap_setBlock_same heap_setBlock_other)
theorem below_setBlock {B b : Nat} {w W : World} {es : Array MapEntry} {clock : Nat} (h : Below B w W) (hb : W.heap[b]? = some (.map es clock)) (hB : B ≤ b) (o : Obj) : Below B w (setBlock W b o) :=
  ⟨h.os, h.tape, h.output, by simpa [setBlock] using h.size, fun k hk => by rw [heap_setBlock_other hb o (by omega)]; exact h.block k hk⟩
theorem box_setBlock {W : World} {b p : Nat} {es : Array MapEntry} {clock : Nat} {t : TypeId} {vs : List Value} (h : BoxI W p t vs) (hb : W.heap[b]? = some (.map es clock)) (o : Obj) (hp : p ≠ b) : BoxI (setBlock W b o) p t vs := World.rowIs.of_block h (heap_setBlock_other hb o hp)
theorem run_fieldB (q s : Int) (a : Option Addr) (n c : Nat) (a' : Option Addr) (n' c' : Nat) (w : World) : (Instr.field 111 (.agg #[.int .i64 q, .int .i64 s, .slice a n c, .slice a' n' c']) 0).run Try.prog w = .ok (ownV q s) w := by
  simp [Instr.field, run_underlying Try.underlying111, go_sem, asAgg, ownV]
def MapEnd (xs : List LLog) (n : Nat) (w : World) (e : Ending) (w' : World) : Prop := ∃ b es clock, e = .returned (.map (some b)) ∧ w'.heap[b]? = some (.map es clock) ∧ CM es clock xs n ∧ w.heap.size ≤ b ∧ Below w.heap.size w w'
set_option maxHeartbeats 8000000 in
theorem countOwners_any (a : Option Addr) (n c : Nat) (xs : List LLog) (L U : Nat) (w : World) (hU : U ≤ w.heap.size) (H : RowsAt 4 LogE w L U a n xs) (hf : ∀ l ∈ xs, Fits l.who ∧ Fits l.seq) :
    Calls Try.prog 22 #[.slice a n c] w fun e w' => MapEnd xs n w e w' := by
  have hmm := @run_makeMap Try.prog
  have hbd := H.bd
  unfold maxLen at hbd
  have hlen := hidMk H.len
  have M0 : Hid ((w.alloc (.map #[] 0)).heap[w.heap.size]? = some (.map #[] 0)) := by
    show _ = _
    unfold World.alloc
    exact Array.getElem?_push_size
  have C0 : Hid (CM #[] 0 xs 0) := ⟨MapKept.stamped_empty 0, fun x hx => by simp at hx, fun x hx => by simp at hx, fun q s => ⟨fun ⟨x, hx, _⟩ => by simp at hx, fun ⟨k, l, hk, _⟩ => by omega⟩⟩
  have hA : Below w.heap.size w (w.alloc (.map #[] 0)) := (Below.refl _ _).alloc (Nat.le_refl _) _
  go_enter Try.func22, Try.ntmps22
  go_wp2_with fail
  go_loopg [9] n (fun g i wr => ∃ j : Nat, j ≤ n ∧ Hid (g = n - j) ∧ i = .int .i64 j ∧ (∃ es clock, Hid (wr.heap[w.heap.size]? = some (.map es clock)) ∧ Hid (CM es clock xs j)) ∧ Below w.heap.size w wr)
  case atStart => exact ⟨0, Nat.zero_le _, by show _ = _; omega, rfl, ⟨_, _, M0.out, C0.out⟩, hA⟩
  case round =>
    obtain ⟨j, hj, hk, rfl, ⟨es, clock, HM, HC⟩, hb⟩ := hrel
    have hs1 := hb.size
    by_cases hlt : j < n
    · obtain ⟨b, off, ha, hL, hbU, hc⟩ := H.at_ (by omega)
      subst ha
      obtain ⟨x, vs, he, hc, hE⟩ := hc j hlt
      obtain ⟨q, s, a1, n1, c1', a2, n2, c2', rfl, hK⟩ := hE
      have c0 := hc 0 _ rfl
      have c1 := hc 1 _ rfl
      have c2 := hc 2 _ rfl
      have c3 := hc 3 _ rfl
      simp only [Nat.add_zero] at c0
      rw [← hb.cell (by simp; omega)] at c0 c1 c2 c3
      have hlt' : (j : Int) < (n : Int) := by omega
      have hfx := hf x (List.mem_of_getElem? he)
      have HFq : Hid (Fits q) := by rw [hK.q]; exact hfx.1
      have HFs : Hid (Fits s) := by rw [hK.s]; exact hfx.2
      have HE := hidMk he
      have HQ := hidMk hK.q
      have HQs := hidMk hK.s
      have hmb : w.heap.size < wr.heap.size := (Array.getElem?_eq_some_iff.1 HM.out).1
      clear he hc hK hfx hmm
      have HB0 := hidMk (BoxI.new (W := wr) (A := #[.int .i64 q, .int .i64 s, .slice a1 n1 c1', .slice a2 n2 c2']) (t := 66) rfl)
      have HM1 : Hid ((wr.alloc (.cells #[.int .i64 q, .int .i64 s, .slice a1 n1 c1', .slice a2 n2 c2'] 66)).heap[w.heap.size]? = some (.map es clock)) := by
        show _ = _
        rw [((Below.refl wr.heap.size wr).alloc (Nat.le_refl _) _).block _ hmb]; exact HM.out
      have hbA := hb.alloc hs1 (.cells #[.int .i64 q, .int .i64 s, .slice a1 n1 c1', .slice a2 n2 c2'] 66)
      go_upto_region 5 with fail
      generalize (wr.alloc (.cells #[.int .i64 q, .int .i64 s, .slice a1 n1 c1', .slice a2 n2 c2'] 66)) = W at HB0 HM1 hbA ⊢
      have hpW := HB0.out.lt
      refine wp_region_held_drew (S := fun W' => BoxI W' wr.heap.size 66 [.int .i64 q, .int .i64 s, .slice a1 n1 c1', .slice a2 n2 c2']) (by kernel_rfl) ?_ (fun hHeld => ?_)
      · exact World.rowIs.drew HB0.out
      refine listH (l2 := #[false, false, false, false, false, false, false, false, false]) (by kernel_rfl) ?_
      refine takeH (i := 0) (oi := _) (v := ?v0) 13 #[true, false, false, false, false, false, false, false, false] rfl (by kernel_rfl) (by kernel_rfl) (by kernel_rfl) rfl (by kernel_rfl) (fun _ _ _ h => h) (Or.inl ⟨by rfl, ?y0⟩) (by assumption) ?r0
      case y0 => (intro w' hSw; go_simp; try with_reducible rfl)
      simp only [Act.put, List.setIfInBounds_toArray, List.set_cons_succ, List.set_cons_zero]
      refine takeH (i := 1) (oi := _) (v := ?v1) 14 #[true, true, false, false, false, false, false, false, false] rfl (by kernel_rfl) (by kernel_rfl) (by kernel_rfl) rfl (by kernel_rfl) (fun _ _ _ h => h) (Or.inl ⟨by rfl, ?y1⟩) (by assumption) ?r1
      case y1 => (intro w' hSw; have e0 := hSw.get 0 _ rfl; have e1 := hSw.get 1 _ rfl; have e2 := hSw.get 2 _ rfl; have e3 := hSw.get 3 _ rfl; go_simp; try with_reducible rfl)
      simp only [Act.put, List.setIfInBounds_toArray, List.set_cons_succ, List.set_cons_zero]
      refine wpAnyH_ready (rs := [2]) (by kernel_rfl) (by simp) ?_
      refine AllReadyH.cons (o := _) rfl (fun K hK => ?_) AllReadyH.nil
      go_simp
      refine (bundleOf_any q s a1 n1 c1' a2 n2 c2' _).mono ?_
      rintro e w2 ⟨rfl, hb2⟩
      have B2 := World.rowIs.of_block (World.rowIs.drew HB0.out) (hb2.block _ (by simpa using hpW))
      have HM2 : Hid (w2.heap[w.heap.size]? = some (.map es clock)) := by
        show _ = _
        rw [hb2.block _ (by have := hbA.size; simp; omega)]; exact HM1.out
      have hB2 : Below w.heap.size w w2 := (hbA.trans ((Below.refl W.heap.size W).drew.mono hbA.size)).trans (hb2.mono (by simpa using hbA.size))
      clear hb2
      go_wp2_with fail
      refine hK.out _ _ ?_ (fun hHeld => ?_)
      · exact B2
      clear hK K
      try simp only [Act.put]
      refine listH (l2 := #[true, true, true, false, false, false, false, false, false]) (by kernel_rfl) ?_
      refine takeH (i := 3) (oi := _) (v := ?v3) 16 #[true, true, true, true, false, false, false, false, false] rfl (by kernel_rfl) (by kernel_rfl) (by kernel_rfl) rfl (by kernel_rfl) (fun _ _ _ h => h) (Or.inl ⟨by rfl, ?y3⟩) (by assumption) ?r3
      case y3 => (intro w' hSw; go_simp; rw [run_fieldB]; rfl)
      simp only [Act.put, List.setIfInBounds_toArray, List.set_cons_succ, List.set_cons_zero]
      obtain ⟨es1, clock1, i0, e0, nn, hCE, hnj, hL4, hM4⟩ := entry_any HM2.out HC.out HFq.out HFs.out
      have hb3 : (setBlock w2 w.heap.size (.map es1 clock1)).heap[w.heap.size]? = some (.map es1 clock1) := heap_setBlock_same HM2.out _
      have HL3 := look_entry hb3 HC.out hCE HFq.out HFs.out
      have HS3 := store_any hb3 hCE (.int .i64 ((nn : Int) + 1))
      have B3 := box_setBlock B2 HM2.out (.map es1 clock1) (by omega)
      have hB3 := below_setBlock hB2 HM2.out (Nat.le_refl _) (.map es1 clock1)
      have hwrap : IntKind.i64.wrap ((nn : Int) + 1) = (nn : Int) + 1 := by simp only [IntKind.wrap_i64]; omega
      have HCE := hidMk hCE
      clear hCE
      have B4 := box_setBlock B3 hb3 (.map (es1.modify i0 fun e => { e with val := .int .i64 ((nn : Int) + 1) }) clock1) (by omega)
      have HSTEP := hidMk (CM.step (l := x) HC.out (by rw [← HQ.out, ← HQs.out]; exact HCE.out) HE.out (by rw [← HQ.out]; exact HFq.out) (by rw [← HQs.out]; exact HFs.out) hnj)
      refine wpAnyH_ready (rs := [4, 6]) (by kernel_rfl) (by simp) ?_
      refine AllReadyH.cons (o := _) rfl (fun K hK => ?_) (AllReadyH.cons (o := _) rfl (fun K hK => ?_) AllReadyH.nil)
      · go_simp
        refine hK.out _ _ ?_ (fun hHeld => ?_)
        · exact B2
        clear hK K
        try simp only [Act.put]
        refine listH (l2 := #[true, true, true, true, true, false, false, false, false]) (by kernel_rfl) ?_
        refine takeH (i := 5) (oi := _) (v := .int .i64 ((nn : Int) + 1)) 18 #[true, true, true, true, true, true, false, false, false] rfl (by kernel_rfl) (by kernel_rfl) (by kernel_rfl) rfl (by kernel_rfl) (fun _ _ _ h => h) (Or.inl ⟨by rfl, ?ya5⟩) (by assumption) ?ra5
        case ya5 => (intro w' hSw; go_simp)
        simp only [Act.put, List.setIfInBounds_toArray, List.set_cons_succ, List.set_cons_zero]
        refine wpAnyH_ready (rs := [6]) (by kernel_rfl) (by simp) ?_
        refine AllReadyH.cons (o := _) rfl (fun K hK => ?_) AllReadyH.nil
        go_simp
        refine hK.out _ _ ?_ (fun hHeld => ?_)
        · exact B3
        clear hK K
        try simp only [Act.put]
        refine listH (l2 := #[true, true, true, true, true, true, true, false, false]) (by kernel_rfl) ?_
        refine takeH (i := 7) (oi := _) (v := ?va7) 20 #[true, true, true, true, true, true, true, true, false] rfl (by kernel_rfl) (by kernel_rfl) (by kernel_rfl) rfl (by kernel_rfl) (fun _ _ _ h => h) (Or.inl ⟨by rfl, ?ya7⟩) (by assumption) ?ra7
        case ya7 => (intro w' hSw; go_simp; try with_reducible rfl)
        simp only [Act.put, List.setIfInBounds_toArray, List.set_cons_succ, List.set_cons_zero]
        refine wpAnyH_ready (rs := [8]) (by kernel_rfl) (by simp) ?_
        refine AllReadyH.cons (o := _) rfl (fun K hK => ?_) AllReadyH.nil
        go_simp
        refine hK.out _ _ ?_ (fun hHeld => ?_)
        · exact B4
        clear hK K
        try simp only [Act.put]
        refine listH (l2 := #[true, true, true, true, true, true, true, true, true]) (by kernel_rfl) ?_
        refine wpAnyH_done (by kernel_rfl) ?_ _
        go_wp2_with fail
        go_roundg (n - (j + 1))
        case measure => have := hk.out; omega
        case rel => exact ⟨j + 1, by omega, rfl, by go_num, ⟨_, _, heap_setBlock_same hb3 _, HSTEP.out⟩, below_setBlock hB3 hb3 (Nat.le_refl _) _⟩
      · go_simp
        refine hK.out _ _ ?_ (fun hHeld => ?_)
        · exact B3
        clear hK K
        try simp only [Act.put]
        refine listH (l2 := #[true, true, true, true, false, false, true, false, false]) (by kernel_rfl) ?_
        refine takeH (i := 7) (oi := _) (v := ?vb7) 20 #[true, true, true, true, false, false, true, true, false] rfl (by kernel_rfl) (by kernel_rfl) (by kernel_rfl) rfl (by kernel_rfl) (fun _ _ _ h => h) (Or.inl ⟨by rfl, ?yb7⟩) (by assumption) ?rb7
        case yb7 => (intro w' hSw; go_simp; try with_reducible rfl)
        simp only [Act.put, List.setIfInBounds_toArray, List.set_cons_succ, List.set_cons_zero]
        refine wpAnyH_ready (rs := [4]) (by kernel_rfl) (by simp) ?_
        refine AllReadyH.cons (o := _) rfl (fun K hK => ?_) AllReadyH.nil
        go_simp
        refine hK.out _ _ ?_ (fun hHeld => ?_)
        · exact B3
        clear hK K
        try simp only [Act.put]
        refine listH (l2 := #[true, true, true, true, true, false, true, true, false]) (by kernel_rfl) ?_
        refine takeH (i := 5) (oi := _) (v := .int .i64 ((nn : Int) + 1)) 18 #[true, true, true, true, true, true, true, true, false] rfl (by kernel_rfl) (by kernel_rfl) (by kernel_rfl) rfl (by kernel_rfl) (fun _ _ _ h => h) (Or.inl ⟨by rfl, ?yb5⟩) (by assumption) ?rb5
        case yb5 => (intro w' hSw; go_simp)
        simp only [Act.put, List.setIfInBounds_toArray, List.set_cons_succ, List.set_cons_zero]
        refine wpAnyH_ready (rs := [8]) (by kernel_rfl) (by simp) ?_
        refine AllReadyH.cons (o := _) rfl (fun K hK => ?_) AllReadyH.nil
        go_simp
        refine hK.out _ _ ?_ (fun hHeld => ?_)
        · exact B4
        clear hK K
        try simp only [Act.put]
        refine listH (l2 := #[true, true, true, true, true, true, true, true, true]) (by kernel_rfl) ?_
        refine wpAnyH_done (by kernel_rfl) ?_ _
        go_wp2_with fail
        go_roundg (n - (j + 1))
        case measure => have := hk.out; omega
        case rel => exact ⟨j + 1, by omega, rfl, by go_num, ⟨_, _, heap_setBlock_same hb3 _, HSTEP.out⟩, below_setBlock hB3 hb3 (Nat.le_refl _) _⟩
    · obtain rfl : j = n := by omega
      go_wp2_with fail
      go_ret
      exact ⟨w.heap.size, es, clock, rfl, HM.out, HC.out, Nat.le_refl _, hb⟩

def hasLog (xs : List LLog) (q s : Int) : Bool := xs.any fun l => (l.who == q) && (l.seq == s)
theorem hasLog_iff {xs : List LLog} {q s : Int} : hasLog xs q s = true ↔ ∃ k l, k < xs.length ∧ xs[k]? = some l ∧ l.who = q ∧ l.seq = s := by
  unfold hasLog
  rw [List.any_eq_true]
  constructor
  · rintro ⟨l, hl, h⟩
    obtain ⟨k, hk⟩ := List.getElem?_of_mem hl
    simp only [Bool.and_eq_true, beq_iff_eq] at h
    exact ⟨k, l, (List.getElem?_eq_some_iff.1 hk).1, hk, h⟩
  · rintro ⟨k, l, _, hl, h⟩
    exact ⟨l, List.mem_of_getElem? hl, by simpa using h⟩
theorem has_any {W : World} {b : Nat} {es : Array MapEntry} {clock : Nat} (xs : List LLog) (n : Nat) (q s : Int) (hn : n = xs.length) (hb : W.heap[b]? = some (.map es clock)) (hC : CM es clock xs n) (hq : Fits q) (hs : Fits s) :
    Calls Try.prog 23 #[.map (some b), .int .i64 q, .int .i64 s] W fun e w' => e = .returned (.bool (hasLog xs q s)) ∧ w' = W := by
  subst hn
  rcases look_any hb hC.keys hq hs with ⟨h1, h2⟩ | ⟨i, e, h1, h2, h3⟩
  · have hf : hasLog xs q s = false := by
      rcases h : hasLog xs q s with _ | _
      · rfl
      · obtain ⟨x, hx, hk⟩ := (hC.has q s).2 (hasLog_iff.1 h)
        exact absurd hk (h2 x hx)
    have HF := hidMk hf
    have h1' : (Instr.lookup 69 (.map (some b)) (.agg #[.int .i64 q, .int .i64 s]) false).run Try.prog W = .ok (.int .i64 0) W := h1
    clear hf h2 h1
    go_enter Try.func23, Try.ntmps23
    go_wp2
    go_ret
    exact ⟨ret_bool HF.out.symm, rfl⟩
  · obtain ⟨m, hv, hm1, hm2⟩ := hC.vs e (List.mem_of_getElem? h1)
    have hf : hasLog xs q s = true := hasLog_iff.2 ((hC.has q s).1 ⟨e, List.mem_of_getElem? h1, h2⟩)
    have HF := hidMk hf
    have h1' : (Instr.lookup 69 (.map (some b)) (.agg #[.int .i64 q, .int .i64 s]) false).run Try.prog W = .ok (.int .i64 (m : Int)) W := by rw [← hv]; exact h3
    have hm3 : (0 : Int) < (m : Int) := by omega
    clear hf h2 h1 h3
    go_enter Try.func23, Try.ntmps23
    go_wp2
    go_ret
    exact ⟨ret_bool (by rw [HF.out]; simp; omega), rfl⟩

set_option maxHeartbeats 2000000 in
theorem specToldHas (a : Option Addr) (n c : Nat) (xs : List LLog) (q s : Int) (L U : Nat) (w : World) (hU : U ≤ w.heap.size) (H : RowsAt 4 LogE w L U a n xs) :
    Calls Try.prog 7 #[.slice a n c, .int .i64 q, .int .i64 s] w fun e w' => e = .returned (.bool (hasLog xs q s)) ∧ Below w.heap.size w w' := by
  have hbd := H.bd
  unfold maxLen at hbd
  have hlen := hidMk H.len
  go_enter Try.func7, Try.ntmps7
  go_wp2_with fail
  go_loopg [7] n (fun g i wr => ∃ j : Nat, j ≤ n ∧ Hid (g = n - j) ∧ i = .int .i64 j ∧ Hid (hasLog xs q s = (xs.drop j).any fun l => (l.who == q) && (l.seq == s)) ∧ Below w.heap.size w wr)
  case atStart => exact ⟨0, Nat.zero_le _, by show _ = _; omega, rfl, by show _ = _; simp [hasLog], Below.refl _ _⟩
  case round =>
    obtain ⟨j, hj, hk, rfl, hq, hb⟩ := hrel
    by_cases hlt : j < n
    · obtain ⟨b, off, ha, hL, hbU, hc⟩ := H.at_ (by omega)
      subst ha
      obtain ⟨x, vs, he, hc, hE⟩ := hc j hlt
      obtain ⟨q2, s2, a1, n1, c1', a2, n2, c2', rfl, hK⟩ := hE
      have c0 := hc 0 _ rfl
      have c1 := hc 1 _ rfl
      simp only [Nat.add_zero] at c0
      rw [← hb.cell (by simp; omega)] at c0 c1
      have hlt' : (j : Int) < (n : Int) := by omega
      have HQ : Hid (hasLog xs q s = ((q2 == q) && (s2 == s) || (xs.drop (j + 1)).any fun l => (l.who == q) && (l.seq == s))) := by show _ = _; rw [hq.out, drop_cons he, List.any_cons, ← hK.q, ← hK.s]
      clear he hc hK hq
      rcases h1 : (q2 == q) with _ | _
      · have HY : Hid (hasLog xs q s = (xs.drop (j + 1)).any fun l => (l.who == q) && (l.seq == s)) := by show _ = _; rw [HQ.out, h1]; rfl
        clear HQ
        go_wp2_with fail
        go_roundg (n - (j + 1))
        case measure => have := hk.out; omega
        case rel => exact ⟨j + 1, by omega, rfl, by go_num, HY.out, hb⟩
      rcases h2 : (s2 == s) with _ | _
      · have HY : Hid (hasLog xs q s = (xs.drop (j + 1)).any fun l => (l.who == q) && (l.seq == s)) := by show _ = _; rw [HQ.out, h1, h2]; rfl
        clear HQ
        go_wp2_with fail
        go_roundg (n - (j + 1))
        case measure => have := hk.out; omega
        case rel => exact ⟨j + 1, by omega, rfl, by go_num, HY.out, hb⟩
      · have HY : Hid (hasLog xs q s = true) := by show _ = _; rw [HQ.out, h1, h2]; rfl
        clear HQ
        go_wp2_with fail
        go_ret
        exact ⟨ret_bool HY.out.symm, hb⟩
    · have HN : Hid (hasLog xs q s = false) := by
        show _ = _
        rw [hq.out, List.drop_of_length_le (by have := hlen.out; omega)]; rfl
      go_wp2_with fail
      go_ret
      exact ⟨ret_bool HN.out.symm, hb⟩

theorem implToldHas (a : Option Addr) (n c : Nat) (xs : List LLog) (q s : Int) (L U : Nat) (w : World) (hU : U ≤ w.heap.size) (H : RowsAt 4 LogE w L U a n xs) (hf : ∀ l ∈ xs, Fits l.who ∧ Fits l.seq) (hq : Fits q) (hs : Fits s) :
    Calls Try.prog 9 #[.slice a n c, .int .i64 q, .int .i64 s] w fun e w' => e = .returned (.bool (hasLog xs q s)) ∧ Below w.heap.size w w' := by
  have hlen := hidMk H.len
  go_enter Try.func9, Try.ntmps9
  go_wp2_with fail
  refine (countOwners_any _ _ _ xs L U _ hU H hf).mono ?_
  rintro e w1 ⟨b, es, clock, rfl, hb, hC, hlo, hb1⟩
  go_wp2_with fail
  refine (has_any xs n q s hlen.out hb hC hq hs).mono ?_
  rintro e w2 ⟨rfl, rfl⟩
  go_wp2_with fail
  go_ret
  exact ⟨rfl, hb1⟩
end Go.Proofs.Ytohimbdmhljocaa

/- A row's closed facts out of those on the whole program and out of those on one function. -/
namespace Go.Proofs.Ytohimbdmhljocaa
theorem band {a b : Bool} (h : a = true) (k : b = true) : (a && b) = true := by rw [h, k]; rfl
theorem closedOf {f : FuncId} {fn : Func} {s : ChangeSpec} {c : OpenClaim}
    (e1 : c.plainKeys = false) (e2 : c.lifted = Rows.fnExactWorldOpenRow.lifted) (e3 : c.make = Rows.fnExactWorldOpenRow.make)
    (k1 : c.wf (OpenSpec.ofChange s) = true) (k2 : fn.params.all (Try.prog.readableRec ·) = true) (k3 : namedTie Try.prog c.named s.vars = true)
    (k4 : (c.stops == []) = true) (k5 : (c.knobs == []) = true)
    (k6 : (c.inPlace == Try.prog.inPlace f) = true) (k7 : (c.unfollowed == Try.prog.unfollowed f) = true) (k8 : (c.recurses == Try.prog.recurses f) = true) (k9 : (c.named == Try.prog.varsNamed f) = true)
    (k10 : (c.maps == (fn.params.toList ++ s.plain.varTypes Try.prog).any (Try.prog.mapsRec ·)) = true) (k11 : (c.ifaces == (fn.params.toList ++ s.plain.varTypes Try.prog).any (Try.prog.ifacesRec ·)) = true) (k12 : (c.mapsOut == Try.prog.mapsAmong fn.resultTypes.toList) = true)
    (k13 : (c.loops == (fn.params.toList ++ s.plain.varTypes Try.prog).any (Try.prog.loopsFrom ·)) = true) (k14 : (c.wideKeys == (fn.params.toList ++ s.plain.varTypes Try.prog ++ fn.resultTypes.toList).any (Try.prog.wideKeysFrom ·)) = true)
    (k15 : s.vars.all (Try.prog.varReadable ·) = true) (k16 : fn.resultTypes.all (fun t => Try.prog.readableRec t && decide (t < Try.prog.types.size)) = true) (k17 : (c.ifacesOut == fn.resultTypes.toList.any (Try.prog.ifacesRec ·)) = true) (k18 : (c.loopsOut == fn.resultTypes.toList.any (Try.prog.loopsFrom ·)) = true)
    (k19 : c.shortTexts.isNone = true)
    (k20 : c.domain = []) (k20' : c.kinds = []) (k21 : (c.pinned == c.pinnedBy) = true)
    (k22 : (c.veiled == (fn.params.toList ++ s.plain.varTypes Try.prog ++ fn.resultTypes.toList).any (Try.prog.veiledRec ·)) = true) (k23 : c.veiledFits Try.prog fn.params.toList (fn.params.toList ++ s.plain.varTypes Try.prog ++ fn.resultTypes.toList) = true) :
    joinedFacts Try.prog f fn s c = true := by
  have m1 : (c.plainKeys == Try.prog.plainKeys) = true := by rw [e1]; exact fKeys
  have m2 : (c.lifted == Try.prog.liftsFinal) = true := by rw [e2]; exact fFinal
  have m3 : (Try.prog.make == some c.make) = true := by rw [e3]; exact fMake
  have m4 := fLaid
  have m5 := fMaps
  have m6 := fStops
  have m7 := fKnobs
  have m8 := fHeard
  have m9 := fEnter
  unfold joinedFacts
  repeat' (with_reducible apply band)
  all_goals (first | with_reducible assumption | (rw [k20, k20']; rfl))
end Go.Proofs.Ytohimbdmhljocaa
