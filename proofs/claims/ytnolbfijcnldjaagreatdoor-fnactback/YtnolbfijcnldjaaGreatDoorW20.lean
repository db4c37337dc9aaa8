/- Lemmas that the proofs of this seat share: TrialC, TrialD, SlimM, MarkO. -/
import Derived.Test.YtnolbfijcnldjaaGreatDoorW19
import Derived.Test.YtnolbfijcnldjaaGreatDoorW05
import Derived.Deep.RegionWith
import Derived.RowKitTokens
import Derived.Test.YtnolbfijcnldjaaGreatDoorW03
import Derived.Test.YtnolbfijcnldjaaGreatDoorW06
import Derived.Test.YtnolbfijcnldjaaGreatDoorW08
import Derived.Test.YtnolbfijcnldjaaGreatDoorW13
import Derived.Test.YtnolbfijcnldjaaGreatDoorW01
import Derived.Test.YtnolbfijcnldjaaGreatDoorW09
import Derived.Test.YtnolbfijcnldjaaGreatDoorW14
/- isWorn, deedOf, attempt: what is done to a trial, or why not. -/
namespace Go.Proofs.YtnolbfijcnldjaaGreatDoor
open Go.RowKit

set_option maxHeartbeats 2000000 in
set_option maxRecDepth 20000 in
theorem worn_t (b c n : Nat) (o : LOp) (os : List LObj) (vs : Nat → Value) (B : Nat) (w : World) (hs : specOk os = true) (hn : n = 32) (hz : OpSz o) (H : OwnT w B b c os vs) :
    Calls Tryz.prog 116 #[.agg #[.slice (some ⟨b, 0, none⟩) n c], .agg #[.int .i64 o.kind, .int .i64 o.dir, .string o.name, .int .i64 o.dir2, .string o.name2, .int .i64 o.id, .string o.text]] w fun e w' => e = .returned (.bool (wornB os (opIds o))) ∧ Below w.heap.size w w' := by
  have hlen := ok_len hs
  have HBD : Hid (∀ i ∈ opIds o, i < 32) := opIds_bd o
  have HOT : Hid (OwnT w B b c os vs) := H
  have HOK : Hid (∀ (k : Nat), k < 32 → ∃ p, os[k]? = some p ∧ 0 ≤ p.ver ∧ p.ver ≤ 1000000) := fun k hk => by
    have ho : os[k]? = some (os[k]'(by omega)) := by simp [show k < os.length by omega]
    exact ⟨_, ho, ok_ver hs ho⟩
  have hbl := H.lt
  have HN : Hid (n = 32) := hn
  have hA : Below w.heap.size w ((w.alloc (Obj.cells #[.slice (some ⟨b, 0, none⟩) n c] 85)).alloc (Obj.cells #[.int .i64 o.kind, .int .i64 o.dir, .string o.name, .int .i64 o.dir2, .string o.name2, .int .i64 o.id, .string o.text] 27)) := ((Below.refl _ _).alloc (Nat.le_refl _) _).alloc (by simp) _
  clear hn hlen hs H
  go_enter Tryz.func116, Tryz.ntmps116
  go_wp2_with fail
  refine (implOpIds o _ hz).mono ?_
  rintro e w1 ⟨⟨v1, rfl, hv1⟩, hb1⟩
  obtain ⟨ia, ic, rfl, hI⟩ := hv1.out.at_
  have hB1 : Below w.heap.size w w1 := hA.trans (hb1.mono (by simp; omega))
  have t0 : w1.cell? ⟨w.heap.size, 0, none⟩ = some (.slice (some ⟨b, 0, none⟩) n c) := by rw [hb1.cell (by simp; omega)]; simp [go_sem]
  have hz1 : w.heap.size + 1 < w1.heap.size := by have := hb1.size; simp at this; omega
  obtain ⟨m, hm⟩ : ∃ m, m = (opIds o).length := ⟨_, rfl⟩
  have hle := opIds_le o
  rw [← hm] at hI hle ⊢
  have HM : Hid (m = (opIds o).length) := hm
  have HII : Hid (IntsAt w1 ((w.alloc (Obj.cells #[.slice (some ⟨b, 0, none⟩) n c] 85)).alloc (Obj.cells #[.int .i64 o.kind, .int .i64 o.dir, .string o.name, .int .i64 o.dir2, .string o.name2, .int .i64 o.id, .string o.text] 27)).heap.size w1.heap.size ia m (opIds o)) := hI
  have HB1 : Hid (Below w.heap.size w w1) := hB1
  clear hv1 hb1 hI hm hA
  go_wp2_with fail
  go_loopg [10] m (fun g i wr => ∃ j : Nat, j ≤ m ∧ Hid (g = m - j) ∧ i = .int .i64 j ∧ Hid (∀ q, q < j → ∀ k, (opIds o)[q]? = some k → oldB os k = false) ∧ wr = w1)
  case atStart => exact ⟨0, Nat.zero_le _, rfl, rfl, fun q hq => by omega, rfl⟩
  case round =>
    obtain ⟨j, hj, hk, rfl, hq, rfl⟩ := hrel
    by_cases hlt : j < m
    · obtain ⟨g, k, rfl, hg1, hg2, hek, hc0⟩ := HII.out.2 j hlt
      have HEK : Hid ((opIds o)[j]? = some k) := hek
      have hk32 : k < 32 := HBD.out k (List.mem_of_getElem? hek)
      obtain ⟨p, hp, hp0, hp1⟩ := HOK.out k hk32
      have HP : Hid (os[k]? = some p) := hp
      have hver : wr.cell? ⟨b, k * 4 + 1, none⟩ = some (.int .i64 p.ver) := by rw [HB1.out.cell (by simpa using hbl)]; exact (HOT.out.at_ k p hp).2.2.1
      have hkn : (k : Int) < (n : Int) := by have := HN.out; omega
      have hk0 : (0 : Int) ≤ (k : Int) := by omega
      have hltI : (j : Int) < (m : Int) := by omega
      have hbw : b < wr.heap.size := by have := HB1.out.size; omega
      clear hek hp
      rcases t1 : (p.ver == 1000000) with _ | _
      · have HF : Hid (oldB os k = false) := by show _ = _; unfold oldB; rw [HP.out]; simp at t1 ⊢; omega
        go_wp2_with fail
        go_roundg (m - (j + 1))
        case measure => have := hk.out; omega
        case rel =>
          refine ⟨j + 1, by omega, rfl, by go_num, fun q hq2 k2 hk2 => ?_, rfl⟩
          by_cases e : q = j
          · subst e; rw [HEK.out] at hk2; cases hk2; exact HF.out
          · exact hq.out q (by omega) k2 hk2
      · have HF : Hid (wornB os (opIds o) = true) := by
          show _ = _
          unfold wornB
          rw [List.any_eq_true]
          refine ⟨k, List.mem_of_getElem? HEK.out, ?_⟩
          unfold oldB; rw [HP.out]; simp at t1 ⊢; omega
        go_wp2_with fail
        go_ret
        exact ⟨ret_bool (by rw [HF.out]), HB1.out⟩
    · have HF : Hid (wornB os (opIds o) = false) := by
        show _ = _
        unfold wornB
        rw [List.any_eq_false]
        intro k hk2
        obtain ⟨q, hq2, rfl⟩ := List.getElem_of_mem hk2
        have := hq.out q (by have := HM.out; omega) (opIds o)[q] (by simp [hq2])
        simp [this]
      go_wp2_with fail
      go_ret
      exact ⟨ret_bool (by rw [HF.out]), HB1.out⟩

theorem deedOf1 (o : LOp) (w : World) (hk : o.kind = 1) : Calls Tryz.prog 117 #[.agg #[.int .i64 o.kind, .int .i64 o.dir, .string o.name, .int .i64 o.dir2, .string o.name2, .int .i64 o.id, .string o.text]] w fun e w' => e = .returned (.iface 179 (.agg #[.int .i64 o.kind, .int .i64 o.dir, .string o.name, .int .i64 o.dir2, .string o.name2, .int .i64 o.id, .string o.text, .int .i64 1])) ∧ Below w.heap.size w w' := by
  have h1 : (o.kind == 1) = true := by rw [hk]; rfl
  clear hk
  go_enter Tryz.func117, Tryz.ntmps117
  go_wp2_with fail
  go_ret
  exact ⟨rfl, (Below.refl _ _).alloc (Nat.le_refl _) _⟩
theorem deedOf2 (o : LOp) (w : World) (hk : o.kind = 2) : Calls Tryz.prog 117 #[.agg #[.int .i64 o.kind, .int .i64 o.dir, .string o.name, .int .i64 o.dir2, .string o.name2, .int .i64 o.id, .string o.text]] w fun e w' => e = .returned (.iface 179 (.agg #[.int .i64 o.kind, .int .i64 o.dir, .string o.name, .int .i64 o.dir2, .string o.name2, .int .i64 o.id, .string o.text, .int .i64 2])) ∧ Below w.heap.size w w' := by
  have h1 : (o.kind == 1) = false := by rw [hk]; rfl
  have h2 : (o.kind == 2) = true := by rw [hk]; rfl
  clear hk
  go_enter Tryz.func117, Tryz.ntmps117
  go_wp2_with fail
  go_ret
  exact ⟨rfl, (Below.refl _ _).alloc (Nat.le_refl _) _⟩
theorem deedOf3 (o : LOp) (w : World) (hk : o.kind = 3) : Calls Tryz.prog 117 #[.agg #[.int .i64 o.kind, .int .i64 o.dir, .string o.name, .int .i64 o.dir2, .string o.name2, .int .i64 o.id, .string o.text]] w fun e w' => e = .returned (.iface 181 (.agg #[.int .i64 o.kind, .int .i64 o.dir, .string o.name, .int .i64 o.dir2, .string o.name2, .int .i64 o.id, .string o.text])) ∧ Below w.heap.size w w' := by
  have h1 : (o.kind == 1) = false := by rw [hk]; rfl
  have h2 : (o.kind == 2) = false := by rw [hk]; rfl
  have h3 : (o.kind == 3) = true := by rw [hk]; rfl
  clear hk
  go_enter Tryz.func117, Tryz.ntmps117
  go_wp2_with fail
  go_ret
  exact ⟨rfl, (Below.refl _ _).alloc (Nat.le_refl _) _⟩
theorem deedOf4 (o : LOp) (w : World) (hk : o.kind = 4) : Calls Tryz.prog 117 #[.agg #[.int .i64 o.kind, .int .i64 o.dir, .string o.name, .int .i64 o.dir2, .string o.name2, .int .i64 o.id, .string o.text]] w fun e w' => e = .returned (.iface 182 (.agg #[.int .i64 o.kind, .int .i64 o.dir, .string o.name, .int .i64 o.dir2, .string o.name2, .int .i64 o.id, .string o.text])) ∧ Below w.heap.size w w' := by
  have h1 : (o.kind == 1) = false := by rw [hk]; rfl
  have h2 : (o.kind == 2) = false := by rw [hk]; rfl
  have h3 : (o.kind == 3) = false := by rw [hk]; rfl
  have h4 : (o.kind == 4) = true := by rw [hk]; rfl
  clear hk
  go_enter Tryz.func117, Tryz.ntmps117
  go_wp2_with fail
  go_ret
  exact ⟨rfl, (Below.refl _ _).alloc (Nat.le_refl _) _⟩
theorem deedOf5 (o : LOp) (w : World) (hk : o.kind = 5) : Calls Tryz.prog 117 #[.agg #[.int .i64 o.kind, .int .i64 o.dir, .string o.name, .int .i64 o.dir2, .string o.name2, .int .i64 o.id, .string o.text]] w fun e w' => e = .returned (.iface 183 (.agg #[.int .i64 o.kind, .int .i64 o.dir, .string o.name, .int .i64 o.dir2, .string o.name2, .int .i64 o.id, .string o.text])) ∧ Below w.heap.size w w' := by
  have h1 : (o.kind == 1) = false := by rw [hk]; rfl
  have h2 : (o.kind == 2) = false := by rw [hk]; rfl
  have h3 : (o.kind == 3) = false := by rw [hk]; rfl
  have h4 : (o.kind == 4) = false := by rw [hk]; rfl
  clear hk
  go_enter Tryz.func117, Tryz.ntmps117
  go_wp2_with fail
  go_ret
  exact ⟨rfl, (Below.refl _ _).alloc (Nat.le_refl _) _⟩
theorem mM229 (v : Value) (w : World) : (Go.method 371 179 v "loop.example/shieling/impl.do").run Tryz.prog w = .ok (223, v) w := by kernel_rfl
theorem mM231 (v : Value) (w : World) : (Go.method 371 181 v "loop.example/shieling/impl.do").run Tryz.prog w = .ok (232, v) w := by kernel_rfl
theorem mM232 (v : Value) (w : World) : (Go.method 371 182 v "loop.example/shieling/impl.do").run Tryz.prog w = .ok (235, v) w := by kernel_rfl
theorem mM233 (v : Value) (w : World) : (Go.method 371 183 v "loop.example/shieling/impl.do").run Tryz.prog w = .ok (236, v) w := by kernel_rfl

/-- The two boxes of an attempt: the trial, and what is done. -/
structure ABox (W : World) (S b n c : Nat) (o : LOp) : Prop where
  k0 : W.cell? ⟨S + 1, 0, none⟩ = some (.int .i64 o.kind)
  k1 : W.cell? ⟨S + 1, 1, none⟩ = some (.int .i64 o.dir)
  k2 : W.cell? ⟨S + 1, 2, none⟩ = some (.string o.name)
  k3 : W.cell? ⟨S + 1, 3, none⟩ = some (.int .i64 o.dir2)
  k4 : W.cell? ⟨S + 1, 4, none⟩ = some (.string o.name2)
  k5 : W.cell? ⟨S + 1, 5, none⟩ = some (.int .i64 o.id)
  k6 : W.cell? ⟨S + 1, 6, none⟩ = some (.string o.text)
  tr : W.cell? ⟨S, 0, none⟩ = some (.slice (some ⟨b, 0, none⟩) n c)
  sz : S + 1 < W.heap.size
theorem ABox.next {W W' : World} {S b n c : Nat} {o : LOp} (h : ABox W S b n c o) (hb : Below W.heap.size W W') : ABox W' S b n c o := by
  have h0 : ∀ j, W'.cell? ⟨S, j, none⟩ = W.cell? ⟨S, j, none⟩ := fun j => hb.cell (by have := h.sz; simp; omega)
  have h1 : ∀ j, W'.cell? ⟨S + 1, j, none⟩ = W.cell? ⟨S + 1, j, none⟩ := fun j => hb.cell (by have := h.sz; simp; omega)
  exact ⟨by rw [h1]; exact h.k0, by rw [h1]; exact h.k1, by rw [h1]; exact h.k2, by rw [h1]; exact h.k3, by rw [h1]; exact h.k4, by rw [h1]; exact h.k5, by rw [h1]; exact h.k6, by rw [h0]; exact h.tr, by have := h.sz; have := hb.size; omega⟩
theorem ABox.after {w w3 w4 : World} {B b c n : Nat} {o : LOp} {os' : List LObj} {vs vs' : Nat → Value} (h : ABox w3 w.heap.size b n c o) (hp : DPost w3 w4 B b c n os' vs vs') (hb : b < w.heap.size) (hv : ∀ q g, q < n → (vs q).ownBlock = some g → g < w.heap.size) : ABox w4 w.heap.size b n c o := by
  have hk : ∀ q, w.heap.size ≤ q → q ≤ w.heap.size + 1 → w4.heap[q]? = w3.heap[q]? := fun q h1 h2 => hp.kt q (by have := h.sz; omega) (by omega) fun i hi e => by have := hv i q hi e; omega
  have h0 : ∀ j, w4.cell? ⟨w.heap.size, j, none⟩ = w3.cell? ⟨w.heap.size, j, none⟩ := fun j => World.cell?_of_block (w := w3) (hk _ (by simp) (by simp))
  have h1 : ∀ j, w4.cell? ⟨w.heap.size + 1, j, none⟩ = w3.cell? ⟨w.heap.size + 1, j, none⟩ := fun j => World.cell?_of_block (w := w3) (hk _ (by simp) (by simp))
  exact ⟨by rw [h1]; exact h.k0, by rw [h1]; exact h.k1, by rw [h1]; exact h.k2, by rw [h1]; exact h.k3, by rw [h1]; exact h.k4, by rw [h1]; exact h.k5, by rw [h1]; exact h.k6, by rw [h0]; exact h.tr, by have := h.sz; have := hp.below.size; omega⟩

set_option maxHeartbeats 4000000 in
set_option maxRecDepth 20000 in
theorem attempt_any (a : Nat → Addr) (U B b c n : Nat) (o : LOp) (os : List LObj) (vs : Nat → Value) (w : World) (hU : U ≤ B) (HS : Sents w U a) (hB : B ≤ w.heap.size) (hs : specOk os = true) (hn : n = 32) (hz : OpSz o) (H : OwnT w B b c os vs) (hok : opOk o = true) :
    Calls Tryz.prog 64 #[.agg #[.slice (some ⟨b, 0, none⟩) n c], .agg #[.int .i64 o.kind, .int .i64 o.dir, .string o.name, .int .i64 o.dir2, .string o.name2, .int .i64 o.id, .string o.text]] w fun e w' => DeedEnd w a B b c n vs (actDo os o) e w' := by
  have hUw : U ≤ w.heap.size := by omega
  have hbl := H.lt
  have HV : Hid (∀ q g, q < n → (vs q).ownBlock = some g → g < w.heap.size) := fun q g hq hg => H.vlt (by rw [hn, ok_len hs]) q g hq hg
  have hOP := fun w => implOpOk o w hz
  simp only [LOp.val] at hOP
  rw [hok] at hOP
  have hA : Below w.heap.size w ((w.alloc (Obj.cells #[.slice (some ⟨b, 0, none⟩) n c] 85)).alloc (Obj.cells #[.int .i64 o.kind, .int .i64 o.dir, .string o.name, .int .i64 o.dir2, .string o.name2, .int .i64 o.id, .string o.text] 27)) := ((Below.refl _ _).alloc (Nat.le_refl _) _).alloc (by simp) _
  have h0 : ABox ((w.alloc (Obj.cells #[.slice (some ⟨b, 0, none⟩) n c] 85)).alloc (Obj.cells #[.int .i64 o.kind, .int .i64 o.dir, .string o.name, .int .i64 o.dir2, .string o.name2, .int .i64 o.id, .string o.text] 27)) w.heap.size b n c o := ⟨by simp [go_sem], by simp [go_sem], by simp [go_sem], by simp [go_sem], by simp [go_sem], by simp [go_sem], by simp [go_sem], by simp [go_sem], by simp⟩
  have HN : Hid (n = 32) := hn
  clear hn
  go_enter Tryz.func64, Tryz.ntmps64
  go_wp2_with fail
  refine (hOP _).mono ?_
  rintro e w1 ⟨rfl, hb1⟩
  have h1 := h0.next hb1
  have hB1 : Below w.heap.size w w1 := hA.trans (hb1.mono hA.size)
  clear hb1 h0 hA hOP
  have e0 := h1.k0
  have e1 := h1.k1
  have e2 := h1.k2
  have e3 := h1.k3
  have e4 := h1.k4
  have e5 := h1.k5
  have e6 := h1.k6
  have e7 := h1.tr
  go_wp2_with fail
  refine (worn_t b c n o os vs B w1 hs HN.out hz (H.below hB1)).mono ?_
  rintro e w2 ⟨rfl, hb2⟩
  have h2 := h1.next hb2
  have hB2 : Below w.heap.size w w2 := hB1.trans (hb2.mono hB1.size)
  clear hb2 h1 hB1 e0 e1 e2 e3 e4 e5 e6 e7
  rcases tw : wornB os (opIds o) with _ | _
  case true =>
    have s0 : w2.cell? ⟨0, 0, none⟩ = some (.iface 224 (.pointer (some (a 0)))) := (HS.below hB2 hUw).cell 0 (by omega)
    have HW : Hid (wornB os (opIds o) = true) := tw
    go_wp2_with fail
    go_ret
    exact DeedEnd.no 8 (by omega) (by unfold actDo; rw [if_pos HW.out]; rfl) H hB hB2 rfl
  have HW : Hid (wornB os (opIds o) = false) := tw
  clear tw
  have hkd : o.kind = 1 ∨ o.kind = 2 ∨ o.kind = 3 ∨ o.kind = 4 ∨ o.kind = 5 := by
    apply Classical.byContradiction
    intro h
    have := (opOk_nokind h).1
    rw [this] at hok
    cases hok
  go_wp2_with fail
  rcases hkd with hk | hk | hk | hk | hk
  · have hkd : Hid (o.kind = 1) := hk
    have HACT : Hid (actDo os o = actNew os o) := by show _ = _; unfold actDo; rw [if_neg (by rw [HW.out]; simp)]; simp [hkd.out]
    clear hk
    go_upto_region 3 with fail
    have h2d := h2.next (Below.refl _ _).drew
    have hB2d : Below w.heap.size w w2.drew := hB2.trans ((Below.refl _ _).drew.mono hB2.size)
    refine wp_region_held_drew (S := (fun W => ABox W w.heap.size b n c o)) (by kernel_rfl) ?_ (fun hHeld => ?_)
    · exact h2d
    refine listH (l2 := #[false, false, false, false, false]) (by kernel_rfl) ?_
    refine takeH (i := 0) (oi := _) (v := ?vt1x0) 14 #[true, false, false, false, false] rfl (by kernel_rfl) (by kernel_rfl) (by kernel_rfl) rfl (by kernel_rfl) (fun _ _ _ h => h) (Or.inl ⟨by rfl, ?yt1x0⟩) (by assumption) ?rt1x0
    case yt1x0 => (intro w' hSw; (try dsimp only at hSw); have x0 := hSw.k0; have x1 := hSw.k1; have x2 := hSw.k2; have x3 := hSw.k3; have x4 := hSw.k4; have x5 := hSw.k5; have x6 := hSw.k6; have x7 := hSw.tr; go_simp; try with_reducible rfl)
    simp only [Act.put, List.setIfInBounds_toArray, List.set_cons_succ, List.set_cons_zero]
    refine takeH (i := 2) (oi := _) (v := ?vt1x2) 16 #[true, false, true, false, false] rfl (by kernel_rfl) (by kernel_rfl) (by kernel_rfl) rfl (by kernel_rfl) (fun _ _ _ h => h) (Or.inl ⟨by rfl, ?yt1x2⟩) (by assumption) ?rt1x2
    case yt1x2 => (intro w' hSw; (try dsimp only at hSw); have x0 := hSw.k0; have x1 := hSw.k1; have x2 := hSw.k2; have x3 := hSw.k3; have x4 := hSw.k4; have x5 := hSw.k5; have x6 := hSw.k6; have x7 := hSw.tr; go_simp; try with_reducible rfl)
    simp only [Act.put, List.setIfInBounds_toArray, List.set_cons_succ, List.set_cons_zero]
    refine wpAnyH_ready (rs := [1]) (by kernel_rfl) (by simp) ?_
    refine AllReadyH.cons (o := _) rfl (fun K hK => ?_) AllReadyH.nil
    go_simp
    refine (deedOf1 o _ hkd.out).mono ?_
    rintro e w3 ⟨rfl, hb3⟩
    have h3 := h2d.next hb3
    have hB3 : Below w.heap.size w w3 := hB2d.trans (hb3.mono hB2d.size)
    go_wp2_with fail
    refine hK.out _ _ ?_ (fun hHeld => ?_)
    · exact h3
    clear hK K
    try simp only [Act.put]
    refine listH (l2 := #[true, true, true, false, false]) (by kernel_rfl) ?_
    refine wpAnyH_ready (rs := [3]) (by kernel_rfl) (by simp) ?_
    refine AllReadyH.cons (o := _) rfl (fun K hK => ?_) AllReadyH.nil
    go_simp
    rw [mM229]
    dsimp only [Result.andThen]
    go_simp
    refine (making_do 1 a U B b c n o os vs w3 hU (HS.below hB3 hUw) (by have := hB3.size; omega) hs HN.out hok hz (H.below hB3) (by rw [hkd.out]; simp)).mono ?_
    rintro e w4 ⟨k9, vs9, hk1, hk2, rfl, hP⟩
    have h4 : True := trivial
    go_wp2_with fail
    refine hK.out _ _ ?_ (fun hHeld => ?_)
    · exact h3.after hP hbl HV.out
    clear hK K
    try simp only [Act.put]
    refine listH (l2 := #[true, true, true, true, false]) (by kernel_rfl) ?_
    refine wpAnyH_ready (rs := [4]) (by kernel_rfl) (by simp) ?_
    refine AllReadyH.cons (o := _) rfl (fun K hK => ?_) AllReadyH.nil
    go_simp
    refine hK.out _ _ ?_ (fun hHeld => ?_)
    · exact h3.after hP hbl HV.out
    clear hK K
    try simp only [Act.put]
    refine listH (l2 := #[true, true, true, true, true]) (by kernel_rfl) ?_
    refine wpAnyH_done (by kernel_rfl) ?_ _

    go_wp2_with fail
    go_ret
    exact ⟨k9, vs9, by rw [HACT.out]; exact hk1, hk2, rfl, by rw [HACT.out]; exact (DPost.same H hB hB3).trans hP⟩
  · have hkd : Hid (o.kind = 2) := hk
    have HACT : Hid (actDo os o = actNew os o) := by show _ = _; unfold actDo; rw [if_neg (by rw [HW.out]; simp)]; simp [hkd.out]
    clear hk
    go_upto_region 3 with fail
    have h2d := h2.next (Below.refl _ _).drew
    have hB2d : Below w.heap.size w w2.drew := hB2.trans ((Below.refl _ _).drew.mono hB2.size)
    refine wp_region_held_drew (S := (fun W => ABox W w.heap.size b n c o)) (by kernel_rfl) ?_ (fun hHeld => ?_)
    · exact h2d
    refine listH (l2 := #[false, false, false, false, false]) (by kernel_rfl) ?_
    refine takeH (i := 0) (oi := _) (v := ?vt2x0) 14 #[true, false, false, false, false] rfl (by kernel_rfl) (by kernel_rfl) (by kernel_rfl) rfl (by kernel_rfl) (fun _ _ _ h => h) (Or.inl ⟨by rfl, ?yt2x0⟩) (by assumption) ?rt2x0
    case yt2x0 => (intro w' hSw; (try dsimp only at hSw); have x0 := hSw.k0; have x1 := hSw.k1; have x2 := hSw.k2; have x3 := hSw.k3; have x4 := hSw.k4; have x5 := hSw.k5; have x6 := hSw.k6; have x7 := hSw.tr; go_simp; try with_reducible rfl)
    simp only [Act.put, List.setIfInBounds_toArray, List.set_cons_succ, List.set_cons_zero]
    refine takeH (i := 2) (oi := _) (v := ?vt2x2) 16 #[true, false, true, false, false] rfl (by kernel_rfl) (by kernel_rfl) (by kernel_rfl) rfl (by kernel_rfl) (fun _ _ _ h => h) (Or.inl ⟨by rfl, ?yt2x2⟩) (by assumption) ?rt2x2
    case yt2x2 => (intro w' hSw; (try dsimp only at hSw); have x0 := hSw.k0; have x1 := hSw.k1; have x2 := hSw.k2; have x3 := hSw.k3; have x4 := hSw.k4; have x5 := hSw.k5; have x6 := hSw.k6; have x7 := hSw.tr; go_simp; try with_reducible rfl)
    simp only [Act.put, List.setIfInBounds_toArray, List.set_cons_succ, List.set_cons_zero]
    refine wpAnyH_ready (rs := [1]) (by kernel_rfl) (by simp) ?_
    refine AllReadyH.cons (o := _) rfl (fun K hK => ?_) AllReadyH.nil
    go_simp
    refine (deedOf2 o _ hkd.out).mono ?_
    rintro e w3 ⟨rfl, hb3⟩
    have h3 := h2d.next hb3
    have hB3 : Below w.heap.size w w3 := hB2d.trans (hb3.mono hB2d.size)
    go_wp2_with fail
    refine hK.out _ _ ?_ (fun hHeld => ?_)
    · exact h3
    clear hK K
    try simp only [Act.put]
    refine listH (l2 := #[true, true, true, false, false]) (by kernel_rfl) ?_
    refine wpAnyH_ready (rs := [3]) (by kernel_rfl) (by simp) ?_
    refine AllReadyH.cons (o := _) rfl (fun K hK => ?_) AllReadyH.nil
    go_simp
    rw [mM229]
    dsimp only [Result.andThen]
    go_simp
    refine (making_do 2 a U B b c n o os vs w3 hU (HS.below hB3 hUw) (by have := hB3.size; omega) hs HN.out hok hz (H.below hB3) (by rw [hkd.out]; simp)).mono ?_
    rintro e w4 ⟨k9, vs9, hk1, hk2, rfl, hP⟩
    have h4 : True := trivial
    go_wp2_with fail
    refine hK.out _ _ ?_ (fun hHeld => ?_)
    · exact h3.after hP hbl HV.out
    clear hK K
    try simp only [Act.put]
    refine listH (l2 := #[true, true, true, true, false]) (by kernel_rfl) ?_
    refine wpAnyH_ready (rs := [4]) (by kernel_rfl) (by simp) ?_
    refine AllReadyH.cons (o := _) rfl (fun K hK => ?_) AllReadyH.nil
    go_simp
    refine hK.out _ _ ?_ (fun hHeld => ?_)
    · exact h3.after hP hbl HV.out
    clear hK K
    try simp only [Act.put]
    refine listH (l2 := #[true, true, true, true, true]) (by kernel_rfl) ?_
    refine wpAnyH_done (by kernel_rfl) ?_ _

    go_wp2_with fail
    go_ret
    exact ⟨k9, vs9, by rw [HACT.out]; exact hk1, hk2, rfl, by rw [HACT.out]; exact (DPost.same H hB hB3).trans hP⟩
  · have hkd : Hid (o.kind = 3) := hk
    have HACT : Hid (actDo os o = actGone os o) := by show _ = _; unfold actDo; rw [if_neg (by rw [HW.out]; simp)]; simp [hkd.out]
    clear hk
    go_upto_region 3 with fail
    have h2d := h2.next (Below.refl _ _).drew
    have hB2d : Below w.heap.size w w2.drew := hB2.trans ((Below.refl _ _).drew.mono hB2.size)
    refine wp_region_held_drew (S := (fun W => ABox W w.heap.size b n c o)) (by kernel_rfl) ?_ (fun hHeld => ?_)
    · exact h2d
    refine listH (l2 := #[false, false, false, false, false]) (by kernel_rfl) ?_
    refine takeH (i := 0) (oi := _) (v := ?vt3x0) 14 #[true, false, false, false, false] rfl (by kernel_rfl) (by kernel_rfl) (by kernel_rfl) rfl (by kernel_rfl) (fun _ _ _ h => h) (Or.inl ⟨by rfl, ?yt3x0⟩) (by assumption) ?rt3x0
    case yt3x0 => (intro w' hSw; (try dsimp only at hSw); have x0 := hSw.k0; have x1 := hSw.k1; have x2 := hSw.k2; have x3 := hSw.k3; have x4 := hSw.k4; have x5 := hSw.k5; have x6 := hSw.k6; have x7 := hSw.tr; go_simp; try with_reducible rfl)
    simp only [Act.put, List.setIfInBounds_toArray, List.set_cons_succ, List.set_cons_zero]
    refine takeH (i := 2) (oi := _) (v := ?vt3x2) 16 #[true, false, true, false, false] rfl (by kernel_rfl) (by kernel_rfl) (by kernel_rfl) rfl (by kernel_rfl) (fun _ _ _ h => h) (Or.inl ⟨by rfl, ?yt3x2⟩) (by assumption) ?rt3x2
    case yt3x2 => (intro w' hSw; (try dsimp only at hSw); have x0 := hSw.k0; have x1 := hSw.k1; have x2 := hSw.k2; have x3 := hSw.k3; have x4 := hSw.k4; have x5 := hSw.k5; have x6 := hSw.k6; have x7 := hSw.tr; go_simp; try with_reducible rfl)
    simp only [Act.put, List.setIfInBounds_toArray, List.set_cons_succ, List.set_cons_zero]
    refine wpAnyH_ready (rs := [1]) (by kernel_rfl) (by simp) ?_
    refine AllReadyH.cons (o := _) rfl (fun K hK => ?_) AllReadyH.nil
    go_simp
    refine (deedOf3 o _ hkd.out).mono ?_
    rintro e w3 ⟨rfl, hb3⟩
    have h3 := h2d.next hb3
    have hB3 : Below w.heap.size w w3 := hB2d.trans (hb3.mono hB2d.size)
    go_wp2_with fail
    refine hK.out _ _ ?_ (fun hHeld => ?_)
    · exact h3
    clear hK K
    try simp only [Act.put]
    refine listH (l2 := #[true, true, true, false, false]) (by kernel_rfl) ?_
    refine wpAnyH_ready (rs := [3]) (by kernel_rfl) (by simp) ?_
    refine AllReadyH.cons (o := _) rfl (fun K hK => ?_) AllReadyH.nil
    go_simp
    rw [mM231]
    dsimp only [Result.andThen]
    go_simp
    refine (going_do a U B b c n o os vs w3 hU (HS.below hB3 hUw) (by have := hB3.size; omega) hs HN.out hok (H.below hB3)).mono ?_
    rintro e w4 ⟨k9, vs9, hk1, hk2, rfl, hP⟩
    have h4 : True := trivial
    go_wp2_with fail
    refine hK.out _ _ ?_ (fun hHeld => ?_)
    · exact h3.after hP hbl HV.out
    clear hK K
    try simp only [Act.put]
    refine listH (l2 := #[true, true, true, true, false]) (by kernel_rfl) ?_
    refine wpAnyH_ready (rs := [4]) (by kernel_rfl) (by simp) ?_
    refine AllReadyH.cons (o := _) rfl (fun K hK => ?_) AllReadyH.nil
    go_simp
    refine hK.out _ _ ?_ (fun hHeld => ?_)
    · exact h3.after hP hbl HV.out
    clear hK K
    try simp only [Act.put]
    refine listH (l2 := #[true, true, true, true, true]) (by kernel_rfl) ?_
    refine wpAnyH_done (by kernel_rfl) ?_ _

    go_wp2_with fail
    go_ret
    exact ⟨k9, vs9, by rw [HACT.out]; exact hk1, hk2, rfl, by rw [HACT.out]; exact (DPost.same H hB hB3).trans hP⟩
  · have hkd : Hid (o.kind = 4) := hk
    have HACT : Hid (actDo os o = actMove os o) := by show _ = _; unfold actDo; rw [if_neg (by rw [HW.out]; simp)]; simp [hkd.out]
    clear hk
    go_upto_region 3 with fail
    have h2d := h2.next (Below.refl _ _).drew
    have hB2d : Below w.heap.size w w2.drew := hB2.trans ((Below.refl _ _).drew.mono hB2.size)
    refine wp_region_held_drew (S := (fun W => ABox W w.heap.size b n c o)) (by kernel_rfl) ?_ (fun hHeld => ?_)
    · exact h2d
    refine listH (l2 := #[false, false, false, false, false]) (by kernel_rfl) ?_
    refine takeH (i := 0) (oi := _) (v := ?vt4x0) 14 #[true, false, false, false, false] rfl (by kernel_rfl) (by kernel_rfl) (by kernel_rfl) rfl (by kernel_rfl) (fun _ _ _ h => h) (Or.inl ⟨by rfl, ?yt4x0⟩) (by assumption) ?rt4x0
    case yt4x0 => (intro w' hSw; (try dsimp only at hSw); have x0 := hSw.k0; have x1 := hSw.k1; have x2 := hSw.k2; have x3 := hSw.k3; have x4 := hSw.k4; have x5 := hSw.k5; have x6 := hSw.k6; have x7 := hSw.tr; go_simp; try with_reducible rfl)
    simp only [Act.put, List.setIfInBounds_toArray, List.set_cons_succ, List.set_cons_zero]
    refine takeH (i := 2) (oi := _) (v := ?vt4x2) 16 #[true, false, true, false, false] rfl (by kernel_rfl) (by kernel_rfl) (by kernel_rfl) rfl (by kernel_rfl) (fun _ _ _ h => h) (Or.inl ⟨by rfl, ?yt4x2⟩) (by assumption) ?rt4x2
    case yt4x2 => (intro w' hSw; (try dsimp only at hSw); have x0 := hSw.k0; have x1 := hSw.k1; have x2 := hSw.k2; have x3 := hSw.k3; have x4 := hSw.k4; have x5 := hSw.k5; have x6 := hSw.k6; have x7 := hSw.tr; go_simp; try with_reducible rfl)
    simp only [Act.put, List.setIfInBounds_toArray, List.set_cons_succ, List.set_cons_zero]
    refine wpAnyH_ready (rs := [1]) (by kernel_rfl) (by simp) ?_
    refine AllReadyH.cons (o := _) rfl (fun K hK => ?_) AllReadyH.nil
    go_simp
    refine (deedOf4 o _ hkd.out).mono ?_
    rintro e w3 ⟨rfl, hb3⟩
    have h3 := h2d.next hb3
    have hB3 : Below w.heap.size w w3 := hB2d.trans (hb3.mono hB2d.size)
    go_wp2_with fail
    refine hK.out _ _ ?_ (fun hHeld => ?_)
    · exact h3
    clear hK K
    try simp only [Act.put]
    refine listH (l2 := #[true, true, true, false, false]) (by kernel_rfl) ?_
    refine wpAnyH_ready (rs := [3]) (by kernel_rfl) (by simp) ?_
    refine AllReadyH.cons (o := _) rfl (fun K hK => ?_) AllReadyH.nil
    go_simp
    rw [mM232]
    dsimp only [Result.andThen]
    go_simp
    refine (moving_do a U B b c n o os vs w3 hU (HS.below hB3 hUw) (by have := hB3.size; omega) hs HN.out hok hz (H.below hB3)).mono ?_
    rintro e w4 ⟨k9, vs9, hk1, hk2, rfl, hP⟩
    have h4 : True := trivial
    go_wp2_with fail
    refine hK.out _ _ ?_ (fun hHeld => ?_)
    · exact h3.after hP hbl HV.out
    clear hK K
    try simp only [Act.put]
    refine listH (l2 := #[true, true, true, true, false]) (by kernel_rfl) ?_
    refine wpAnyH_ready (rs := [4]) (by kernel_rfl) (by simp) ?_
    refine AllReadyH.cons (o := _) rfl (fun K hK => ?_) AllReadyH.nil
    go_simp
    refine hK.out _ _ ?_ (fun hHeld => ?_)
    · exact h3.after hP hbl HV.out
    clear hK K
    try simp only [Act.put]
    refine listH (l2 := #[true, true, true, true, true]) (by kernel_rfl) ?_
    refine wpAnyH_done (by kernel_rfl) ?_ _

    go_wp2_with fail
    go_ret
    exact ⟨k9, vs9, by rw [HACT.out]; exact hk1, hk2, rfl, by rw [HACT.out]; exact (DPost.same H hB hB3).trans hP⟩
  · have hkd : Hid (o.kind = 5) := hk
    have HACT : Hid (actDo os o = actText os o) := by show _ = _; unfold actDo; rw [if_neg (by rw [HW.out]; simp)]; simp [hkd.out]
    clear hk
    go_upto_region 3 with fail
    have h2d := h2.next (Below.refl _ _).drew
    have hB2d : Below w.heap.size w w2.drew := hB2.trans ((Below.refl _ _).drew.mono hB2.size)
    refine wp_region_held_drew (S := (fun W => ABox W w.heap.size b n c o)) (by kernel_rfl) ?_ (fun hHeld => ?_)
    · exact h2d
    refine listH (l2 := #[false, false, false, false, false]) (by kernel_rfl) ?_
    refine takeH (i := 0) (oi := _) (v := ?vt5x0) 14 #[true, false, false, false, false] rfl (by kernel_rfl) (by kernel_rfl) (by kernel_rfl) rfl (by kernel_rfl) (fun _ _ _ h => h) (Or.inl ⟨by rfl, ?yt5x0⟩) (by assumption) ?rt5x0
    case yt5x0 => (intro w' hSw; (try dsimp only at hSw); have x0 := hSw.k0; have x1 := hSw.k1; have x2 := hSw.k2; have x3 := hSw.k3; have x4 := hSw.k4; have x5 := hSw.k5; have x6 := hSw.k6; have x7 := hSw.tr; go_simp; try with_reducible rfl)
    simp only [Act.put, List.setIfInBounds_toArray, List.set_cons_succ, List.set_cons_zero]
    refine takeH (i := 2) (oi := _) (v := ?vt5x2) 16 #[true, false, true, false, false] rfl (by kernel_rfl) (by kernel_rfl) (by kernel_rfl) rfl (by kernel_rfl) (fun _ _ _ h => h) (Or.inl ⟨by rfl, ?yt5x2⟩) (by assumption) ?rt5x2
    case yt5x2 => (intro w' hSw; (try dsimp only at hSw); have x0 := hSw.k0; have x1 := hSw.k1; have x2 := hSw.k2; have x3 := hSw.k3; have x4 := hSw.k4; have x5 := hSw.k5; have x6 := hSw.k6; have x7 := hSw.tr; go_simp; try with_reducible rfl)
    simp only [Act.put, List.setIfInBounds_toArray, List.set_cons_succ, List.set_cons_zero]
    refine wpAnyH_ready (rs := [1]) (by kernel_rfl) (by simp) ?_
    refine AllReadyH.cons (o := _) rfl (fun K hK => ?_) AllReadyH.nil
    go_simp
    refine (deedOf5 o _ hkd.out).mono ?_
    rintro e w3 ⟨rfl, hb3⟩
    have h3 := h2d.next hb3
    have hB3 : Below w.heap.size w w3 := hB2d.trans (hb3.mono hB2d.size)
    go_wp2_with fail
    refine hK.out _ _ ?_ (fun hHeld => ?_)
    · exact h3
    clear hK K
    try simp only [Act.put]
    refine listH (l2 := #[true, true, true, false, false]) (by kernel_rfl) ?_
    refine wpAnyH_ready (rs := [3]) (by kernel_rfl) (by simp) ?_
    refine AllReadyH.cons (o := _) rfl (fun K hK => ?_) AllReadyH.nil
    go_simp
    rw [mM233]
    dsimp only [Result.andThen]
    go_simp
    refine (writing_do a U B b c n o os vs w3 hU (HS.below hB3 hUw) (by have := hB3.size; omega) hs HN.out hok hz (H.below hB3)).mono ?_
    rintro e w4 ⟨k9, vs9, hk1, hk2, rfl, hP⟩
    have h4 : True := trivial
    go_wp2_with fail
    refine hK.out _ _ ?_ (fun hHeld => ?_)
    · exact h3.after hP hbl HV.out
    clear hK K
    try simp only [Act.put]
    refine listH (l2 := #[true, true, true, true, false]) (by kernel_rfl) ?_
    refine wpAnyH_ready (rs := [4]) (by kernel_rfl) (by simp) ?_
    refine AllReadyH.cons (o := _) rfl (fun K hK => ?_) AllReadyH.nil
    go_simp
    refine hK.out _ _ ?_ (fun hHeld => ?_)
    · exact h3.after hP hbl HV.out
    clear hK K
    try simp only [Act.put]
    refine listH (l2 := #[true, true, true, true, true]) (by kernel_rfl) ?_
    refine wpAnyH_done (by kernel_rfl) ?_ _

    go_wp2_with fail
    go_ret
    exact ⟨k9, vs9, by rw [HACT.out]; exact hk1, hk2, rfl, by rw [HACT.out]; exact (DPost.same H hB hB3).trans hP⟩
end Go.Proofs.YtnolbfijcnldjaaGreatDoor

/- ActDo of the program and of the specification. -/
namespace Go.Proofs.YtnolbfijcnldjaaGreatDoor
open Go.RowKit

theorem turnM_len (os : List LObj) (j l : Nat) : (turnM os j l).length = os.length := by
  have h : ∀ os k, (turnL os k).length = os.length := fun os k => by unfold turnL; split <;> simp
  unfold turnM
  split <;> simp [h]
theorem actDo_len (os : List LObj) (o : LOp) : (actDo os o).1.length = os.length := by
  unfold actDo
  repeat' split
  · rfl
  · unfold actNew; repeat' split
    all_goals simp
  · unfold actGone; repeat' split
    all_goals simp
  · unfold actMove; repeat' split
    all_goals simp [turnM_len, kidsL_len]
  · unfold actText; repeat' split
    all_goals simp
/-- What ActDo answers. -/
def actR (os : List LObj) (o : LOp) : List LObj × Int := if specOk os = true then (if opOk o = true then actDo os o else (os, 8)) else ([], 8)
/-- An answer of ActDo: no tree, or one of its own. -/
def DoAt (w : World) (r : List LObj × Int) (e : Ending) (w' : World) : Prop :=
  ((r.1 = [] ∧ e = .returned (.tuple #[.agg #[.slice none 0 0], .int .i64 r.2])) ∨ ∃ b c vs, e = .returned (.tuple #[.agg #[.slice (some ⟨b, 0, none⟩) r.1.length c], .int .i64 r.2]) ∧ OwnT w' w.heap.size b c r.1 vs) ∧ Below w.heap.size w w'
theorem Fr.setRes {A b c n : Nat} {W : World} {o : LOp} (h : Fr A W b c n o) (v : Value) : Fr A (W.setCell ⟨A + 1 + 1, 0, none⟩ v) b c n o := by
  have hc : ∀ q k, q ≠ A + 1 + 1 → (W.setCell ⟨A + 1 + 1, 0, none⟩ v).cell? ⟨q, k, none⟩ = W.cell? ⟨q, k, none⟩ := fun q k hq => World.cell?_of_block (w := W) (Below.heap_setCell W ⟨A + 1 + 1, 0, none⟩ _ q (by simpa using hq))
  obtain ⟨x, hx⟩ := h.r
  obtain ⟨y, hy⟩ := h.tb
  exact ⟨by simp; exact h.size, by rw [hc _ _ (by omega)]; exact h.t, by rw [hc _ _ (by omega)]; exact h.o0, by rw [hc _ _ (by omega)]; exact h.o1, by rw [hc _ _ (by omega)]; exact h.o2, by rw [hc _ _ (by omega)]; exact h.o3, by rw [hc _ _ (by omega)]; exact h.o4, by rw [hc _ _ (by omega)]; exact h.o5, by rw [hc _ _ (by omega)]; exact h.o6, ⟨_, hx.set 0 v⟩, ⟨y, hy.of_block (Below.heap_setCell W ⟨A + 1 + 1, 0, none⟩ _ A (by show A ≠ A + 1 + 1; omega))⟩⟩
theorem ObjsAt.sizes {w : World} {L U n : Nat} {a : Option Addr} {os : List LObj} (h : ObjsAt w L U a n os) : ∀ o ∈ os, o.text.size ≤ maxLen ∧ ∀ e ∈ o.kids, e.name.size ≤ maxLen := by
  intro o ho
  obtain ⟨i, hi, rfl⟩ := List.getElem_of_mem ho
  have hn : n ≠ 0 := by have := h.len; omega
  obtain ⟨b, off, -, -, -, hc⟩ := h.at_ hn
  obtain ⟨o', ka, kn, kc, he, hs, -, -, -, -, hk⟩ := hc i (by have := h.len; omega)
  have : o' = os[i] := by simp [hi] at he; exact he.symm
  subst this
  refine ⟨hs, fun e he2 => ?_⟩
  obtain ⟨j, hj, rfl⟩ := List.getElem_of_mem he2
  have hkn : kn ≠ 0 := by have := hk.len; omega
  obtain ⟨_, _, -, -, -, hc2⟩ := hk.at_ hkn
  obtain ⟨e', h1, h2, -⟩ := hc2 j (by have := hk.len; omega)
  have : e' = (os[i].kids)[j] := by simp [hj] at h1; exact h1.symm
  rw [← this]
  exact h2

set_option maxHeartbeats 2000000 in
set_option maxRecDepth 20000 in
theorem attempt_bad (a : Nat → Addr) (U B b c n : Nat) (o : LOp) (os : List LObj) (vs : Nat → Value) (w : World) (hU : U ≤ B) (HS : Sents w U a) (hB : B ≤ w.heap.size) (hz : OpSz o) (H : OwnT w B b c os vs) (hok : opOk o = false) :
    Calls Tryz.prog 64 #[.agg #[.slice (some ⟨b, 0, none⟩) n c], .agg #[.int .i64 o.kind, .int .i64 o.dir, .string o.name, .int .i64 o.dir2, .string o.name2, .int .i64 o.id, .string o.text]] w fun e w' => DeedEnd w a B b c n vs (os, 8) e w' := by
  have hUw : U ≤ w.heap.size := by omega
  have hOP := fun w => implOpOk o w hz
  simp only [LOp.val] at hOP
  rw [hok] at hOP
  have hA : Below w.heap.size w ((w.alloc (Obj.cells #[.slice (some ⟨b, 0, none⟩) n c] 85)).alloc (Obj.cells #[.int .i64 o.kind, .int .i64 o.dir, .string o.name, .int .i64 o.dir2, .string o.name2, .int .i64 o.id, .string o.text] 27)) := ((Below.refl _ _).alloc (Nat.le_refl _) _).alloc (by simp) _
  go_enter Tryz.func64, Tryz.ntmps64
  go_wp2_with fail
  refine (hOP _).mono ?_
  rintro e w1 ⟨rfl, hb1⟩
  have hB1 : Below w.heap.size w w1 := hA.trans (hb1.mono hA.size)
  have s0 : w1.cell? ⟨0, 0, none⟩ = some (.iface 224 (.pointer (some (a 0)))) := (HS.below hB1 hUw).cell 0 (by omega)
  clear hA hb1
  go_wp2_with fail
  go_ret
  exact DeedEnd.no 8 (by omega) rfl H hB hB1 rfl

/-- The boxes of ActDo at its end: the three of the call, the trial, and the errors. -/
structure IBox (W : World) (A T U b c n : Nat) (a : Nat → Addr) (b1 c1 : Nat) (o : LOp) : Prop where
  fr : Fr A W b c n o
  se : Sents W U a
  tr : W.cell? ⟨T, 0, none⟩ = some (.slice (some ⟨b1, 0, none⟩) n c1)
  sz : T < W.heap.size
  lo : A + 1 + 1 < T
  up : U ≤ A
theorem IBox.next {W W' : World} {A T U b c n b1 c1 : Nat} {a : Nat → Addr} {o : LOp} (h : IBox W A T U b c n a b1 c1 o) (hb : Below W.heap.size W W') : IBox W' A T U b c n a b1 c1 o :=
  ⟨h.fr.next hb, h.se.below hb (by have := h.up; have := h.lo; have := h.sz; omega), by rw [hb.cell (by simpa using h.sz)]; exact h.tr, by have := h.sz; have := hb.size; omega, h.lo, h.up⟩
theorem IBox.setRes {W : World} {A T U b c n b1 c1 : Nat} {a : Nat → Addr} {o : LOp} (h : IBox W A T U b c n a b1 c1 o) (v : Value) : IBox (W.setCell ⟨A + 1 + 1, 0, none⟩ v) A T U b c n a b1 c1 o :=
  ⟨h.fr.setRes v, h.se.blocks fun k hk => Below.heap_setCell W ⟨A + 1 + 1, 0, none⟩ v k (by show k ≠ A + 1 + 1; have := h.up; omega), by rw [World.cell?_of_block (w := W) (Below.heap_setCell W ⟨A + 1 + 1, 0, none⟩ v T (by show T ≠ A + 1 + 1; have := h.lo; omega))]; exact h.tr, by simpa using h.sz, h.lo, h.up⟩

set_option maxHeartbeats 4000000 in
set_option maxRecDepth 20000 in
theorem implActDo (a : Nat → Addr) (U L V b c n : Nat) (o : LOp) (os : List LObj) (w : World) (hU : U ≤ w.heap.size) (HS : Sents w U a) (hS : Sizes os 1048576) (hz : OpSz o) (hV : V ≤ w.heap.size) (H : ObjsAt w L V (some ⟨b, 0, none⟩) n os) :
    Calls Tryz.prog 18 #[.agg #[.slice (some ⟨b, 0, none⟩) n c], .agg #[.int .i64 o.kind, .int .i64 o.dir, .string o.name, .int .i64 o.dir2, .string o.name2, .int .i64 o.id, .string o.text]] w fun e w' => DoAt w (actR os o) e w' := by
  have HF0 := Fr.start w b c n o (.slice none 0 0)
  have hA : Below w.heap.size w (((w.alloc (.cells #[.slice (some ⟨b, 0, none⟩) n c] 25)).alloc (.cells #[.int .i64 o.kind, .int .i64 o.dir, .string o.name, .int .i64 o.dir2, .string o.name2, .int .i64 o.id, .string o.text] 27)).alloc (.cells #[.slice none 0 0] 25)) := (((Below.refl _ _).alloc (Nat.le_refl _) _).alloc (by simp) _).alloc (by simp; omega) _
  have HLN : Hid (n = os.length) := H.len
  go_enter Tryz.func18, Tryz.ntmps18
  go_wp2_with fail
  refine (implTreeOk _ _ _ os L V _ (Nat.le_trans hV hA.size) (H.below hA hV)).mono ?_
  rintro e w1 ⟨rfl, hb1⟩
  have h1 := HF0.next hb1
  have hB1 : Below w.heap.size w w1 := hA.trans (hb1.mono hA.size)
  clear hb1 HF0 hA
  obtain ⟨⟨rv, r0⟩, r1⟩ := h1.res
  have q0 := h1.t
  have z1 := h1.size
  rcases ts : specOk os with _ | _
  · have HV : Hid (actR os o = ([], 8)) := by show _ = _; unfold actR; rw [if_neg (by rw [ts]; simp)]
    clear ts
    go_wp2_with fail
    refine bodyPost_ret (v := Value.tuple #[.agg #[.slice none 0 0], .int .i64 8]) (by rw [results, Tryz.results18]; simp [go_sem, World.cell?_setCell_same _ _ _ r0]) rfl ⟨.inl ⟨by rw [HV.out], by rw [HV.out]⟩, hB1.setCell (by show _ ≤ _ + 1 + 1; omega) _⟩
  have HOK : Hid (specOk os = true) := ts
  have HN : Hid (n = 32) := by show _ = _; rw [HLN.out]; exact ok_len ts
  clear ts
  go_wp2_with fail
  refine (trialOf_any (some ⟨b, 0, none⟩) n c os L V w1 (by rw [HN.out]; omega) (by rw [HN.out]; omega) hS (Nat.le_trans hV hB1.size) (H.below hB1 hV)).mono ?_
  rintro e w3 ⟨⟨b1, c1, vs, rfl, HT⟩, hb3⟩
  have h3 := h1.next hb3
  have hB3 : Below w.heap.size w w3 := hB1.trans (hb3.mono hB1.size)
  have hz3 := hb3.size
  have hlo := HT.lo
  have hlt := HT.lt
  have hA4 : Below w3.heap.size w3 (w3.alloc (.cells #[.slice (some ⟨b1, 0, none⟩) n c1] 85)) := (Below.refl _ _).alloc (Nat.le_refl _) _
  have h4 := h3.next hA4
  have HVI : Hid (∀ q g, q < n → (vs q).ownBlock = some g → g < w3.heap.size) := fun q g hq hg => HT.vlt HLN.out q g hq hg
  obtain ⟨T, hT⟩ : ∃ T, w3.heap.size = T := ⟨_, rfl⟩
  have e0 := h4.o0
  have e1 := h4.o1
  have e2 := h4.o2
  have e3 := h4.o3
  have e4 := h4.o4
  have e5 := h4.o5
  have e6 := h4.o6
  have hz4 := h4.size
  have ATT : Calls Tryz.prog 64 #[.agg #[.slice (some ⟨b1, 0, none⟩) n c1], .agg #[.int .i64 o.kind, .int .i64 o.dir, .string o.name, .int .i64 o.dir2, .string o.name2, .int .i64 o.id, .string o.text]] (w3.alloc (.cells #[.slice (some ⟨b1, 0, none⟩) n c1] 85)) fun e w' => DeedEnd (w3.alloc (.cells #[.slice (some ⟨b1, 0, none⟩) n c1] 85)) a (w1.heap.size + 2) b1 c1 n vs (actR os o) e w' := by
    have hSE : Sents (w3.alloc (.cells #[.slice (some ⟨b1, 0, none⟩) n c1] 85)) U a := HS.below (hB3.trans (hA4.mono hB3.size)) hU
    have hBB : w1.heap.size + 2 ≤ (w3.alloc (.cells #[.slice (some ⟨b1, 0, none⟩) n c1] 85)).heap.size := by simp; omega
    have hUB : U ≤ w1.heap.size + 2 := by have := hB1.size; omega
    rcases tk : opOk o with _ | _
    · have : actR os o = (os, 8) := by unfold actR; rw [if_pos HOK.out, if_neg (by rw [tk]; simp)]
      rw [this]
      exact attempt_bad a U _ b1 c1 n o os vs _ hUB hSE hBB hz (HT.below hA4) tk
    · have : actR os o = actDo os o := by unfold actR; rw [if_pos HOK.out, if_pos tk]
      rw [this]
      exact attempt_any a U _ b1 c1 n o os vs _ hUB hSE hBB HOK.out HN.out hz (HT.below hA4) tk
  have HRL : Hid ((actR os o).1.length = n) := by
    show _ = _
    unfold actR
    rw [if_pos HOK.out, HLN.out]
    split
    · exact actDo_len os o
    · rfl
  obtain ⟨R, hR⟩ : ∃ R, actR os o = R := ⟨_, rfl⟩
  rw [hR] at ATT HRL
  have HR : Hid (actR os o = R) := hR
  clear hR
  have HZ : Hid (w.heap.size + 1 + 1 < w1.heap.size) := z1
  clear q0 r0 r1 z1 h1 h3
  go_wp2_with fail
  refine ATT.mono ?_
  rintro e w5 ⟨k, vs5, hk1, hk2, rfl, hP⟩
  have hb5 : Below (w1.heap.size + 2) (w3.alloc (.cells #[.slice (some ⟨b1, 0, none⟩) n c1] 85)) w5 := hP.below
  have hB5 : Below w.heap.size w w5 := (hB3.trans (hA4.mono hB3.size)).trans (hb5.mono (by have := hB1.size; omega))
  have hT4 : w5.heap[T]? = (w3.alloc (.cells #[.slice (some ⟨b1, 0, none⟩) n c1] 85)).heap[T]? := hP.kt T (by simp; omega) (by omega) fun i hi e => by have := HVI.out i T hi e; omega
  have I5 : IBox w5 w.heap.size T U b c n a b1 c1 o := by
    refine ⟨h4.of_blocks hb5.size fun q h1 h2 => hb5.block q (by have := HZ.out; omega), HS.below hB5 hU, ?_, ?_, ?_, hU⟩
    · rw [World.cell?_of_block (w := w3.alloc (.cells #[.slice (some ⟨b1, 0, none⟩) n c1] 85)) hT4, ← hT]; simp [go_sem]
    · have := hb5.size; simp at this; omega
    · have := HZ.out; omega
  have HOW := hP.own
  clear hP ATT e0 e1 e2 e3 e4 e5 e6 h4 hz4
  go_upto_region 5 with fail
  have I6 := I5.next (Below.refl _ _).drew
  obtain ⟨⟨rv, r0⟩, r1⟩ := I6.fr.res
  refine wp_region_held_drew (S := (fun W => IBox W w.heap.size T U b c n a b1 c1 o)) (by kernel_rfl) ?_ (fun hHeld => ?_)
  · exact I6
  refine listH (l2 := #[false, false, false, false, false, false]) (by kernel_rfl) ?_
  refine takeH (i := 0) (oi := _) (v := ?vg0) 17 #[true, false, false, false, false, false] rfl (by kernel_rfl) (by kernel_rfl) (by kernel_rfl) rfl (by kernel_rfl) (fun _ _ _ h => h) (Or.inl ⟨by rfl, ?yg0⟩) (by assumption) ?rg0
  case yg0 => (intro w' hSw; (try dsimp only at hSw); have x0 := hSw.tr; go_simp; try with_reducible rfl)
  simp only [Act.put, List.setIfInBounds_toArray, List.set_cons_succ, List.set_cons_zero]
  refine takeH (i := 1) (oi := _) (v := ?vg1) 18 #[true, true, false, false, false, false] rfl (by kernel_rfl) (by kernel_rfl) (by kernel_rfl) rfl (by kernel_rfl) (fun _ _ _ h => h) (Or.inl ⟨by rfl, ?yg1⟩) (by assumption) ?rg1
  case yg1 => (intro w' hSw; (try dsimp only at hSw); have x0 := hSw.tr; go_simp; try with_reducible rfl)
  simp only [Act.put, List.setIfInBounds_toArray, List.set_cons_succ, List.set_cons_zero]
  refine takeH (i := 2) (oi := _) (v := ?vg2) 19 #[true, true, true, false, false, false] rfl (by kernel_rfl) (by kernel_rfl) (by kernel_rfl) rfl (by kernel_rfl) (fun _ _ _ h => h) (Or.inl ⟨by rfl, ?yg2⟩) (by assumption) ?rg2
  case yg2 => (intro w' hSw; (try dsimp only at hSw); have x0 := hSw.tr; go_simp; try with_reducible rfl)
  simp only [Act.put, List.setIfInBounds_toArray, List.set_cons_succ, List.set_cons_zero]
  refine wpAnyH_ready (rs := [3]) (by kernel_rfl) (by simp) ?_
  refine AllReadyH.cons (o := _) rfl (fun K hK => ?_) AllReadyH.nil
  go_simp
  refine (actCode_any a U k _ hk2 I6.se).mono ?_
  rintro e w7 ⟨rfl, rfl⟩
  go_wp2_with fail
  refine hK.out _ _ ?_ (fun hHeld => ?_)
  · exact I6
  clear hK K
  try simp only [Act.put]
  refine listH (l2 := #[true, true, true, true, false, false]) (by kernel_rfl) ?_
  refine wpAnyH_ready (rs := [4]) (by kernel_rfl) (by simp) ?_
  refine AllReadyH.cons (o := _) rfl (fun K hK => ?_) AllReadyH.nil
  go_simp
  refine hK.out _ _ ?_ (fun hHeld => ?_)
  · exact I6.setRes _
  clear hK K
  try simp only [Act.put]
  refine listH (l2 := #[true, true, true, true, true, false]) (by kernel_rfl) ?_
  refine wpAnyH_ready (rs := [5]) (by kernel_rfl) (by simp) ?_
  refine AllReadyH.cons (o := _) rfl (fun K hK => ?_) AllReadyH.nil
  go_simp
  refine hK.out _ _ ?_ (fun hHeld => ?_)
  · exact I6.setRes _
  clear hK K
  try simp only [Act.put]
  refine listH (l2 := #[true, true, true, true, true, true]) (by kernel_rfl) ?_
  refine wpAnyH_done (by kernel_rfl) ?_ _

  obtain ⟨⟨rv5, r05⟩, -⟩ := I5.fr.res
  go_wp2_with fail
  refine bodyPost_ret (v := Value.tuple #[.agg #[.slice (some ⟨b1, 0, none⟩) n c1], .int .i64 k]) (by rw [results, Tryz.results18]; simp [go_sem, World.cell?_setCell_same _ _ _ r05]) rfl ⟨.inr ⟨b1, c1, vs5, by rw [HR.out, HRL.out, hk1], ?_⟩, ?_⟩
  · rw [HR.out]; exact ((HOW.setBox I5.fr.r 0 _).below (Below.refl _ _).drew).base' (by have := hB1.size; omega)
  · exact (hB5.setCell (by show _ ≤ _ + 1 + 1; omega) _).trans ((Below.refl _ _).drew.mono (by simpa using hB5.size))

set_option maxHeartbeats 4000000 in
set_option maxRecDepth 20000 in
theorem specActDo (L V b c n : Nat) (o : LOp) (os : List LObj) (w : World) (hS : Sizes os 1048576) (hz : OpSz o) (hV : V ≤ w.heap.size) (H : ObjsAt w L V (some ⟨b, 0, none⟩) n os) :
    Calls Tryz.prog 19 #[.agg #[.slice (some ⟨b, 0, none⟩) n c], .agg #[.int .i64 o.kind, .int .i64 o.dir, .string o.name, .int .i64 o.dir2, .string o.name2, .int .i64 o.id, .string o.text]] w fun e w' => DoAt w (actR os o) e w' := by
  have HF0 := Fr.start w b c n o (.slice none 0 0)
  have hA : Below w.heap.size w (((w.alloc (.cells #[.slice (some ⟨b, 0, none⟩) n c] 25)).alloc (.cells #[.int .i64 o.kind, .int .i64 o.dir, .string o.name, .int .i64 o.dir2, .string o.name2, .int .i64 o.id, .string o.text] 27)).alloc (.cells #[.slice none 0 0] 25)) := (((Below.refl _ _).alloc (Nat.le_refl _) _).alloc (by simp) _).alloc (by simp; omega) _
  have HLN : Hid (n = os.length) := H.len
  have hOP := fun w => opOk_any o w hz.name hz.name2 hz.text
  have hDO := fun b c vs w B hok h32 hB hv H => do_any B b c n o os vs w hok HLN.out h32 hB hv hz H
  simp only [LOp.val] at hOP hDO
  go_enter Tryz.func19, Tryz.ntmps19
  go_wp2_with fail
  refine (specTreeOk _ _ _ os L V _ hS (Nat.le_trans hV hA.size) (H.below hA hV)).mono ?_
  rintro e w1 ⟨rfl, hb1⟩
  have h1 := HF0.next hb1
  have hB1 : Below w.heap.size w w1 := hA.trans (hb1.mono hA.size)
  clear hb1 HF0 hA
  obtain ⟨⟨rv, r0⟩, r1⟩ := h1.res
  have q0 := h1.t
  have z1 := h1.size
  rcases ts : specOk os with _ | _
  · have HV : Hid (actR os o = ([], 8)) := by show _ = _; unfold actR; rw [if_neg (by rw [ts]; simp)]
    clear ts
    go_wp2_with fail
    refine bodyPost_ret (v := Value.tuple #[.agg #[.slice none 0 0], .int .i64 8]) (by rw [results, Tryz.results19]; simp [go_sem, World.cell?_setCell_same _ _ _ r0]) rfl ⟨.inl ⟨by rw [HV.out], by rw [HV.out]⟩, hB1.setCell (by show _ ≤ _ + 1 + 1; omega) _⟩
  have HOK : Hid (specOk os = true) := ts
  have HN : Hid (n = 32) := by show _ = _; rw [HLN.out]; exact ok_len ts
  have HSZ : Hid (∀ o ∈ os, o.text.size ≤ maxLen ∧ ∀ e ∈ o.kids, e.name.size ≤ maxLen) := H.sizes
  have HCP := fun w hU H => copy_any (some ⟨b, 0, none⟩) n c os L V w (by rw [HN.out]; omega) (by rw [HN.out]; omega) hS hU H
  clear ts
  have e0 := h1.o0
  have e1 := h1.o1
  have e2 := h1.o2
  have e3 := h1.o3
  have e4 := h1.o4
  have e5 := h1.o5
  have e6 := h1.o6
  go_wp2_with fail
  refine (hOP _).mono ?_
  rintro e w2 ⟨rfl, rfl⟩
  have hb2 : Below w1.heap.size w1 (w1.alloc (.cells #[.int .i64 o.kind, .int .i64 o.dir, .string o.name, .int .i64 o.dir2, .string o.name2, .int .i64 o.id, .string o.text] 27)) := (Below.refl _ _).alloc (Nat.le_refl _) _
  have h2 := h1.next hb2
  have hB2 := hB1.trans (hb2.mono hB1.size)
  generalize w1.alloc (.cells #[.int .i64 o.kind, .int .i64 o.dir, .string o.name, .int .i64 o.dir2, .string o.name2, .int .i64 o.id, .string o.text] 27) = w2 at *
  clear q0 r0 r1 z1 e0 e1 e2 e3 e4 e5 e6 h1 hb2 hOP hB1
  have q0 := h2.t
  have z1 := h2.size
  rcases tk : opOk o with _ | _
  · have HV : Hid (actR os o = (os, 8)) := by show _ = _; unfold actR; rw [if_pos HOK.out, if_neg (by rw [tk]; simp)]
    clear tk hDO
    go_wp2_with fail
    refine (HCP _ (Nat.le_trans hV hB2.size) (H.below hB2 hV)).mono ?_
    rintro e w3 ⟨⟨v, vs, rfl, hC⟩, hb3⟩
    have h3 := h2.next hb3
    have hB3 : Below w.heap.size w w3 := hB2.trans (hb3.mono hB2.size)
    obtain ⟨b1, c1, rfl, HOW⟩ := hC.out.done HLN.out (by rw [HN.out]; omega) HSZ.out
    obtain ⟨⟨rv, r0⟩, r1⟩ := h3.res
    clear hb3 HCP q0
    go_wp2_with fail
    refine bodyPost_ret (v := Value.tuple #[.agg #[.slice (some ⟨b1, 0, none⟩) n c1], .int .i64 8]) (by rw [results, Tryz.results19]; simp [go_sem, World.cell?_setCell_same _ _ _ r0]) rfl ⟨.inr ⟨b1, c1, vs, by rw [HV.out, HLN.out], ?_⟩, ?_⟩
    · rw [HV.out]; exact (HOW.setBox h3.r 0 _).base' (by have := hB2.size; omega)
    · exact hB3.setCell (by show _ ≤ _ + 1 + 1; omega) _
  have HV : Hid (actR os o = actDo os o) := by show _ = _; unfold actR; rw [if_pos HOK.out, if_pos tk]
  have HRL : Hid ((actDo os o).1.length = n) := by show _ = _; rw [actDo_len, HLN.out]
  have HBD : Hid (Bd os 1000000) := fun x hx => by
    obtain ⟨i, hi, rfl⟩ := List.getElem_of_mem hx
    have h9 : os[i]? = some os[i] := by simp [hi]
    have := ok_ver HOK.out h9
    have := ok_kids HOK.out h9
    exact ⟨by omega, by omega, by omega⟩
  have HTK : Hid (opOk o = true) := tk
  clear tk
  go_upto_region 5 with fail
  have h2d := h2.next (Below.refl _ _).drew
  have hB2d : Below w.heap.size w w2.drew := hB2.trans ((Below.refl _ _).drew.mono hB2.size)
  have z2 : w.heap.size + 1 + 1 < w2.drew.heap.size := h2d.size
  refine wp_region_held_drew (S := (fun W => Fr w.heap.size W b c n o)) (by kernel_rfl) ?_ (fun hHeld => ?_)
  · exact h2d
  refine listH (l2 := #[false, false, false, false, false, false, false, false]) (by kernel_rfl) ?_
  refine takeH (i := 0) (oi := _) (v := ?vs0) 15 #[true, false, false, false, false, false, false, false] rfl (by kernel_rfl) (by kernel_rfl) (by kernel_rfl) rfl (by kernel_rfl) (fun _ _ _ h => h) (Or.inl ⟨by rfl, ?ys0⟩) (by assumption) ?rs0
  case ys0 => (intro w' hSw; (try dsimp only at hSw); have x0 := hSw.t; have x1 := hSw.o0; have x2 := hSw.o1; have x3 := hSw.o2; have x4 := hSw.o3; have x5 := hSw.o4; have x6 := hSw.o5; have x7 := hSw.o6; go_simp; try with_reducible rfl)
  simp only [Act.put, List.setIfInBounds_toArray, List.set_cons_succ, List.set_cons_zero]
  refine takeH (i := 2) (oi := _) (v := ?vs2) 17 #[true, false, true, false, false, false, false, false] rfl (by kernel_rfl) (by kernel_rfl) (by kernel_rfl) rfl (by kernel_rfl) (fun _ _ _ h => h) (Or.inl ⟨by rfl, ?ys2⟩) (by assumption) ?rs2
  case ys2 => (intro w' hSw; (try dsimp only at hSw); have x0 := hSw.t; have x1 := hSw.o0; have x2 := hSw.o1; have x3 := hSw.o2; have x4 := hSw.o3; have x5 := hSw.o4; have x6 := hSw.o5; have x7 := hSw.o6; go_simp; try with_reducible rfl)
  simp only [Act.put, List.setIfInBounds_toArray, List.set_cons_succ, List.set_cons_zero]
  refine wpAnyH_ready (rs := [1]) (by kernel_rfl) (by simp) ?_
  refine AllReadyH.cons (o := _) rfl (fun K hK => ?_) AllReadyH.nil
  go_simp
  refine (HCP _ (Nat.le_trans hV hB2d.size) (H.below hB2d hV)).mono ?_
  rintro e w3 ⟨⟨v, vs, rfl, hC⟩, hb3⟩
  have h3 := h2d.next hb3
  have hB3 : Below w.heap.size w w3 := hB2d.trans (hb3.mono hB2d.size)
  obtain ⟨b1, c1, rfl, HOW⟩ := hC.out.done HLN.out (by rw [HN.out]; omega) HSZ.out
  go_wp2_with fail
  refine hK.out _ _ ?_ (fun hHeld => ?_)
  · exact h3
  clear hK K
  try simp only [Act.put]
  refine listH (l2 := #[true, true, true, false, false, false, false, false]) (by kernel_rfl) ?_
  refine wpAnyH_ready (rs := [3]) (by kernel_rfl) (by simp) ?_
  refine AllReadyH.cons (o := _) rfl (fun K hK => ?_) AllReadyH.nil
  go_simp
  refine (hDO b1 c1 vs w3 w2.drew.heap.size HTK.out (by rw [HN.out]; omega) hb3.size HBD.out HOW).mono ?_
  rintro e w4 ⟨vs4, rfl, HOW4, hb4, -⟩
  have hB4 : Below w.heap.size w w4 := hB3.trans (hb4.mono hB2d.size)
  have h4 : Fr w.heap.size w4 b c n o := h3.of_blocks hb4.size fun q h1 h2 => hb4.block q (by omega)
  rw [HRL.out]
  obtain ⟨⟨rv4, r04⟩, r14⟩ := h4.res
  go_wp2_with fail
  refine hK.out _ _ ?_ (fun hHeld => ?_)
  · exact h4
  clear hK K
  try simp only [Act.put]
  refine listH (l2 := #[true, true, true, true, false, false, false, false]) (by kernel_rfl) ?_
  refine takeH (i := 4) (oi := _) (v := ?vs4) 19 #[true, true, true, true, true, false, false, false] rfl (by kernel_rfl) (by kernel_rfl) (by kernel_rfl) rfl (by kernel_rfl) (fun _ _ _ h => h) (Or.inl ⟨by rfl, ?ys4⟩) (by assumption) ?rs4
  case ys4 => (intro w' hSw; (try dsimp only at hSw); have x0 := hSw.t; have x1 := hSw.o0; have x2 := hSw.o1; have x3 := hSw.o2; have x4 := hSw.o3; have x5 := hSw.o4; have x6 := hSw.o5; have x7 := hSw.o6; go_simp; try with_reducible rfl)
  simp only [Act.put, List.setIfInBounds_toArray, List.set_cons_succ, List.set_cons_zero]
  refine takeH (i := 5) (oi := _) (v := ?vs5) 20 #[true, true, true, true, true, true, false, false] rfl (by kernel_rfl) (by kernel_rfl) (by kernel_rfl) rfl (by kernel_rfl) (fun _ _ _ h => h) (Or.inl ⟨by rfl, ?ys5⟩) (by assumption) ?rs5
  case ys5 => (intro w' hSw; (try dsimp only at hSw); have x0 := hSw.t; have x1 := hSw.o0; have x2 := hSw.o1; have x3 := hSw.o2; have x4 := hSw.o3; have x5 := hSw.o4; have x6 := hSw.o5; have x7 := hSw.o6; go_simp; try with_reducible rfl)
  simp only [Act.put, List.setIfInBounds_toArray, List.set_cons_succ, List.set_cons_zero]
  refine wpAnyH_ready (rs := [6]) (by kernel_rfl) (by simp) ?_
  refine AllReadyH.cons (o := _) rfl (fun K hK => ?_) AllReadyH.nil
  go_simp
  refine hK.out _ _ ?_ (fun hHeld => ?_)
  · exact h4.setRes _
  clear hK K
  try simp only [Act.put]
  refine listH (l2 := #[true, true, true, true, true, true, true, false]) (by kernel_rfl) ?_
  refine wpAnyH_ready (rs := [7]) (by kernel_rfl) (by simp) ?_
  refine AllReadyH.cons (o := _) rfl (fun K hK => ?_) AllReadyH.nil
  go_simp
  refine hK.out _ _ ?_ (fun hHeld => ?_)
  · exact h4.setRes _
  clear hK K
  try simp only [Act.put]
  refine listH (l2 := #[true, true, true, true, true, true, true, true]) (by kernel_rfl) ?_
  refine wpAnyH_done (by kernel_rfl) ?_ _

  obtain ⟨⟨rv5, r05⟩, -⟩ := h4.res
  go_wp2_with fail
  refine bodyPost_ret (v := Value.tuple #[.agg #[.slice (some ⟨b1, 0, none⟩) n c1], .int .i64 (actDo os o).2]) (by rw [results, Tryz.results19]; simp [go_sem, World.cell?_setCell_same _ _ _ r05]) rfl ⟨.inr ⟨b1, c1, vs4, by rw [HV.out, HRL.out], ?_⟩, ?_⟩
  · rw [HV.out]; exact ((HOW4.setBox h4.r 0 _)).base' (by have := hB2d.size; omega)
  · exact hB4.setCell (by show _ ≤ _ + 1 + 1; omega) _
end Go.Proofs.YtnolbfijcnldjaaGreatDoor

/- Lists of what is done as answers: marked, held. -/
namespace Go.Proofs.YtnolbfijcnldjaaGreatDoor
open Go.RowKit

/-- A list of what is done in a row of its own. -/
def OpRow (w : World) (B : Nat) (a : Option Addr) (n g cap : Nat) (f : Nat → Value) : Prop := n ≠ 0 → a = some ⟨g, 0, none⟩ ∧ B ≤ g ∧ n ≤ cap ∧ w.rowIs g 27 (cap * 7) f
def OpCell (f : Nat → Value) (i : Nat) : Prop := ∃ o : LOp, opF f i o
theorem OwnOps.row {w : World} {B : Nat} {v : Value} {l : List LOp} (h : OwnOps w B v l) : ∃ a c g cap f, v = .slice a l.length c ∧ B ≤ g ∧ OpRow w B a l.length g cap f ∧ ∀ i, i < l.length → OpCell f i := by
  rcases h.2 with ⟨rfl, h0⟩ | ⟨g, cap, cur, rfl, hb, hg, hnc, hcm, hcs, htake⟩
  · exact ⟨none, 0, B, 0, fun _ => default, by rw [h0], Nat.le_refl _, fun hn => absurd h0 hn, fun i hi => by omega⟩
  · refine ⟨_, cap, g, cap, fun i => cur[i]?.getD default, rfl, hb, fun _ => ⟨rfl, hb, hnc, ⟨cur, hg, by omega, fun i hi => by simp [Array.getElem?_eq_getElem (show i < cur.size by omega)]⟩⟩, fun i hi => ⟨l[i], ?_⟩⟩
    have hq : ∀ t u, t < 7 → (l[i]).val[t]? = some u → cur[i * 7 + t]?.getD default = u := fun t u ht hu => by
      have h1 := opCells_at l i l[i] (by simp [hi]) t u hu
      rw [← htake, List.getElem?_take_of_lt (by omega)] at h1
      simp at h1
      simp [h1]
    exact ⟨by simpa using hq 0 _ (by omega) (by simp [LOp.val]), hq 1 _ (by omega) (by simp [LOp.val]), hq 2 _ (by omega) (by simp [LOp.val]), hq 3 _ (by omega) (by simp [LOp.val]), hq 4 _ (by omega) (by simp [LOp.val]), hq 5 _ (by omega) (by simp [LOp.val]), hq 6 _ (by omega) (by simp [LOp.val])⟩
theorem OpRow.at_ {w : World} {B : Nat} {a : Option Addr} {n g cap : Nat} {f : Nat → Value} (H : OpRow w B a n g cap f) {i : Nat} (hi : i < n) {o : LOp} (h : opF f i o) : a = some ⟨g, 0, none⟩ ∧ g < w.heap.size ∧ OpAt w g (i * 7) o := by
  obtain ⟨h1, _, h3, h4⟩ := H (by omega)
  obtain ⟨q0, q1, q2, q3, q4, q5, q6⟩ := h
  exact ⟨h1, h4.lt, by rw [h4.cell (by omega), q0], by rw [h4.cell (by omega), q1], by rw [h4.cell (by omega), q2], by rw [h4.cell (by omega), q3], by rw [h4.cell (by omega), q4], by rw [h4.cell (by omega), q5], by rw [h4.cell (by omega), q6]⟩
end Go.Proofs.YtnolbfijcnldjaaGreatDoor

/- A tree of one's own, written over and read again. -/
namespace Go.Proofs.YtnolbfijcnldjaaGreatDoor
open Go.RowKit

/-- Entries written over from a number on. -/
def mkE (k n : Nat) : List LEnt := (List.range n).map fun i => ⟨mkT (k + 2 * i), ((k + 2 * i + 1 : Nat) : Int)⟩
theorem OwnEnts.cells {w : World} {B g n cap : Nat} {es : List LEnt} (h : OwnEnts w B (.slice (some ⟨g, 0, none⟩) n cap) es) {i : Nat} {e : LEnt} (he : es[i]? = some e) :
    w.cell? ⟨g, i * 2, none⟩ = some (.string e.name) ∧ w.cell? ⟨g, i * 2 + 1, none⟩ = some (.int .i64 e.id) ∧ g < w.heap.size ∧ (∀ k, w.frozen? ⟨g, k, none⟩ = false) ∧ B ≤ g := by
  obtain ⟨cur, hB, hg, hn, hnc, hcm, hcs, ht⟩ := h.open_
  obtain ⟨c0, c1⟩ := entCells_at es i e he
  have hi : i < es.length := (List.getElem?_eq_some_iff.1 he).1
  rw [← ht] at c0 c1
  have hrow : w.rowIs g 53 (cap * 2) (fun k => cur.getD k .nilIface) := ⟨cur, hg, hcs, fun k hk => by simp [hcs, hk]⟩
  refine ⟨?_, ?_, hrow.lt, hrow.frozen, hB⟩
  · rw [hrow.cell (by omega)]
    rw [List.getElem?_take_of_lt (by omega)] at c0
    simp at c0
    simp [c0]
  · rw [hrow.cell (by omega)]
    rw [List.getElem?_take_of_lt (by omega)] at c1
    simp at c1
    simp [c1]
/-- The rest of an own row while it is written over. -/
def MkdE (k : Nat) (es cur : List LEnt) (j : Nat) : Prop := cur.length = es.length ∧ (∀ i, i < j → cur[i]? = some ⟨mkT (k + 2 * i), ((k + 2 * i + 1 : Nat) : Int)⟩) ∧ ∀ i, j ≤ i → cur[i]? = es[i]?
theorem MkdE.next {k : Nat} {es cur : List LEnt} {j : Nat} (h : MkdE k es cur j) (hj : j < es.length) : MkdE k es (cur.set j ⟨mkT (k + 2 * j), ((k + 2 * j + 1 : Nat) : Int)⟩) (j + 1) := by
  refine ⟨by simp [h.1], fun i hi => ?_, fun i hi => ?_⟩
  · by_cases e : i = j
    · subst e; rw [List.getElem?_set_self (by rw [h.1]; omega)]
    · rw [List.getElem?_set_ne (Ne.symm e)]; exact h.2.1 i (by omega)
  · rw [List.getElem?_set_ne (by omega)]; exact h.2.2 i (by omega)

end Go.Proofs.YtnolbfijcnldjaaGreatDoor
