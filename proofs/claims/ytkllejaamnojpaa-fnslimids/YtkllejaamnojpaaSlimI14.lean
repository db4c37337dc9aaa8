import Derived.Test.YtkllejaamnojpaaSlimI13
/- Lists that are made shorter: the program, whole. -/
namespace Go.Proofs.Ytkllejaamnojpaa
open Go.RowKit

theorem OwnOps.atc {w : World} {B : Nat} {v : Value} {l : List LOp} (h : OwnOps w B v l) (hn : ∀ o ∈ l, OpSz o) : ∃ a c, v = .slice a l.length c ∧ l.length ≤ c ∧ OpsAt w B w.heap.size a l.length l := by
  obtain ⟨a, c, rfl, H⟩ := h.at_ hn
  rcases h.2 with ⟨h', h0⟩ | ⟨g, cap, cur, h', _, _, hnc, _⟩
  · simp at h'; exact ⟨a, c, rfl, by omega, H⟩
  · simp at h'; exact ⟨a, c, rfl, by omega, H⟩
theorem forms_all {l : List LOp} (h : formsB l = true) : AllL (fun o => opOk o = true) 60 l := by
  unfold formsB at h
  simp at h
  exact ⟨h.2, h.1⟩
theorem forms_of {l : List LOp} (h : AllL (fun o => opOk o = true) 60 l) : formsB l = true := by
  unfold formsB
  simp
  exact ⟨h.2, h.1⟩
/-- What is left behind so many of the three rules. -/
def ruled : Nat → List LOp → List LOp
  | 0, l => l
  | 1, l => ifOk textsL l
  | 2, l => ifOk pairsL (ifOk textsL l)
  | _, l => ifOk movesL (ifOk pairsL (ifOk textsL l))
theorem ruled_yes {l : List LOp} (h : formsB l = true) : ruled 3 l = stepL l ∧ formsB (stepL l) = true := by
  have h1 := textsL_all (forms_all h)
  have h2 := pairsL_all h1
  have h3 := movesL_all ok_keeps h2
  refine ⟨?_, forms_of h3⟩
  show ifOk movesL (ifOk pairsL (ifOk textsL l)) = _
  rw [ifOk_yes h, ifOk_yes (forms_of h1), ifOk_yes (forms_of h2)]
  rfl
theorem ruled_no {l : List LOp} (h : formsB l = false) : ruled 3 l = [] := by
  show ifOk movesL (ifOk pairsL (ifOk textsL l)) = _
  rw [ifOk_no h]
  rfl
theorem slim_end {l : List LOp} (h : (ruled 3 l).length = l.length) : ifOk slimL l = ruled 3 l := by
  cases hf : formsB l with
  | false =>
    rw [ruled_no hf] at h
    obtain rfl : l = [] := List.eq_nil_of_length_eq_zero h.symm
    cases hf
  | true =>
    obtain ⟨h1, _⟩ := ruled_yes hf
    rw [h1] at h ⊢
    rw [ifOk_yes hf]
    unfold slimL
    rw [fixL_none (slimStep_none h)]
theorem slim_more {l : List LOp} (h : (ruled 3 l).length ≠ l.length) : ifOk slimL (ruled 3 l) = ifOk slimL l ∧ (ruled 3 l).length < l.length := by
  cases hf : formsB l with
  | false =>
    rw [ruled_no hf] at h ⊢
    rw [ifOk_no hf]
    simp at h
    exact ⟨rfl, List.length_pos_iff.2 (fun e => by subst e; simp at h)⟩
  | true =>
    obtain ⟨h1, h2⟩ := ruled_yes hf
    rw [h1] at h ⊢
    rw [ifOk_yes hf, ifOk_yes h2]
    have hs := slimStep_some h
    refine ⟨?_, slim_shrink _ _ hs⟩
    unfold slimL
    rw [fixL_some slim_shrink hs]
theorem ruled_sz {l : List LOp} (h : ∀ o ∈ l, OpSz o) : ∀ k, AllL OpSz l.length (ruled k l)
  | 0 => ⟨h, Nat.le_refl _⟩
  | 1 => by
    show AllL OpSz l.length (ifOk textsL l)
    unfold ifOk
    split
    · exact textsL_all ⟨h, Nat.le_refl _⟩
    · exact ⟨fun o ho => (by cases ho), (by simp)⟩
  | 2 => by
    have h1 := ruled_sz h 1
    show AllL OpSz l.length (ifOk pairsL (ruled 1 l))
    unfold ifOk
    split
    · exact pairsL_all h1
    · exact ⟨fun o ho => (by cases ho), (by simp)⟩
  | k + 3 => by
    have h1 := ruled_sz h 2
    show AllL OpSz l.length (ifOk movesL (ruled 2 l))
    unfold ifOk
    split
    · exact movesL_all sz_keeps h1
    · exact ⟨fun o ho => (by cases ho), (by simp)⟩
/-- A list at some place, with room for no less. -/
def ListAt (W : World) (v : Value) (l : List LOp) : Prop := ∃ a c, v = .slice a l.length c ∧ l.length ≤ c ∧ OpsAt W 0 W.heap.size a l.length l
structure RBox (W : World) (q : Nat) : Prop where
  c0 : W.cell? ⟨q, 0, none⟩ = some (.func (.func 19) #[] #[])
  c1 : W.cell? ⟨q, 1, none⟩ = some (.func (.func 21) #[] #[])
  c2 : W.cell? ⟨q, 2, none⟩ = some (.func (.func 23) #[] #[])
  lt : q < W.heap.size
theorem RBox.next {W W' : World} {q : Nat} (h : RBox W q) (hb : Below W.heap.size W W') : RBox W' q :=
  ⟨by rw [hb.cell (by simpa using h.lt)]; exact h.c0, by rw [hb.cell (by simpa using h.lt)]; exact h.c1, by rw [hb.cell (by simpa using h.lt)]; exact h.c2, by have := hb.size; have := h.lt; omega⟩

theorem info37 : (Try.prog.info? 81).map (fun i => (i.size, i.bytes)) = some (1, 8) := by kernel_rfl
theorem info37' : ∃ i, Try.prog.info? 81 = some i ∧ i.size = 1 := by
  cases h : Try.prog.info? 81 with
  | none => have := info37; rw [h] at this; cases this
  | some i => have := info37; rw [h] at this; simp at this; exact ⟨i, rfl, this.1⟩
theorem run_idx0 (x y z : Value) (w : World) : (Instr.index 82 (.agg #[x, y, z]) (.int .i64 0)).run Try.prog w = .ok x w := by
  obtain ⟨i, hi, hs⟩ := info37'
  simp [Instr.index, run_underlying Try.underlying82, asIntOf, sizeOf, typeInfo, hi, hs, part]
theorem run_idx1 (x y z : Value) (w : World) : (Instr.index 82 (.agg #[x, y, z]) (.int .i64 1)).run Try.prog w = .ok y w := by
  obtain ⟨i, hi, hs⟩ := info37'
  simp [Instr.index, run_underlying Try.underlying82, asIntOf, sizeOf, typeInfo, hi, hs, part]
theorem run_idx2 (x y z : Value) (w : World) : (Instr.index 82 (.agg #[x, y, z]) (.int .i64 2)).run Try.prog w = .ok z w := by
  obtain ⟨i, hi, hs⟩ := info37'
  simp [Instr.index, run_underlying Try.underlying82, asIntOf, sizeOf, typeInfo, hi, hs, part]
theorem run_store_fn {P : Program} {w : World} {a : Addr} {m : Mode} (f : Fn) (xs ys : Array Value) : (store a (.func f xs ys) m).run P w = stored P w a (.func f xs ys) m := run_store P w a _ m rfl
set_option maxHeartbeats 4000000 in
set_option maxRecDepth 20000 in
theorem implSlim (a : Option Addr) (n c : Nat) (ops : List LOp) (L U : Nat) (w : World) (hnc : n ≤ c) (hU : U ≤ w.heap.size) (H : OpsAt w L U a n ops) :
    Calls Try.prog 16 #[.slice a n c] w (SlimEnd w (ifOk slimL ops)) := by
  have hlen : Hid (n = ops.length) := H.len
  have hB0 : Below w.heap.size w (w.alloc (Obj.cells #[Value.func (Fn.func 19) #[] #[], Value.func (Fn.func 21) #[] #[], Value.func (Fn.func 23) #[] #[]] 82)) := (Below.refl _ _).alloc (Nat.le_refl _) _
  go_enter Try.func16, Try.ntmps16
  go_wp2_with fail
  simp only [run_store_fn]
  go_simp
  go_wp2_with fail
  go_loopg [0] n (fun g v wr => ∃ cur : List LOp, Hid (g = cur.length) ∧ Hid (ListAt wr v cur) ∧ Hid (ifOk slimL cur = ifOk slimL ops) ∧ RBox wr w.heap.size ∧ Below w.heap.size w wr)
  case atStart => exact ⟨ops, hlen.out, ⟨a, c, by rw [← hlen.out], by have := hlen.out; omega, by rw [← hlen.out]; exact (H.below hB0 hU).wide (Nat.zero_le _) (by simp; omega)⟩, rfl, ⟨by simp [go_sem], by simp [go_sem], by simp [go_sem], by simp⟩, hB0⟩
  case round =>
    obtain ⟨cur, hk, HL, hfx, hR, hb⟩ := hrel
    have HSZ : Hid (∀ o ∈ cur, OpSz o) := by obtain ⟨_, _, _, _, h⟩ := HL.out; exact h.sz
    obtain ⟨a0, c0, rfl, hc0, HA0⟩ := HL.out
    have HLL : Hid (ListAt wr (.slice a0 cur.length c0) (ruled 0 cur)) := ⟨a0, c0, rfl, hc0, HA0⟩
    have r0 := hR.c0
    have r1 := hR.c1
    have r2 := hR.c2
    clear HL HA0
    go_wp2_with fail
    go_loopg [0, 11] 3 (fun g v q wx => ∃ i : Nat, i ≤ 3 ∧ Hid (g = 3 - i) ∧ q = .int .i64 i ∧ Hid (ListAt wx v (ruled i cur)) ∧ Hid (1 ≤ i → OwnOps wx w.heap.size v (ruled i cur)) ∧ RBox wx w.heap.size ∧ Below w.heap.size w wx)
    case atStart => exact ⟨0, by omega, rfl, rfl, HLL.out, fun h => by omega, hR, hb⟩
    case round =>
      obtain ⟨i, hi, hk1, rfl, HL1, HO1, hR1, hb1⟩ := hrel
      match i, hi with
      | 0, _ =>
        obtain ⟨a1, c1, rfl, hcap, HA⟩ := HL1.out
        have t0 : (0 : Int) < 3 := by omega
        go_wp2_with fail
        simp only [run_idx0]
        go_simp
        go_wp2_with fail
        refine (implSlimTexts a1 _ c1 (ruled 0 cur) _ _ _ hcap (Nat.le_refl _) HA).mono ?_
        rintro e w2 ⟨⟨v2, rfl, ho2⟩, hb2⟩
        have HO2 : Hid (OwnOps w2 w.heap.size v2 (ruled 1 cur)) := ho2.base hb1.size
        have HL2 : Hid (ListAt w2 v2 (ruled 1 cur)) := by
          obtain ⟨a2, c2, rfl, hc2, H2⟩ := HO2.out.atc (ruled_sz HSZ.out 1).1
          exact ⟨a2, c2, rfl, hc2, H2.wide (Nat.zero_le _) (Nat.le_refl _)⟩
        have hR2 := hR1.next hb2
        have hbb2 := hb1.trans (hb2.mono hb1.size)
        clear ho2 hb2 HL1 HO1 HA hR1
        go_wp2_with fail
        go_roundg (3 - 1)
        case measure => have := hk1.out; omega
        case rel => exact ⟨1, by omega, rfl, by go_num, HL2.out, fun _ => HO2.out, hR2, hbb2⟩
      | 1, _ =>
        obtain ⟨a1, c1, rfl, hcap, HA⟩ := HL1.out
        have t1 : (1 : Int) < 3 := by omega
        go_wp2_with fail
        simp only [run_idx1]
        go_simp
        go_wp2_with fail
        refine (implSlimPairs a1 _ c1 (ruled 1 cur) _ _ _ (Nat.le_refl _) HA).mono ?_
        rintro e w2 ⟨⟨v2, rfl, ho2⟩, hb2⟩
        have HO2 : Hid (OwnOps w2 w.heap.size v2 (ruled 2 cur)) := ho2.base hb1.size
        have HL2 : Hid (ListAt w2 v2 (ruled 2 cur)) := by
          obtain ⟨a2, c2, rfl, hc2, H2⟩ := HO2.out.atc (ruled_sz HSZ.out 2).1
          exact ⟨a2, c2, rfl, hc2, H2.wide (Nat.zero_le _) (Nat.le_refl _)⟩
        have hR2 := hR1.next hb2
        have hbb2 := hb1.trans (hb2.mono hb1.size)
        clear ho2 hb2 HL1 HO1 HA hR1
        go_wp2_with fail
        go_roundg (3 - 2)
        case measure => have := hk1.out; omega
        case rel => exact ⟨2, by omega, rfl, by go_num, HL2.out, fun _ => HO2.out, hR2, hbb2⟩
      | 2, _ =>
        obtain ⟨a1, c1, rfl, hcap, HA⟩ := HL1.out
        have t2 : (2 : Int) < 3 := by omega
        go_wp2_with fail
        simp only [run_idx2]
        go_simp
        go_wp2_with fail
        refine (implSlimMoves a1 _ c1 (ruled 2 cur) _ _ _ (Nat.le_refl _) HA).mono ?_
        rintro e w2 ⟨⟨v2, rfl, ho2⟩, hb2⟩
        have HO2 : Hid (OwnOps w2 w.heap.size v2 (ruled 3 cur)) := ho2.base hb1.size
        have HL2 : Hid (ListAt w2 v2 (ruled 3 cur)) := by
          obtain ⟨a2, c2, rfl, hc2, H2⟩ := HO2.out.atc (ruled_sz HSZ.out 3).1
          exact ⟨a2, c2, rfl, hc2, H2.wide (Nat.zero_le _) (Nat.le_refl _)⟩
        have hR2 := hR1.next hb2
        have hbb2 := hb1.trans (hb2.mono hb1.size)
        clear ho2 hb2 HL1 HO1 HA hR1
        go_wp2_with fail
        go_roundg (3 - 3)
        case measure => have := hk1.out; omega
        case rel => exact ⟨3, by omega, rfl, by go_num, HL2.out, fun _ => HO2.out, hR2, hbb2⟩
      | 3, _ =>
        obtain ⟨a1, c1, rfl, hcap, HA⟩ := HL1.out
        have HO3 := HO1.out (by omega)
        by_cases he : (ruled 3 cur).length = cur.length
        · have t0 : (((ruled 3 cur).length : Int) == (cur.length : Int)) = true := by simp [he]
          have HR3 : Hid (ifOk slimL ops = ruled 3 cur) := by show _ = _; rw [← hfx.out]; exact slim_end he
          clear he
          go_wp2_with fail
          go_ret
          exact ⟨⟨_, rfl, by rw [HR3.out]; exact HO3⟩, hb1⟩
        · have t0 : (((ruled 3 cur).length : Int) == (cur.length : Int)) = false := by simp; omega
          have HM := slim_more he
          have HF : Hid (ifOk slimL (ruled 3 cur) = ifOk slimL ops) := by show _ = _; rw [HM.1]; exact hfx.out
          have hlt := HM.2
          have HL3 : Hid (ListAt _ (.slice a1 (ruled 3 cur).length c1) (ruled 3 cur)) := HL1.out
          clear he HM
          generalize ruled 3 cur = nx at *
          go_wp2_with fail
          go_roundg nx.length
          case measure => have := hk.out; omega
          case rel => exact ⟨nx, rfl, HL3.out, HF.out, hR1, hb1⟩
end Go.Proofs.Ytkllejaamnojpaa
