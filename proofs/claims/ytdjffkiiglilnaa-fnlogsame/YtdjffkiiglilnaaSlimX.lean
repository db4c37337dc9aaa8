import Derived.Test.YtdjffkiiglilnaaSlimM
/- Lists of what is done as answers: what the exact laws ask. -/
namespace Go.Proofs.Ytdjffkiiglilnaa
open Go.RowKit

theorem OpsAt.but {w w' : World} {L U b : Nat} {a : Option Addr} {n : Nat} {ops : List LOp} (H : OpsAt w L U a n ops) (hb : But b w w') (hU : U ≤ w.heap.size) (hne : b < L ∨ U ≤ b) : OpsAt w' L U a n ops :=
  ⟨H.len, H.bd, fun hn => by
    obtain ⟨g, off, ha, hL, hbU, hc⟩ := H.at_ hn
    refine ⟨g, off, ha, hL, hbU, fun i hi => ?_⟩
    obtain ⟨o, ho, hs, h0⟩ := hc i hi
    exact ⟨o, ho, hs, h0.of_block (hb.block g (by omega) (by omega))⟩⟩
theorem OwnOps.but {w w' : World} {B b : Nat} {v : Value} {l : List LOp} (h : OwnOps w B v l) (hb : But b w w') (hlt : b < B) : OwnOps w' B v l := by
  refine ⟨h.1, ?_⟩
  rcases h.2 with hn | ⟨g, cap, cur, rfl, hB, hgg, rest⟩
  · exact .inl hn
  · refine .inr ⟨g, cap, cur, rfl, hB, ?_, rest⟩
    rw [hb.block g (by omega) (Array.getElem?_eq_some_iff.1 hgg).1]
    exact hgg
theorem OpRow.next {w w' : World} {B : Nat} {a : Option Addr} {n g cap : Nat} {f : Nat → Value} (h : OpRow w B a n g cap f) (hb : Below w.heap.size w w') : OpRow w' B a n g cap f := fun hn => by
  obtain ⟨h1, h2, h3, h4⟩ := h hn
  exact ⟨h1, h2, h3, h4.of_block (hb.block g h4.lt)⟩
theorem But.under {B b : Nat} {w0 w w' : World} (h : Below B w0 w) (hb : But b w w') (hB : B ≤ b) : Below B w0 w' := h.trans (hb.below.mono hB)

set_option maxHeartbeats 1000000 in
theorem toOpS_row (a : Option Addr) (n c : Nat) (ops : List LOp) (L U : Nat) (w : World) (hn : n ≤ 1048576) (hU : U ≤ w.heap.size) (H : OpsAt w L U a n ops) :
    Calls Try.prog 23 #[.slice a n c] w fun e w' => (∃ b f, e = .returned (.slice (some ⟨b, 0, none⟩) n n) ∧ w.heap.size ≤ b ∧ b < w'.heap.size ∧ w'.rowIs b 99 (n * 7) f ∧ (∀ i, i < n → OpCell f i) ∧ OpsAt w' w.heap.size w'.heap.size (some ⟨b, 0, none⟩) n ops) ∧ Below w.heap.size w w' := by
  have hmk := run_make_many 27 99 _ 7 80 Try.underlying27 info65 n (by omega) (by omega)
  obtain ⟨f0, hf0⟩ := rowIs_many w #[.int .i64 0, .int .i64 0, .string ByteArray.empty, .int .i64 0, .string ByteArray.empty, .int .i64 0, .string ByteArray.empty] (n * 7) 99
  have HF0 : Hid ((w.alloc (.cells (madeCells #[.int .i64 0, .int .i64 0, .string ByteArray.empty, .int .i64 0, .string ByteArray.empty, .int .i64 0, .string ByteArray.empty] (n * 7)) 99)).rowIs w.heap.size 99 (n * 7) f0) := hf0
  clear hf0
  go_enter Try.func23, Try.ntmps23
  go_wp2
  go_loopg [4] n (fun k i wr => ∃ j : Nat, j ≤ n ∧ Hid (k = n - j) ∧ i = .int .i64 j ∧ (∃ f, Hid (wr.rowIs w.heap.size 99 (n * 7) f ∧ ∀ i, i < j → ∃ o, ops[i]? = some o ∧ opF f i o)) ∧ Below w.heap.size w wr)
  case atStart => exact ⟨0, Nat.zero_le _, by show _ = _; omega, rfl, ⟨f0, HF0.out, fun i hi => by omega⟩, (Below.refl _ _).alloc (Nat.le_refl _) _⟩
  case round =>
    obtain ⟨j, hj, hk, rfl, ⟨f, hf⟩, hb⟩ := hrel
    by_cases hlt : j < n
    · obtain ⟨b, off, ha, hL, hbU, hc⟩ := H.at_ (by omega)
      subst ha
      obtain ⟨o, he, hsz, hat⟩ := hc j hlt
      obtain ⟨d0, d1, d2, d3, d4, d5, d6⟩ := hat.of_block (hb.block b (by omega))
      have HE : Hid (ops[j]? = some o) := he
      have HTO := toOp_any o
      simp only [LOp.val] at HTO
      have hlt' : (j : Int) < (n : Int) := by omega
      have hrl := hf.out.1.lt
      clear he hc hat
      go_wp2_with fail
      refine (HTO _).mono ?_
      rintro x w1 ⟨rfl, hb1⟩
      have hrow := hf.out.1.of_block (hb1.block w.heap.size hf.out.1.lt)
      have g0 := hrow.cell (i := j * 7) (by omega)
      have g1 := hrow.cell (i := j * 7 + 1) (by omega)
      have g2 := hrow.cell (i := j * 7 + 2) (by omega)
      have g3 := hrow.cell (i := j * 7 + 3) (by omega)
      have g4 := hrow.cell (i := j * 7 + 4) (by omega)
      have g5 := hrow.cell (i := j * 7 + 5) (by omega)
      have g6 := hrow.cell (i := j * 7 + 6) (by omega)
      have z0 := hrow.frozen (j * 7)
      have z1 := hrow.frozen (j * 7 + 1)
      have z2 := hrow.frozen (j * 7 + 2)
      have z3 := hrow.frozen (j * 7 + 3)
      have z4 := hrow.frozen (j * 7 + 4)
      have z5 := hrow.frozen (j * 7 + 5)
      have z6 := hrow.frozen (j * 7 + 6)
      have HR : Hid (w1.rowIs w.heap.size 99 (n * 7) f) := hrow
      clear hrow HTO d0 d1 d2 d3 d4 d5 d6
      go_wp2_with fail
      go_roundg (n - (j + 1))
      case measure => have := hk.out; omega
      case rel =>
        have hbs := hb1.size
        refine ⟨j + 1, by omega, rfl, by go_num, ⟨_, (((((((HR.out.set (j * 7) (.int .i64 o.kind)).set (j * 7 + 1) (.int .i64 o.dir)).set (j * 7 + 2) (.string o.name)).set (j * 7 + 3) (.int .i64 o.dir2)).set (j * 7 + 4) (.string o.name2)).set (j * 7 + 5) (.int .i64 o.id)).set (j * 7 + 6) (.string o.text)), fun i hi => ?_⟩, ((((((((hb.trans (hb1.mono hb.size)).setCell (by simp) _).setCell (by simp) _).setCell (by simp) _).setCell (by simp) _).setCell (by simp) _).setCell (by simp) _).setCell (by simp) _)⟩
        by_cases hij : i = j
        · subst hij
          exact ⟨o, HE.out, by simp, by simp, by simp, by simp, by simp, by simp, by simp⟩
        · obtain ⟨o', he', q0, q1, q2, q3, q4, q5, q6⟩ := hf.out.2 i (by omega)
          refine ⟨o', he', ?_, ?_, ?_, ?_, ?_, ?_, ?_⟩ <;> dsimp only <;> rw [if_neg (by omega), if_neg (by omega), if_neg (by omega), if_neg (by omega), if_neg (by omega), if_neg (by omega), if_neg (by omega)] <;> assumption
    · go_wp2_with fail
      go_ret
      refine ⟨⟨w.heap.size, f, rfl, Nat.le_refl _, hf.out.1.lt, hf.out.1, fun i hi => (by obtain ⟨o', _, h⟩ := hf.out.2 i (by omega); exact ⟨o', h⟩), H.len, H.bd, fun hn0 => ⟨w.heap.size, 0, rfl, Nat.le_refl _, hf.out.1.lt, fun i hi => ?_⟩⟩, hb⟩
      obtain ⟨o', he', q0, q1, q2, q3, q4, q5, q6⟩ := hf.out.2 i (by omega)
      obtain ⟨b, off, ha, hL, hbU, hc⟩ := H.at_ hn0
      obtain ⟨o2, he2, hsz, _⟩ := hc i hi
      rw [he'] at he2
      cases he2
      refine ⟨o', he', hsz, by rw [← q0, Nat.zero_add]; exact hf.out.1.cell (by omega), by rw [← q1, Nat.zero_add]; exact hf.out.1.cell (by omega), by rw [← q2, Nat.zero_add]; exact hf.out.1.cell (by omega), by rw [← q3, Nat.zero_add]; exact hf.out.1.cell (by omega), by rw [← q4, Nat.zero_add]; exact hf.out.1.cell (by omega), by rw [← q5, Nat.zero_add]; exact hf.out.1.cell (by omega), by rw [← q6, Nat.zero_add]; exact hf.out.1.cell (by omega)⟩


theorem ifOk_sz {F : List LOp → List LOp} {ops : List LOp} (hF : AllL OpSz ops.length (F ops)) : ∀ o ∈ ifOk F ops, OpSz o := by
  unfold ifOk
  split
  · exact hF.1
  · intro o ho; cases ho
theorem ifOk_len {F : List LOp → List LOp} {ops : List LOp} (hF : (F ops).length ≤ ops.length) : (ifOk F ops).length ≤ 60 := by
  unfold ifOk
  split
  · next h => have := formsB_len h; omega
  · simp
end Go.Proofs.Ytdjffkiiglilnaa
