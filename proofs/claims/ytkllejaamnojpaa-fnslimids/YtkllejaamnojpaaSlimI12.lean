import Derived.Test.YtkllejaamnojpaaSlimI11
/- Lists that are made shorter: the program: two in one. -/
namespace Go.Proofs.Ytkllejaamnojpaa
open Go.RowKit

theorem But.sub {B b : Nat} {w0 w w' : World} (h : Below B w0 w) (hb : But b w w') (hB : B ≤ b) : Below B w0 w' := h.trans (hb.below.mono hB)
structure JS (w0 : World) (q3 b kx ky j1 : Nat) (x y : LOp) (W : World) : Prop where
  at_ : W.cell? ⟨q3, 0, none⟩ = some (.int .i64 (j1 : Nat))
  ox : OpAt W b kx x
  oy : OpAt W b ky y
  bel : Below w0.heap.size w0 W
  l3 : q3 < W.heap.size
  lb : b < W.heap.size
theorem JS.next {w0 W W' : World} {q3 b kx ky j1 : Nat} {x y : LOp} (h : JS w0 q3 b kx ky j1 x y W) (hb : Below W.heap.size W W') : JS w0 q3 b kx ky j1 x y W' :=
  ⟨by rw [hb.cell (by simpa using h.l3)]; exact h.at_, h.ox.of_block (hb.block b h.lb), h.oy.of_block (hb.block b h.lb), h.bel.trans (hb.mono h.bel.size), by have := hb.size; have := h.l3; omega, by have := hb.size; have := h.lb; omega⟩
theorem JS.but {w0 W W' : World} {q3 b kx ky j1 q : Nat} {x y : LOp} (h : JS w0 q3 b kx ky j1 x y W) (hb : But q W W') (h3 : q3 ≠ q) (hbq : b ≠ q) (hlo : w0.heap.size ≤ q) : JS w0 q3 b kx ky j1 x y W' :=
  ⟨by rw [hb.cell (by simpa using h3) (by simpa using h.l3)]; exact h.at_, h.ox.of_block (hb.block b hbq h.lb), h.oy.of_block (hb.block b hbq h.lb), But.sub h.bel hb hlo, by have := hb.below.size; have := h.l3; omega, by have := hb.below.size; have := h.lb; omega⟩
/-- The three boxes, filled. -/
structure JT (w0 : World) (q3 q5 q6 j1 : Nat) (x y : LOp) (W : World) : Prop where
  at_ : W.cell? ⟨q3, 0, none⟩ = some (.int .i64 (j1 : Nat))
  bx : BoxAt W q5 x
  e0 : W.cell? ⟨q6, 0, none⟩ = some (.int .i64 y.dir2)
  e1 : W.cell? ⟨q6, 1, none⟩ = some (.string y.name2)
  bel : Below w0.heap.size w0 W
  l3 : q3 < W.heap.size
  l5 : q5 < W.heap.size
  l6 : q6 < W.heap.size
theorem JT.next {w0 W W' : World} {q3 q5 q6 j1 : Nat} {x y : LOp} (h : JT w0 q3 q5 q6 j1 x y W) (hb : Below W.heap.size W W') : JT w0 q3 q5 q6 j1 x y W' :=
  ⟨by rw [hb.cell (by simpa using h.l3)]; exact h.at_, h.bx.of (hb.block q5 h.l5), by rw [hb.cell (by simpa using h.l6)]; exact h.e0, by rw [hb.cell (by simpa using h.l6)]; exact h.e1, h.bel.trans (hb.mono h.bel.size), by have := hb.size; have := h.l3; omega, by have := hb.size; have := h.l5; omega, by have := hb.size; have := h.l6; omega⟩
theorem JT.but {w0 W W' : World} {q3 q5 q6 j1 q : Nat} {x y : LOp} (h : JT w0 q3 q5 q6 j1 x y W) (hb : But q W W') (h3 : q3 ≠ q) (h5 : q5 ≠ q) (h6 : q6 ≠ q) (hlo : w0.heap.size ≤ q) : JT w0 q3 q5 q6 j1 x y W' :=
  ⟨by rw [hb.cell (by simpa using h3) (by simpa using h.l3)]; exact h.at_, h.bx.of (hb.block q5 h5 h.l5), by rw [hb.cell (by simpa using h6) (by simpa using h.l6)]; exact h.e0, by rw [hb.cell (by simpa using h6) (by simpa using h.l6)]; exact h.e1, But.sub h.bel hb hlo, by have := hb.below.size; have := h.l3; omega, by have := hb.below.size; have := h.l5; omega, by have := hb.below.size; have := h.l6; omega⟩
def xrow (x : LOp) (i : Nat) : Value := if i = 0 + 6 then .string x.text else if i = 0 + 5 then .int .i64 x.id else if i = 0 + 4 then .string x.name2 else if i = 0 + 3 then .int .i64 x.dir2 else if i = 0 + 2 then .string x.name else if i = 0 + 1 then .int .i64 x.dir else if i = 0 then .int .i64 x.kind else zrow #[.int .i64 0, .int .i64 0, .string ⟨#[]⟩, .int .i64 0, .string ⟨#[]⟩, .int .i64 0, .string ⟨#[]⟩] i
theorem boxOf {W : World} {q : Nat} {x : LOp} (h : W.rowIs q 30 7 (xrow x)) : BoxAt W q x :=
  ⟨by rw [h.cell (by omega)]; rfl, by rw [h.cell (by omega)]; rfl, by rw [h.cell (by omega)]; rfl, by rw [h.cell (by omega)]; rfl, by rw [h.cell (by omega)]; rfl, by rw [h.cell (by omega)]; rfl, by rw [h.cell (by omega)]; rfl⟩
theorem get_other {A C : List LOp} {u v : LOp} {i : Nat} (h : ¬ i = A.length) : (A ++ [u] ++ C)[i]? = (A ++ [v] ++ C)[i]? := by
  rw [List.append_assoc, List.append_assoc]
  by_cases hi : i < A.length
  · rw [List.getElem?_append_left hi, List.getElem?_append_left hi]
  · have e1 : ∀ t : LOp, (A ++ ([t] ++ C))[i]? = C[i - A.length - 1]? := fun t => by
      rw [List.getElem?_append_right (by omega)]
      obtain ⟨k, hk⟩ : ∃ k, i - A.length = k + 1 := ⟨i - A.length - 1, by omega⟩
      rw [hk]; rfl
    rw [e1, e1]
theorem endV4 {y : LOp} (h : y.kind = 4) : endV y = .agg #[.int .i64 y.dir2, .string y.name2] := by
  unfold endV; rw [show (y.kind == 4) = true from by simp [h]]; rfl

set_option maxHeartbeats 8000000 in
set_option maxRecDepth 20000 in
theorem joinAt_any (a : Option Addr) (n c : Nat) (ops : List LOp) (L U j j1 : Nat) (x y : LOp) (w : World) (hj1 : j1 = j + 1) (hn : n ≤ 1000) (hU : U ≤ w.heap.size) (H : OpsAt w L U a n ops) (hlt : j + 1 < n) (hx : ops[j]? = some x) (hy : ops[j + 1]? = some y) (hjn : joinsB x y = true) :
    Calls Try.prog 122 #[.slice a n c, .int .i64 (j1 : Nat)] w (SlimEnd w (ops.take j ++ joinL x y ++ ops.drop (j + 2))) := by
  have HJ1 : Hid (j1 = j + 1) := hj1
  have y4 : y.kind = 4 := by unfold joinsB at hjn; simp at hjn; exact hjn.1.1
  have HEY := endOf_any y
  rw [endV4 y4] at HEY
  simp only [LOp.val] at HEY
  obtain ⟨b, off, ha, hL, hbU, hc⟩ := H.at_ (by omega)
  subst ha
  obtain ⟨x', ex, hsx, hatx⟩ := hc j (by omega)
  rw [hx] at ex
  cases ex
  obtain ⟨y', ey, hsy, haty⟩ := hc (j + 1) (by omega)
  rw [hy] at ey
  cases ey
  rw [← hj1] at haty
  have hB : Below w.heap.size w (w.alloc (.cells #[.int .i64 (j1 : Nat)] 3)) := (Below.refl _ _).alloc (Nat.le_refl _) _
  have hJS : JS w w.heap.size b (off + j * 7) (off + j1 * 7) j1 x y (w.alloc (.cells #[.int .i64 (j1 : Nat)] 3)).drew := ⟨by simp [go_sem], (hatx.of_block (hB.block b (by omega))).of_block rfl, (haty.of_block (hB.block b (by omega))).of_block rfl, hB.drew, by simp, by simp; omega⟩
  have hltj : (j : Int) < (n : Int) := by omega
  have hlt1 : (j1 : Int) < (n : Int) := by omega
  have HX : Hid (ops[j]? = some x ∧ ops[j + 1]? = some y ∧ joinsB x y = true ∧ y.kind = 4) := ⟨hx, hy, hjn, y4⟩
  clear hc hatx haty hx hy hjn y4 hj1
  go_enter Try.func122, Try.ntmps122
  go_upto_region 1 with fail
  go_cut [5, 6] (fun s5 s6 wx => ∃ q5 q6, s5 = .pointer (some ⟨q5, 0, none⟩) ∧ s6 = .pointer (some ⟨q6, 0, none⟩) ∧ JT w w.heap.size q5 q6 j1 x y wx)
  case first =>
    refine wp_region_held_drew (S := (fun W => JS w w.heap.size b (off + j * 7) (off + j1 * 7) j1 x y W)) (by kernel_rfl) ?_ (fun hHeld => ?_)
    · exact hJS
    refine listH (l2 := #[false, false, false, false, false, false, false, false, false, false, false, false, false, false]) (by kernel_rfl) ?_
    refine takeH (i := 0) (oi := _) (v := ?vp0) 9 #[true, false, false, false, false, false, false, false, false, false, false, false, false, false] rfl (by kernel_rfl) (by kernel_rfl) (by kernel_rfl) rfl (by kernel_rfl) (fun _ _ _ h => h) (Or.inl ⟨by rfl, ?yp0⟩) (by assumption) ?rp0
    case yp0 => (intro w' hSw; obtain ⟨h3, ⟨c0, c1, c2, c3, c4, c5, c6⟩, ⟨d0, d1, d2, d3, d4, d5, d6⟩, _, _, _⟩ := hSw; go_simp; try with_reducible rfl)
    simp only [Act.put, List.setIfInBounds_toArray, List.set_cons_succ, List.set_cons_zero]
    refine takeH (i := 1) (oi := _) (v := ?vp1) 10 #[true, true, false, false, false, false, false, false, false, false, false, false, false, false] rfl (by kernel_rfl) (by kernel_rfl) (by kernel_rfl) rfl (by kernel_rfl) (fun _ _ _ h => h) (Or.inl ⟨by rfl, ?yp1⟩) (by assumption) ?rp1
    case yp1 => (intro w' hSw; obtain ⟨h3, ⟨c0, c1, c2, c3, c4, c5, c6⟩, ⟨d0, d1, d2, d3, d4, d5, d6⟩, _, _, _⟩ := hSw; go_simp; try with_reducible rfl)
    simp only [Act.put, List.setIfInBounds_toArray, List.set_cons_succ, List.set_cons_zero]
    refine takeH (i := 2) (oi := _) (v := (.int .i64 (j : Int))) 11 #[true, true, true, false, false, false, false, false, false, false, false, false, false, false] rfl (by kernel_rfl) (by kernel_rfl) (by kernel_rfl) rfl (by kernel_rfl) (fun _ _ _ h => h) (Or.inl ⟨by rfl, ?yp2⟩) (by assumption) ?rp2
    case yp2 => (intro w' hSw; obtain ⟨h3, ⟨c0, c1, c2, c3, c4, c5, c6⟩, ⟨d0, d1, d2, d3, d4, d5, d6⟩, _, _, _⟩ := hSw; go_simp; simp only [IntKind.wrap_i64]; have := HJ1.out; omega)
    simp only [Act.put, List.setIfInBounds_toArray, List.set_cons_succ, List.set_cons_zero]
    refine takeH (i := 3) (oi := _) (v := ?vp3) 12 #[true, true, true, true, false, false, false, false, false, false, false, false, false, false] rfl (by kernel_rfl) (by kernel_rfl) (by kernel_rfl) rfl (by kernel_rfl) (fun _ _ _ h => h) (Or.inl ⟨by rfl, ?yp3⟩) (by assumption) ?rp3
    case yp3 => (intro w' hSw; obtain ⟨h3, ⟨c0, c1, c2, c3, c4, c5, c6⟩, ⟨d0, d1, d2, d3, d4, d5, d6⟩, _, _, _⟩ := hSw; go_simp; try with_reducible rfl)
    simp only [Act.put, List.setIfInBounds_toArray, List.set_cons_succ, List.set_cons_zero]
    refine takeH (i := 4) (oi := _) (v := ?vp4) 13 #[true, true, true, true, true, false, false, false, false, false, false, false, false, false] rfl (by kernel_rfl) (by kernel_rfl) (by kernel_rfl) rfl (by kernel_rfl) (fun _ _ _ h => h) (Or.inl ⟨by rfl, ?yp4⟩) (by assumption) ?rp4
    case yp4 => (intro w' hSw; obtain ⟨h3, ⟨c0, c1, c2, c3, c4, c5, c6⟩, ⟨d0, d1, d2, d3, d4, d5, d6⟩, _, _, _⟩ := hSw; go_simp; try with_reducible rfl)
    simp only [Act.put, List.setIfInBounds_toArray, List.set_cons_succ, List.set_cons_zero]
    refine takeH (i := 5) (oi := _) (v := ?vp5) 14 #[true, true, true, true, true, true, false, false, false, false, false, false, false, false] rfl (by kernel_rfl) (by kernel_rfl) (by kernel_rfl) rfl (by kernel_rfl) (fun _ _ _ h => h) (Or.inl ⟨by rfl, ?yp5⟩) (by assumption) ?rp5
    case yp5 => (intro w' hSw; obtain ⟨h3, ⟨c0, c1, c2, c3, c4, c5, c6⟩, ⟨d0, d1, d2, d3, d4, d5, d6⟩, _, _, _⟩ := hSw; go_simp; try with_reducible rfl)
    simp only [Act.put, List.setIfInBounds_toArray, List.set_cons_succ, List.set_cons_zero]
    refine takeH (i := 6) (oi := _) (v := ?vp6) 15 #[true, true, true, true, true, true, true, false, false, false, false, false, false, false] rfl (by kernel_rfl) (by kernel_rfl) (by kernel_rfl) rfl (by kernel_rfl) (fun _ _ _ h => h) (Or.inl ⟨by rfl, ?yp6⟩) (by assumption) ?rp6
    case yp6 => (intro w' hSw; obtain ⟨h3, ⟨c0, c1, c2, c3, c4, c5, c6⟩, ⟨d0, d1, d2, d3, d4, d5, d6⟩, _, _, _⟩ := hSw; go_simp; try with_reducible rfl)
    simp only [Act.put, List.setIfInBounds_toArray, List.set_cons_succ, List.set_cons_zero]
    refine takeH (i := 7) (oi := _) (v := ?vp7) 16 #[true, true, true, true, true, true, true, true, false, false, false, false, false, false] rfl (by kernel_rfl) (by kernel_rfl) (by kernel_rfl) rfl (by kernel_rfl) (fun _ _ _ h => h) (Or.inl ⟨by rfl, ?yp7⟩) (by assumption) ?rp7
    case yp7 => (intro w' hSw; obtain ⟨h3, ⟨c0, c1, c2, c3, c4, c5, c6⟩, ⟨d0, d1, d2, d3, d4, d5, d6⟩, _, _, _⟩ := hSw; go_simp; try with_reducible rfl)
    simp only [Act.put, List.setIfInBounds_toArray, List.set_cons_succ, List.set_cons_zero]
    refine takeH (i := 8) (oi := _) (v := ?vp8) 17 #[true, true, true, true, true, true, true, true, true, false, false, false, false, false] rfl (by kernel_rfl) (by kernel_rfl) (by kernel_rfl) rfl (by kernel_rfl) (fun _ _ _ h => h) (Or.inl ⟨by rfl, ?yp8⟩) (by assumption) ?rp8
    case yp8 => (intro w' hSw; obtain ⟨h3, ⟨c0, c1, c2, c3, c4, c5, c6⟩, ⟨d0, d1, d2, d3, d4, d5, d6⟩, _, _, _⟩ := hSw; go_simp; try with_reducible rfl)
    simp only [Act.put, List.setIfInBounds_toArray, List.set_cons_succ, List.set_cons_zero]
    refine wpAnyH_ready (rs := [9, 10, 11]) (by kernel_rfl) (by simp) ?_
    refine AllReadyH.cons (o := _) rfl (fun K hK => ?_) (AllReadyH.cons (o := _) rfl (fun K hK => ?_) (AllReadyH.cons (o := _) rfl (fun K hK => ?_) AllReadyH.nil))
    · go_simp
      refine (HEY _).mono ?_
      rintro e V9 ⟨rfl, hb9⟩
      go_wp2_with fail
      refine hK.out _ _ (hHeld.next hb9) (fun hHeld => ?_)
      clear hK K
      try simp only [Act.put]
      refine listH (l2 := #[true, true, true, true, true, true, true, true, true, true, false, false, false, false]) (by kernel_rfl) ?_
      refine wpAnyH_ready (rs := [10, 11]) (by kernel_rfl) (by simp) ?_
      refine AllReadyH.cons (o := _) rfl (fun K hK => ?_) (AllReadyH.cons (o := _) rfl (fun K hK => ?_) AllReadyH.nil)
      · refine st_alloc30 _ 5 ?_
        intro q5 V10 hq5 hb10 R5
        have n35 : w.heap.size ≠ q5 := by have := hHeld.l3; omega
        have nb5 : b ≠ q5 := by have := hHeld.lb; omega
        have lo5 : w.heap.size ≤ q5 := by have := hHeld.l3; omega
        clear hq5
        refine hK.out _ _ (hHeld.next hb10) (fun hHeld => ?_)
        clear hK K
        simp only [Act.put, List.setIfInBounds_toArray, List.set_cons_succ, List.set_cons_zero]
        refine listH (l2 := #[true, true, true, true, true, true, true, true, true, true, true, false, false, false]) (by kernel_rfl) ?_
        refine wpAnyH_ready (rs := [11]) (by kernel_rfl) (by simp) ?_
        refine AllReadyH.cons (o := _) rfl (fun K hK => ?_) AllReadyH.nil
        · refine st_alloc89 _ 6 ?_
          intro q6 V11 hq6 hb11 R6
          have n36 : w.heap.size ≠ q6 := by have := hHeld.l3; omega
          have nb6 : b ≠ q6 := by have := hHeld.lb; omega
          have lo6 : w.heap.size ≤ q6 := by have := hHeld.l3; omega
          have n56 : q5 ≠ q6 := by have := R5.lt; omega
          clear hq6
          refine hK.out _ _ (hHeld.next hb11) (fun hHeld => ?_)
          clear hK K
          simp only [Act.put, List.setIfInBounds_toArray, List.set_cons_succ, List.set_cons_zero]
          refine listH (l2 := #[true, true, true, true, true, true, true, true, true, true, true, true, false, false]) (by kernel_rfl) ?_
          have R5 := R5.of_block (hb11.block q5 R5.lt)
          refine wpAnyH_ready (rs := [12]) (by kernel_rfl) (by simp) ?_
          refine AllReadyH.cons (o := _) rfl (fun K hK => ?_) AllReadyH.nil
          refine st_store30 _ 5 13 q5 0 x 7 _ rfl rfl R5 (by omega) ⟨⟨0, 0, ⟨#[]⟩, 0, ⟨#[]⟩, 0, ⟨#[]⟩⟩, rfl, rfl, rfl, rfl, rfl, rfl, rfl⟩ ?_
          intro F1 hB1 hR1
          have hR1 : F1.rowIs q5 30 7 (xrow x) := hR1
          refine hK.out _ _ (hHeld.but hB1 n35 nb5 lo5) (fun hHeld => ?_)
          clear hK K
          refine listH (l2 := #[true, true, true, true, true, true, true, true, true, true, true, true, true, false]) (by kernel_rfl) ?_
          have R6 := R6.of_block (hB1.block q6 (fun e => n56 e.symm) R6.lt)
          refine wpAnyH_ready (rs := [13]) (by kernel_rfl) (by simp) ?_
          refine AllReadyH.cons (o := _) rfl (fun K hK => ?_) AllReadyH.nil
          refine st_store89 _ 6 18 q6 y.dir2 y.name2 rfl rfl R6 ?_
          intro F2 hB2 g0 g1
          have hR2 := hR1.of_block (hB2.block q5 n56 hR1.lt)
          have R6l : q6 < F2.heap.size := by have := R6.lt; have := hB2.below.size; omega
          refine hK.out _ _ (hHeld.but hB2 n36 nb6 lo6) (fun hHeld => ?_)
          clear hK K
          refine listH (l2 := #[true, true, true, true, true, true, true, true, true, true, true, true, true, true]) (by kernel_rfl) ?_
          refine wpAnyH_done (by kernel_rfl) ?_ _
          go_wp2_with fail
          go_meet
          exact ⟨q5, q6, rfl, rfl, hHeld.at_, boxOf hR2, g0, g1, hHeld.bel, hHeld.l3, hR2.lt, R6l⟩
      · refine st_alloc89 _ 6 ?_
        intro q6 V11 hq6 hb11 R6
        have n36 : w.heap.size ≠ q6 := by have := hHeld.l3; omega
        have nb6 : b ≠ q6 := by have := hHeld.lb; omega
        have lo6 : w.heap.size ≤ q6 := by have := hHeld.l3; omega
        clear hq6
        refine hK.out _ _ (hHeld.next hb11) (fun hHeld => ?_)
        clear hK K
        simp only [Act.put, List.setIfInBounds_toArray, List.set_cons_succ, List.set_cons_zero]
        refine listH (l2 := #[true, true, true, true, true, true, true, true, true, true, false, true, false, false]) (by kernel_rfl) ?_
        refine wpAnyH_ready (rs := [10]) (by kernel_rfl) (by simp) ?_
        refine AllReadyH.cons (o := _) rfl (fun K hK => ?_) AllReadyH.nil
        · refine st_alloc30 _ 5 ?_
          intro q5 V10 hq5 hb10 R5
          have n35 : w.heap.size ≠ q5 := by have := hHeld.l3; omega
          have nb5 : b ≠ q5 := by have := hHeld.lb; omega
          have lo5 : w.heap.size ≤ q5 := by have := hHeld.l3; omega
          have n56 : q5 ≠ q6 := by have := R6.lt; omega
          clear hq5
          refine hK.out _ _ (hHeld.next hb10) (fun hHeld => ?_)
          clear hK K
          simp only [Act.put, List.setIfInBounds_toArray, List.set_cons_succ, List.set_cons_zero]
          refine listH (l2 := #[true, true, true, true, true, true, true, true, true, true, true, true, false, false]) (by kernel_rfl) ?_
          have R6 := R6.of_block (hb10.block q6 R6.lt)
          refine wpAnyH_ready (rs := [12]) (by kernel_rfl) (by simp) ?_
          refine AllReadyH.cons (o := _) rfl (fun K hK => ?_) AllReadyH.nil
          refine st_store30 _ 5 13 q5 0 x 7 _ rfl rfl R5 (by omega) ⟨⟨0, 0, ⟨#[]⟩, 0, ⟨#[]⟩, 0, ⟨#[]⟩⟩, rfl, rfl, rfl, rfl, rfl, rfl, rfl⟩ ?_
          intro F1 hB1 hR1
          have hR1 : F1.rowIs q5 30 7 (xrow x) := hR1
          refine hK.out _ _ (hHeld.but hB1 n35 nb5 lo5) (fun hHeld => ?_)
          clear hK K
          refine listH (l2 := #[true, true, true, true, true, true, true, true, true, true, true, true, true, false]) (by kernel_rfl) ?_
          have R6 := R6.of_block (hB1.block q6 (fun e => n56 e.symm) R6.lt)
          refine wpAnyH_ready (rs := [13]) (by kernel_rfl) (by simp) ?_
          refine AllReadyH.cons (o := _) rfl (fun K hK => ?_) AllReadyH.nil
          refine st_store89 _ 6 18 q6 y.dir2 y.name2 rfl rfl R6 ?_
          intro F2 hB2 g0 g1
          have hR2 := hR1.of_block (hB2.block q5 n56 hR1.lt)
          have R6l : q6 < F2.heap.size := by have := R6.lt; have := hB2.below.size; omega
          refine hK.out _ _ (hHeld.but hB2 n36 nb6 lo6) (fun hHeld => ?_)
          clear hK K
          refine listH (l2 := #[true, true, true, true, true, true, true, true, true, true, true, true, true, true]) (by kernel_rfl) ?_
          refine wpAnyH_done (by kernel_rfl) ?_ _
          go_wp2_with fail
          go_meet
          exact ⟨q5, q6, rfl, rfl, hHeld.at_, boxOf hR2, g0, g1, hHeld.bel, hHeld.l3, hR2.lt, R6l⟩
    · refine st_alloc30 _ 5 ?_
      intro q5 V10 hq5 hb10 R5
      have n35 : w.heap.size ≠ q5 := by have := hHeld.l3; omega
      have nb5 : b ≠ q5 := by have := hHeld.lb; omega
      have lo5 : w.heap.size ≤ q5 := by have := hHeld.l3; omega
      clear hq5
      refine hK.out _ _ (hHeld.next hb10) (fun hHeld => ?_)
      clear hK K
      simp only [Act.put, List.setIfInBounds_toArray, List.set_cons_succ, List.set_cons_zero]
      refine listH (l2 := #[true, true, true, true, true, true, true, true, true, false, true, false, false, false]) (by kernel_rfl) ?_
      refine wpAnyH_ready (rs := [9, 11]) (by kernel_rfl) (by simp) ?_
      refine AllReadyH.cons (o := _) rfl (fun K hK => ?_) (AllReadyH.cons (o := _) rfl (fun K hK => ?_) AllReadyH.nil)
      · go_simp
        refine (HEY _).mono ?_
        rintro e V9 ⟨rfl, hb9⟩
        go_wp2_with fail
        refine hK.out _ _ (hHeld.next hb9) (fun hHeld => ?_)
        clear hK K
        try simp only [Act.put]
        refine listH (l2 := #[true, true, true, true, true, true, true, true, true, true, true, false, false, false]) (by kernel_rfl) ?_
        have R5 := R5.of_block (hb9.block q5 R5.lt)
        refine wpAnyH_ready (rs := [11]) (by kernel_rfl) (by simp) ?_
        refine AllReadyH.cons (o := _) rfl (fun K hK => ?_) AllReadyH.nil
        · refine st_alloc89 _ 6 ?_
          intro q6 V11 hq6 hb11 R6
          have n36 : w.heap.size ≠ q6 := by have := hHeld.l3; omega
          have nb6 : b ≠ q6 := by have := hHeld.lb; omega
          have lo6 : w.heap.size ≤ q6 := by have := hHeld.l3; omega
          have n56 : q5 ≠ q6 := by have := R5.lt; omega
          clear hq6
          refine hK.out _ _ (hHeld.next hb11) (fun hHeld => ?_)
          clear hK K
          simp only [Act.put, List.setIfInBounds_toArray, List.set_cons_succ, List.set_cons_zero]
          refine listH (l2 := #[true, true, true, true, true, true, true, true, true, true, true, true, false, false]) (by kernel_rfl) ?_
          have R5 := R5.of_block (hb11.block q5 R5.lt)
          refine wpAnyH_ready (rs := [12]) (by kernel_rfl) (by simp) ?_
          refine AllReadyH.cons (o := _) rfl (fun K hK => ?_) AllReadyH.nil
          refine st_store30 _ 5 13 q5 0 x 7 _ rfl rfl R5 (by omega) ⟨⟨0, 0, ⟨#[]⟩, 0, ⟨#[]⟩, 0, ⟨#[]⟩⟩, rfl, rfl, rfl, rfl, rfl, rfl, rfl⟩ ?_
          intro F1 hB1 hR1
          have hR1 : F1.rowIs q5 30 7 (xrow x) := hR1
          refine hK.out _ _ (hHeld.but hB1 n35 nb5 lo5) (fun hHeld => ?_)
          clear hK K
          refine listH (l2 := #[true, true, true, true, true, true, true, true, true, true, true, true, true, false]) (by kernel_rfl) ?_
          have R6 := R6.of_block (hB1.block q6 (fun e => n56 e.symm) R6.lt)
          refine wpAnyH_ready (rs := [13]) (by kernel_rfl) (by simp) ?_
          refine AllReadyH.cons (o := _) rfl (fun K hK => ?_) AllReadyH.nil
          refine st_store89 _ 6 18 q6 y.dir2 y.name2 rfl rfl R6 ?_
          intro F2 hB2 g0 g1
          have hR2 := hR1.of_block (hB2.block q5 n56 hR1.lt)
          have R6l : q6 < F2.heap.size := by have := R6.lt; have := hB2.below.size; omega
          refine hK.out _ _ (hHeld.but hB2 n36 nb6 lo6) (fun hHeld => ?_)
          clear hK K
          refine listH (l2 := #[true, true, true, true, true, true, true, true, true, true, true, true, true, true]) (by kernel_rfl) ?_
          refine wpAnyH_done (by kernel_rfl) ?_ _
          go_wp2_with fail
          go_meet
          exact ⟨q5, q6, rfl, rfl, hHeld.at_, boxOf hR2, g0, g1, hHeld.bel, hHeld.l3, hR2.lt, R6l⟩
      · refine st_alloc89 _ 6 ?_
        intro q6 V11 hq6 hb11 R6
        have n36 : w.heap.size ≠ q6 := by have := hHeld.l3; omega
        have nb6 : b ≠ q6 := by have := hHeld.lb; omega
        have lo6 : w.heap.size ≤ q6 := by have := hHeld.l3; omega
        have n56 : q5 ≠ q6 := by have := R5.lt; omega
        clear hq6
        refine hK.out _ _ (hHeld.next hb11) (fun hHeld => ?_)
        clear hK K
        simp only [Act.put, List.setIfInBounds_toArray, List.set_cons_succ, List.set_cons_zero]
        refine listH (l2 := #[true, true, true, true, true, true, true, true, true, false, true, true, false, false]) (by kernel_rfl) ?_
        have R5 := R5.of_block (hb11.block q5 R5.lt)
        refine wpAnyH_ready (rs := [9]) (by kernel_rfl) (by simp) ?_
        refine AllReadyH.cons (o := _) rfl (fun K hK => ?_) AllReadyH.nil
        · go_simp
          refine (HEY _).mono ?_
          rintro e V9 ⟨rfl, hb9⟩
          go_wp2_with fail
          refine hK.out _ _ (hHeld.next hb9) (fun hHeld => ?_)
          clear hK K
          try simp only [Act.put]
          refine listH (l2 := #[true, true, true, true, true, true, true, true, true, true, true, true, false, false]) (by kernel_rfl) ?_
          have R5 := R5.of_block (hb9.block q5 R5.lt)
          have R6 := R6.of_block (hb9.block q6 R6.lt)
          refine wpAnyH_ready (rs := [12]) (by kernel_rfl) (by simp) ?_
          refine AllReadyH.cons (o := _) rfl (fun K hK => ?_) AllReadyH.nil
          refine st_store30 _ 5 13 q5 0 x 7 _ rfl rfl R5 (by omega) ⟨⟨0, 0, ⟨#[]⟩, 0, ⟨#[]⟩, 0, ⟨#[]⟩⟩, rfl, rfl, rfl, rfl, rfl, rfl, rfl⟩ ?_
          intro F1 hB1 hR1
          have hR1 : F1.rowIs q5 30 7 (xrow x) := hR1
          refine hK.out _ _ (hHeld.but hB1 n35 nb5 lo5) (fun hHeld => ?_)
          clear hK K
          refine listH (l2 := #[true, true, true, true, true, true, true, true, true, true, true, true, true, false]) (by kernel_rfl) ?_
          have R6 := R6.of_block (hB1.block q6 (fun e => n56 e.symm) R6.lt)
          refine wpAnyH_ready (rs := [13]) (by kernel_rfl) (by simp) ?_
          refine AllReadyH.cons (o := _) rfl (fun K hK => ?_) AllReadyH.nil
          refine st_store89 _ 6 18 q6 y.dir2 y.name2 rfl rfl R6 ?_
          intro F2 hB2 g0 g1
          have hR2 := hR1.of_block (hB2.block q5 n56 hR1.lt)
          have R6l : q6 < F2.heap.size := by have := R6.lt; have := hB2.below.size; omega
          refine hK.out _ _ (hHeld.but hB2 n36 nb6 lo6) (fun hHeld => ?_)
          clear hK K
          refine listH (l2 := #[true, true, true, true, true, true, true, true, true, true, true, true, true, true]) (by kernel_rfl) ?_
          refine wpAnyH_done (by kernel_rfl) ?_ _
          go_wp2_with fail
          go_meet
          exact ⟨q5, q6, rfl, rfl, hHeld.at_, boxOf hR2, g0, g1, hHeld.bel, hHeld.l3, hR2.lt, R6l⟩
    · refine st_alloc89 _ 6 ?_
      intro q6 V11 hq6 hb11 R6
      have n36 : w.heap.size ≠ q6 := by have := hHeld.l3; omega
      have nb6 : b ≠ q6 := by have := hHeld.lb; omega
      have lo6 : w.heap.size ≤ q6 := by have := hHeld.l3; omega
      clear hq6
      refine hK.out _ _ (hHeld.next hb11) (fun hHeld => ?_)
      clear hK K
      simp only [Act.put, List.setIfInBounds_toArray, List.set_cons_succ, List.set_cons_zero]
      refine listH (l2 := #[true, true, true, true, true, true, true, true, true, false, false, true, false, false]) (by kernel_rfl) ?_
      refine wpAnyH_ready (rs := [9, 10]) (by kernel_rfl) (by simp) ?_
      refine AllReadyH.cons (o := _) rfl (fun K hK => ?_) (AllReadyH.cons (o := _) rfl (fun K hK => ?_) AllReadyH.nil)
      · go_simp
        refine (HEY _).mono ?_
        rintro e V9 ⟨rfl, hb9⟩
        go_wp2_with fail
        refine hK.out _ _ (hHeld.next hb9) (fun hHeld => ?_)
        clear hK K
        try simp only [Act.put]
        refine listH (l2 := #[true, true, true, true, true, true, true, true, true, true, false, true, false, false]) (by kernel_rfl) ?_
        have R6 := R6.of_block (hb9.block q6 R6.lt)
        refine wpAnyH_ready (rs := [10]) (by kernel_rfl) (by simp) ?_
        refine AllReadyH.cons (o := _) rfl (fun K hK => ?_) AllReadyH.nil
        · refine st_alloc30 _ 5 ?_
          intro q5 V10 hq5 hb10 R5
          have n35 : w.heap.size ≠ q5 := by have := hHeld.l3; omega
          have nb5 : b ≠ q5 := by have := hHeld.lb; omega
          have lo5 : w.heap.size ≤ q5 := by have := hHeld.l3; omega
          have n56 : q5 ≠ q6 := by have := R6.lt; omega
          clear hq5
          refine hK.out _ _ (hHeld.next hb10) (fun hHeld => ?_)
          clear hK K
          simp only [Act.put, List.setIfInBounds_toArray, List.set_cons_succ, List.set_cons_zero]
          refine listH (l2 := #[true, true, true, true, true, true, true, true, true, true, true, true, false, false]) (by kernel_rfl) ?_
          have R6 := R6.of_block (hb10.block q6 R6.lt)
          refine wpAnyH_ready (rs := [12]) (by kernel_rfl) (by simp) ?_
          refine AllReadyH.cons (o := _) rfl (fun K hK => ?_) AllReadyH.nil
          refine st_store30 _ 5 13 q5 0 x 7 _ rfl rfl R5 (by omega) ⟨⟨0, 0, ⟨#[]⟩, 0, ⟨#[]⟩, 0, ⟨#[]⟩⟩, rfl, rfl, rfl, rfl, rfl, rfl, rfl⟩ ?_
          intro F1 hB1 hR1
          have hR1 : F1.rowIs q5 30 7 (xrow x) := hR1
          refine hK.out _ _ (hHeld.but hB1 n35 nb5 lo5) (fun hHeld => ?_)
          clear hK K
          refine listH (l2 := #[true, true, true, true, true, true, true, true, true, true, true, true, true, false]) (by kernel_rfl) ?_
          have R6 := R6.of_block (hB1.block q6 (fun e => n56 e.symm) R6.lt)
          refine wpAnyH_ready (rs := [13]) (by kernel_rfl) (by simp) ?_
          refine AllReadyH.cons (o := _) rfl (fun K hK => ?_) AllReadyH.nil
          refine st_store89 _ 6 18 q6 y.dir2 y.name2 rfl rfl R6 ?_
          intro F2 hB2 g0 g1
          have hR2 := hR1.of_block (hB2.block q5 n56 hR1.lt)
          have R6l : q6 < F2.heap.size := by have := R6.lt; have := hB2.below.size; omega
          refine hK.out _ _ (hHeld.but hB2 n36 nb6 lo6) (fun hHeld => ?_)
          clear hK K
          refine listH (l2 := #[true, true, true, true, true, true, true, true, true, true, true, true, true, true]) (by kernel_rfl) ?_
          refine wpAnyH_done (by kernel_rfl) ?_ _
          go_wp2_with fail
          go_meet
          exact ⟨q5, q6, rfl, rfl, hHeld.at_, boxOf hR2, g0, g1, hHeld.bel, hHeld.l3, hR2.lt, R6l⟩
      · refine st_alloc30 _ 5 ?_
        intro q5 V10 hq5 hb10 R5
        have n35 : w.heap.size ≠ q5 := by have := hHeld.l3; omega
        have nb5 : b ≠ q5 := by have := hHeld.lb; omega
        have lo5 : w.heap.size ≤ q5 := by have := hHeld.l3; omega
        have n56 : q5 ≠ q6 := by have := R6.lt; omega
        clear hq5
        refine hK.out _ _ (hHeld.next hb10) (fun hHeld => ?_)
        clear hK K
        simp only [Act.put, List.setIfInBounds_toArray, List.set_cons_succ, List.set_cons_zero]
        refine listH (l2 := #[true, true, true, true, true, true, true, true, true, false, true, true, false, false]) (by kernel_rfl) ?_
        have R6 := R6.of_block (hb10.block q6 R6.lt)
        refine wpAnyH_ready (rs := [9]) (by kernel_rfl) (by simp) ?_
        refine AllReadyH.cons (o := _) rfl (fun K hK => ?_) AllReadyH.nil
        · go_simp
          refine (HEY _).mono ?_
          rintro e V9 ⟨rfl, hb9⟩
          go_wp2_with fail
          refine hK.out _ _ (hHeld.next hb9) (fun hHeld => ?_)
          clear hK K
          try simp only [Act.put]
          refine listH (l2 := #[true, true, true, true, true, true, true, true, true, true, true, true, false, false]) (by kernel_rfl) ?_
          have R5 := R5.of_block (hb9.block q5 R5.lt)
          have R6 := R6.of_block (hb9.block q6 R6.lt)
          refine wpAnyH_ready (rs := [12]) (by kernel_rfl) (by simp) ?_
          refine AllReadyH.cons (o := _) rfl (fun K hK => ?_) AllReadyH.nil
          refine st_store30 _ 5 13 q5 0 x 7 _ rfl rfl R5 (by omega) ⟨⟨0, 0, ⟨#[]⟩, 0, ⟨#[]⟩, 0, ⟨#[]⟩⟩, rfl, rfl, rfl, rfl, rfl, rfl, rfl⟩ ?_
          intro F1 hB1 hR1
          have hR1 : F1.rowIs q5 30 7 (xrow x) := hR1
          refine hK.out _ _ (hHeld.but hB1 n35 nb5 lo5) (fun hHeld => ?_)
          clear hK K
          refine listH (l2 := #[true, true, true, true, true, true, true, true, true, true, true, true, true, false]) (by kernel_rfl) ?_
          have R6 := R6.of_block (hB1.block q6 (fun e => n56 e.symm) R6.lt)
          refine wpAnyH_ready (rs := [13]) (by kernel_rfl) (by simp) ?_
          refine AllReadyH.cons (o := _) rfl (fun K hK => ?_) AllReadyH.nil
          refine st_store89 _ 6 18 q6 y.dir2 y.name2 rfl rfl R6 ?_
          intro F2 hB2 g0 g1
          have hR2 := hR1.of_block (hB2.block q5 n56 hR1.lt)
          have R6l : q6 < F2.heap.size := by have := R6.lt; have := hB2.below.size; omega
          refine hK.out _ _ (hHeld.but hB2 n36 nb6 lo6) (fun hHeld => ?_)
          clear hK K
          refine listH (l2 := #[true, true, true, true, true, true, true, true, true, true, true, true, true, true]) (by kernel_rfl) ?_
          refine wpAnyH_done (by kernel_rfl) ?_ _
          go_wp2_with fail
          go_meet
          exact ⟨q5, q6, rfl, rfl, hHeld.at_, boxOf hR2, g0, g1, hHeld.bel, hHeld.l3, hR2.lt, R6l⟩
  obtain ⟨q5, q6, rfl, rfl, hJT⟩ := hcut
  obtain ⟨W2, rfl⟩ : ∃ W2, W2 = wc := ⟨_, rfl⟩
  clear hJS hB
  have HSX := startOf_any x
  unfold startV at HSX
  simp only [LOp.val] at HSX
  go_upto_region 2 with fail
  go_cut [7] (fun s7 wx => ∃ q7, s7 = .pointer (some ⟨q7, 0, none⟩) ∧ JT w w.heap.size q5 q6 j1 x y wx ∧ wx.cell? ⟨q7, 0, none⟩ = some (.bool (backB x y)) ∧ q7 < wx.heap.size)
  case first =>
    rcases k4 : (x.kind == 4) with _ | _
    · have HBK : Hid (backB x y = false) := by show _ = _; unfold backB; rw [k4]; rfl
      refine wp_region_held_drew (S := (fun W => JT w w.heap.size q5 q6 j1 x y W)) (by kernel_rfl) ?_ (fun hHeld => ?_)
      · exact hJT.next (Below.refl _ _).drew
      refine listH (l2 := #[false, false, false, false, false, false, false, false, false, false, false]) (by kernel_rfl) ?_
      refine takeH (i := 0) (oi := _) (v := ?vk1) 19 #[true, false, false, false, false, false, false, false, false, false, false] rfl (by kernel_rfl) (by kernel_rfl) (by kernel_rfl) rfl (by kernel_rfl) (fun _ _ _ h => h) (Or.inl ⟨by rfl, ?yk1⟩) (by assumption) ?rk1
      case yk1 => (intro w' hSw; obtain ⟨h3, ⟨c0, c1, c2, c3, c4, c5, c6⟩, g0, g1, _, _, _, _⟩ := hSw; go_simp; try with_reducible rfl)
      simp only [Act.put, List.setIfInBounds_toArray, List.set_cons_succ, List.set_cons_zero]
      refine takeH (i := 1) (oi := _) (v := ?vk2) 20 #[true, true, false, false, false, false, false, false, false, false, false] rfl (by kernel_rfl) (by kernel_rfl) (by kernel_rfl) rfl (by kernel_rfl) (fun _ _ _ h => h) (Or.inl ⟨by rfl, ?yk2⟩) (by assumption) ?rk2
      case yk2 => (intro w' hSw; obtain ⟨h3, ⟨c0, c1, c2, c3, c4, c5, c6⟩, g0, g1, _, _, _, _⟩ := hSw; go_simp; try with_reducible rfl)
      simp only [Act.put, List.setIfInBounds_toArray, List.set_cons_succ, List.set_cons_zero]
      refine wpAnyH_ready (rs := [2, 9]) (by kernel_rfl) (by simp) ?_
      refine AllReadyH.cons (o := _) rfl (fun K hK => ?_) (AllReadyH.cons (o := _) rfl (fun K hK => ?_) AllReadyH.nil)
      · go_simp
        refine (moves_b k4 _).mono ?_
        rintro e w1 ⟨rfl, rfl⟩
        go_wp2_with fail
        refine hK.out _ _ hHeld (fun hHeld => ?_)
        clear hK K
        try simp only [Act.put]
        refine listH (l2 := #[true, true, true, false, false, false, false, false, false, false, false]) (by kernel_rfl) ?_
        refine takeH (i := 3) (oi := _) (v := ?vk3) 22 #[true, true, true, true, false, false, false, false, false, false, false] rfl (by kernel_rfl) (by kernel_rfl) (by kernel_rfl) rfl (by kernel_rfl) (fun _ _ _ h => h) (Or.inl ⟨by rfl, ?yk3⟩) (by assumption) ?rk3
        case yk3 => (intro w' hSw; obtain ⟨h3, ⟨c0, c1, c2, c3, c4, c5, c6⟩, g0, g1, _, _, _, _⟩ := hSw; go_simp; try with_reducible rfl)
        simp only [Act.put, List.setIfInBounds_toArray, List.set_cons_succ, List.set_cons_zero]
        refine takeH (i := 4) (oi := _) (v := undef) 23 #[true, true, true, true, true, false, false, false, false, false, false] rfl (by kernel_rfl) (by kernel_rfl) (by kernel_rfl) rfl (by kernel_rfl) (fun _ _ _ h => h) (Or.inr ⟨by rfl, rfl⟩) (by assumption) ?rk4
        simp only [Act.put, List.setIfInBounds_toArray, List.set_cons_succ, List.set_cons_zero]
        refine takeH (i := 5) (oi := _) (v := undef) 24 #[true, true, true, true, true, true, false, false, false, false, false] rfl (by kernel_rfl) (by kernel_rfl) (by kernel_rfl) rfl (by kernel_rfl) (fun _ _ _ h => h) (Or.inr ⟨by rfl, rfl⟩) (by assumption) ?rk5
        simp only [Act.put, List.setIfInBounds_toArray, List.set_cons_succ, List.set_cons_zero]
        refine takeH (i := 6) (oi := _) (v := undef) 25 #[true, true, true, true, true, true, true, false, false, false, false] rfl (by kernel_rfl) (by kernel_rfl) (by kernel_rfl) rfl (by kernel_rfl) (fun _ _ _ h => h) (Or.inr ⟨by rfl, rfl⟩) (by assumption) ?rk6
        simp only [Act.put, List.setIfInBounds_toArray, List.set_cons_succ, List.set_cons_zero]
        refine takeH (i := 7) (oi := _) (v := undef) 26 #[true, true, true, true, true, true, true, true, false, false, false] rfl (by kernel_rfl) (by kernel_rfl) (by kernel_rfl) rfl (by kernel_rfl) (fun _ _ _ h => h) (Or.inr ⟨by rfl, rfl⟩) (by assumption) ?rk7
        simp only [Act.put, List.setIfInBounds_toArray, List.set_cons_succ, List.set_cons_zero]
        refine takeH (i := 8) (oi := _) (v := ?vk8) 27 #[true, true, true, true, true, true, true, true, true, false, false] rfl (by kernel_rfl) (by kernel_rfl) (by kernel_rfl) rfl (by kernel_rfl) (fun _ _ _ h => h) (Or.inl ⟨by rfl, ?yk8⟩) (by assumption) ?rk8
        case yk8 => (intro w' hSw; obtain ⟨h3, ⟨c0, c1, c2, c3, c4, c5, c6⟩, g0, g1, _, _, _, _⟩ := hSw; go_simp; try with_reducible rfl)
        simp only [Act.put, List.setIfInBounds_toArray, List.set_cons_succ, List.set_cons_zero]
        refine wpAnyH_ready (rs := [9]) (by kernel_rfl) (by simp) ?_
        refine AllReadyH.cons (o := _) rfl (fun K hK => ?_) AllReadyH.nil
        refine st_alloc4 _ 7 ?_
        intro q7 V7 hq7 hb7 R7
        have n3 : w.heap.size ≠ q7 := by have := hHeld.l3; omega
        have n5 : q5 ≠ q7 := by have := hHeld.l5; omega
        have n6 : q6 ≠ q7 := by have := hHeld.l6; omega
        have lo7 : w.heap.size ≤ q7 := by have := hHeld.l3; omega
        clear hq7
        refine hK.out _ _ (hHeld.next hb7) (fun hHeld => ?_)
        clear hK K
        simp only [Act.put, List.setIfInBounds_toArray, List.set_cons_succ, List.set_cons_zero]
        refine listH (l2 := #[true, true, true, true, true, true, true, true, true, true, false]) (by kernel_rfl) ?_
        refine wpAnyH_ready (rs := [10]) (by kernel_rfl) (by simp) ?_
        refine AllReadyH.cons (o := _) rfl (fun K hK => ?_) AllReadyH.nil
        refine st_store4 _ 7 27 q7 false rfl rfl R7 ?_
        intro F hB7 g7
        have l7 : q7 < F.heap.size := by have := R7.lt; have := hB7.below.size; omega
        refine hK.out _ _ (hHeld.but hB7 n3 n5 n6 lo7) (fun hHeld => ?_)
        clear hK K
        refine listH (l2 := #[true, true, true, true, true, true, true, true, true, true, true]) (by kernel_rfl) ?_
        refine wpAnyH_done (by kernel_rfl) ?_ _
        go_wp2_with fail
        go_meet
        exact ⟨q7, rfl, hHeld, by rw [HBK.out]; exact g7, l7⟩
      · refine st_alloc4 _ 7 ?_
        intro q7 V7 hq7 hb7 R7
        have n3 : w.heap.size ≠ q7 := by have := hHeld.l3; omega
        have n5 : q5 ≠ q7 := by have := hHeld.l5; omega
        have n6 : q6 ≠ q7 := by have := hHeld.l6; omega
        have lo7 : w.heap.size ≤ q7 := by have := hHeld.l3; omega
        clear hq7
        refine hK.out _ _ (hHeld.next hb7) (fun hHeld => ?_)
        clear hK K
        simp only [Act.put, List.setIfInBounds_toArray, List.set_cons_succ, List.set_cons_zero]
        refine listH (l2 := #[true, true, false, false, false, false, false, false, false, true, false]) (by kernel_rfl) ?_
        refine wpAnyH_ready (rs := [2]) (by kernel_rfl) (by simp) ?_
        refine AllReadyH.cons (o := _) rfl (fun K hK => ?_) AllReadyH.nil
        go_simp
        refine (moves_b k4 _).mono ?_
        rintro e w1 ⟨rfl, rfl⟩
        go_wp2_with fail
        refine hK.out _ _ hHeld (fun hHeld => ?_)
        clear hK K
        try simp only [Act.put]
        refine listH (l2 := #[true, true, true, false, false, false, false, false, false, true, false]) (by kernel_rfl) ?_
        refine takeH (i := 3) (oi := _) (v := ?vk9) 22 #[true, true, true, true, false, false, false, false, false, true, false] rfl (by kernel_rfl) (by kernel_rfl) (by kernel_rfl) rfl (by kernel_rfl) (fun _ _ _ h => h) (Or.inl ⟨by rfl, ?yk9⟩) (by assumption) ?rk9
        case yk9 => (intro w' hSw; obtain ⟨h3, ⟨c0, c1, c2, c3, c4, c5, c6⟩, g0, g1, _, _, _, _⟩ := hSw; go_simp; try with_reducible rfl)
        simp only [Act.put, List.setIfInBounds_toArray, List.set_cons_succ, List.set_cons_zero]
        refine takeH (i := 4) (oi := _) (v := undef) 23 #[true, true, true, true, true, false, false, false, false, true, false] rfl (by kernel_rfl) (by kernel_rfl) (by kernel_rfl) rfl (by kernel_rfl) (fun _ _ _ h => h) (Or.inr ⟨by rfl, rfl⟩) (by assumption) ?rk10
        simp only [Act.put, List.setIfInBounds_toArray, List.set_cons_succ, List.set_cons_zero]
        refine takeH (i := 5) (oi := _) (v := undef) 24 #[true, true, true, true, true, true, false, false, false, true, false] rfl (by kernel_rfl) (by kernel_rfl) (by kernel_rfl) rfl (by kernel_rfl) (fun _ _ _ h => h) (Or.inr ⟨by rfl, rfl⟩) (by assumption) ?rk11
        simp only [Act.put, List.setIfInBounds_toArray, List.set_cons_succ, List.set_cons_zero]
        refine takeH (i := 6) (oi := _) (v := undef) 25 #[true, true, true, true, true, true, true, false, false, true, false] rfl (by kernel_rfl) (by kernel_rfl) (by kernel_rfl) rfl (by kernel_rfl) (fun _ _ _ h => h) (Or.inr ⟨by rfl, rfl⟩) (by assumption) ?rk12
        simp only [Act.put, List.setIfInBounds_toArray, List.set_cons_succ, List.set_cons_zero]
        refine takeH (i := 7) (oi := _) (v := undef) 26 #[true, true, true, true, true, true, true, true, false, true, false] rfl (by kernel_rfl) (by kernel_rfl) (by kernel_rfl) rfl (by kernel_rfl) (fun _ _ _ h => h) (Or.inr ⟨by rfl, rfl⟩) (by assumption) ?rk13
        simp only [Act.put, List.setIfInBounds_toArray, List.set_cons_succ, List.set_cons_zero]
        refine takeH (i := 8) (oi := _) (v := ?vk14) 27 #[true, true, true, true, true, true, true, true, true, true, false] rfl (by kernel_rfl) (by kernel_rfl) (by kernel_rfl) rfl (by kernel_rfl) (fun _ _ _ h => h) (Or.inl ⟨by rfl, ?yk14⟩) (by assumption) ?rk14
        case yk14 => (intro w' hSw; obtain ⟨h3, ⟨c0, c1, c2, c3, c4, c5, c6⟩, g0, g1, _, _, _, _⟩ := hSw; go_simp; try with_reducible rfl)
        simp only [Act.put, List.setIfInBounds_toArray, List.set_cons_succ, List.set_cons_zero]
        refine wpAnyH_ready (rs := [10]) (by kernel_rfl) (by simp) ?_
        refine AllReadyH.cons (o := _) rfl (fun K hK => ?_) AllReadyH.nil
        refine st_store4 _ 7 27 q7 false rfl rfl R7 ?_
        intro F hB7 g7
        have l7 : q7 < F.heap.size := by have := R7.lt; have := hB7.below.size; omega
        refine hK.out _ _ (hHeld.but hB7 n3 n5 n6 lo7) (fun hHeld => ?_)
        clear hK K
        refine listH (l2 := #[true, true, true, true, true, true, true, true, true, true, true]) (by kernel_rfl) ?_
        refine wpAnyH_done (by kernel_rfl) ?_ _
        go_wp2_with fail
        go_meet
        exact ⟨q7, rfl, hHeld, by rw [HBK.out]; exact g7, l7⟩
    · have HBK : Hid (backB x y = ((x.dir == y.dir2) && (x.name.toList == y.name2.toList))) := by show _ = _; unfold backB; rw [k4]; rfl
      refine wp_region_held_drew (S := (fun W => JT w w.heap.size q5 q6 j1 x y W)) (by kernel_rfl) ?_ (fun hHeld => ?_)
      · exact hJT.next (Below.refl _ _).drew
      refine listH (l2 := #[false, false, false, false, false, false, false, false, false, false, false]) (by kernel_rfl) ?_
      refine takeH (i := 0) (oi := _) (v := ?vk15) 19 #[true, false, false, false, false, false, false, false, false, false, false] rfl (by kernel_rfl) (by kernel_rfl) (by kernel_rfl) rfl (by kernel_rfl) (fun _ _ _ h => h) (Or.inl ⟨by rfl, ?yk15⟩) (by assumption) ?rk15
      case yk15 => (intro w' hSw; obtain ⟨h3, ⟨c0, c1, c2, c3, c4, c5, c6⟩, g0, g1, _, _, _, _⟩ := hSw; go_simp; try with_reducible rfl)
      simp only [Act.put, List.setIfInBounds_toArray, List.set_cons_succ, List.set_cons_zero]
      refine takeH (i := 1) (oi := _) (v := ?vk16) 20 #[true, true, false, false, false, false, false, false, false, false, false] rfl (by kernel_rfl) (by kernel_rfl) (by kernel_rfl) rfl (by kernel_rfl) (fun _ _ _ h => h) (Or.inl ⟨by rfl, ?yk16⟩) (by assumption) ?rk16
      case yk16 => (intro w' hSw; obtain ⟨h3, ⟨c0, c1, c2, c3, c4, c5, c6⟩, g0, g1, _, _, _, _⟩ := hSw; go_simp; try with_reducible rfl)
      simp only [Act.put, List.setIfInBounds_toArray, List.set_cons_succ, List.set_cons_zero]
      refine wpAnyH_ready (rs := [2, 9]) (by kernel_rfl) (by simp) ?_
      refine AllReadyH.cons (o := _) rfl (fun K hK => ?_) (AllReadyH.cons (o := _) rfl (fun K hK => ?_) AllReadyH.nil)
      · go_simp
        refine (moves_b k4 _).mono ?_
        rintro e w1 ⟨rfl, rfl⟩
        go_wp2_with fail
        refine hK.out _ _ hHeld (fun hHeld => ?_)
        clear hK K
        try simp only [Act.put]
        refine listH (l2 := #[true, true, true, false, false, false, false, false, false, false, false]) (by kernel_rfl) ?_
        refine takeH (i := 3) (oi := _) (v := ?vk17) 22 #[true, true, true, true, false, false, false, false, false, false, false] rfl (by kernel_rfl) (by kernel_rfl) (by kernel_rfl) rfl (by kernel_rfl) (fun _ _ _ h => h) (Or.inl ⟨by rfl, ?yk17⟩) (by assumption) ?rk17
        case yk17 => (intro w' hSw; obtain ⟨h3, ⟨c0, c1, c2, c3, c4, c5, c6⟩, g0, g1, _, _, _, _⟩ := hSw; go_simp; try with_reducible rfl)
        simp only [Act.put, List.setIfInBounds_toArray, List.set_cons_succ, List.set_cons_zero]
        refine takeH (i := 4) (oi := _) (v := ?vk18) 23 #[true, true, true, true, true, false, false, false, false, false, false] rfl (by kernel_rfl) (by kernel_rfl) (by kernel_rfl) rfl (by kernel_rfl) (fun _ _ _ h => h) (Or.inl ⟨by rfl, ?yk18⟩) (by assumption) ?rk18
        case yk18 => (intro w' hSw; obtain ⟨h3, ⟨c0, c1, c2, c3, c4, c5, c6⟩, g0, g1, _, _, _, _⟩ := hSw; go_simp; try with_reducible rfl)
        simp only [Act.put, List.setIfInBounds_toArray, List.set_cons_succ, List.set_cons_zero]
        refine takeH (i := 6) (oi := _) (v := ?vk19) 25 #[true, true, true, true, true, false, true, false, false, false, false] rfl (by kernel_rfl) (by kernel_rfl) (by kernel_rfl) rfl (by kernel_rfl) (fun _ _ _ h => h) (Or.inl ⟨by rfl, ?yk19⟩) (by assumption) ?rk19
        case yk19 => (intro w' hSw; obtain ⟨h3, ⟨c0, c1, c2, c3, c4, c5, c6⟩, g0, g1, _, _, _, _⟩ := hSw; go_simp; try with_reducible rfl)
        simp only [Act.put, List.setIfInBounds_toArray, List.set_cons_succ, List.set_cons_zero]
        refine wpAnyH_ready (rs := [5, 9]) (by kernel_rfl) (by simp) ?_
        refine AllReadyH.cons (o := _) rfl (fun K hK => ?_) (AllReadyH.cons (o := _) rfl (fun K hK => ?_) AllReadyH.nil)
        · go_simp
          refine (HSX _).mono ?_
          rintro e V5 ⟨rfl, hb5⟩
          go_wp2_with fail
          refine hK.out _ _ (hHeld.next hb5) (fun hHeld => ?_)
          clear hK K
          try simp only [Act.put]
          refine listH (l2 := #[true, true, true, true, true, true, true, false, false, false, false]) (by kernel_rfl) ?_
          refine takeH (i := 7) (oi := _) (v := (.bool ((x.dir == y.dir2) && (x.name.toList == y.name2.toList)))) 26 #[true, true, true, true, true, true, true, true, false, false, false] rfl (by kernel_rfl) (by kernel_rfl) (by kernel_rfl) rfl (by kernel_rfl) (fun _ _ _ h => h) (Or.inl ⟨by rfl, ?yk20⟩) (by assumption) ?rk20
          case yk20 => (intro w' hSw; obtain ⟨h3, ⟨c0, c1, c2, c3, c4, c5, c6⟩, g0, g1, _, _, _, _⟩ := hSw; go_simp; (by_cases h1 : x.dir = y.dir2) <;> (by_cases h2 : x.name.toList = y.name2.toList) <;> simp [h1, h2])
          simp only [Act.put, List.setIfInBounds_toArray, List.set_cons_succ, List.set_cons_zero]
          refine takeH (i := 8) (oi := _) (v := ?vk21) 27 #[true, true, true, true, true, true, true, true, true, false, false] rfl (by kernel_rfl) (by kernel_rfl) (by kernel_rfl) rfl (by kernel_rfl) (fun _ _ _ h => h) (Or.inl ⟨by rfl, ?yk21⟩) (by assumption) ?rk21
          case yk21 => (intro w' hSw; obtain ⟨h3, ⟨c0, c1, c2, c3, c4, c5, c6⟩, g0, g1, _, _, _, _⟩ := hSw; go_simp; try with_reducible rfl)
          simp only [Act.put, List.setIfInBounds_toArray, List.set_cons_succ, List.set_cons_zero]
          refine wpAnyH_ready (rs := [9]) (by kernel_rfl) (by simp) ?_
          refine AllReadyH.cons (o := _) rfl (fun K hK => ?_) AllReadyH.nil
          refine st_alloc4 _ 7 ?_
          intro q7 V7 hq7 hb7 R7
          have n3 : w.heap.size ≠ q7 := by have := hHeld.l3; omega
          have n5 : q5 ≠ q7 := by have := hHeld.l5; omega
          have n6 : q6 ≠ q7 := by have := hHeld.l6; omega
          have lo7 : w.heap.size ≤ q7 := by have := hHeld.l3; omega
          clear hq7
          refine hK.out _ _ (hHeld.next hb7) (fun hHeld => ?_)
          clear hK K
          simp only [Act.put, List.setIfInBounds_toArray, List.set_cons_succ, List.set_cons_zero]
          refine listH (l2 := #[true, true, true, true, true, true, true, true, true, true, false]) (by kernel_rfl) ?_
          refine wpAnyH_ready (rs := [10]) (by kernel_rfl) (by simp) ?_
          refine AllReadyH.cons (o := _) rfl (fun K hK => ?_) AllReadyH.nil
          refine st_store4 _ 7 27 q7 ((x.dir == y.dir2) && (x.name.toList == y.name2.toList)) rfl rfl R7 ?_
          intro F hB7 g7
          have l7 : q7 < F.heap.size := by have := R7.lt; have := hB7.below.size; omega
          refine hK.out _ _ (hHeld.but hB7 n3 n5 n6 lo7) (fun hHeld => ?_)
          clear hK K
          refine listH (l2 := #[true, true, true, true, true, true, true, true, true, true, true]) (by kernel_rfl) ?_
          refine wpAnyH_done (by kernel_rfl) ?_ _
          go_wp2_with fail
          go_meet
          exact ⟨q7, rfl, hHeld, by rw [HBK.out]; exact g7, l7⟩
        · refine st_alloc4 _ 7 ?_
          intro q7 V7 hq7 hb7 R7
          have n3 : w.heap.size ≠ q7 := by have := hHeld.l3; omega
          have n5 : q5 ≠ q7 := by have := hHeld.l5; omega
          have n6 : q6 ≠ q7 := by have := hHeld.l6; omega
          have lo7 : w.heap.size ≤ q7 := by have := hHeld.l3; omega
          clear hq7
          refine hK.out _ _ (hHeld.next hb7) (fun hHeld => ?_)
          clear hK K
          simp only [Act.put, List.setIfInBounds_toArray, List.set_cons_succ, List.set_cons_zero]
          refine listH (l2 := #[true, true, true, true, true, false, true, false, false, true, false]) (by kernel_rfl) ?_
          refine wpAnyH_ready (rs := [5]) (by kernel_rfl) (by simp) ?_
          refine AllReadyH.cons (o := _) rfl (fun K hK => ?_) AllReadyH.nil
          go_simp
          refine (HSX _).mono ?_
          rintro e V5 ⟨rfl, hb5⟩
          have R7 := R7.of_block (hb5.block q7 R7.lt)
          go_wp2_with fail
          refine hK.out _ _ (hHeld.next hb5) (fun hHeld => ?_)
          clear hK K
          try simp only [Act.put]
          refine listH (l2 := #[true, true, true, true, true, true, true, false, false, true, false]) (by kernel_rfl) ?_
          refine takeH (i := 7) (oi := _) (v := (.bool ((x.dir == y.dir2) && (x.name.toList == y.name2.toList)))) 26 #[true, true, true, true, true, true, true, true, false, true, false] rfl (by kernel_rfl) (by kernel_rfl) (by kernel_rfl) rfl (by kernel_rfl) (fun _ _ _ h => h) (Or.inl ⟨by rfl, ?yk22⟩) (by assumption) ?rk22
          case yk22 => (intro w' hSw; obtain ⟨h3, ⟨c0, c1, c2, c3, c4, c5, c6⟩, g0, g1, _, _, _, _⟩ := hSw; go_simp; (by_cases h1 : x.dir = y.dir2) <;> (by_cases h2 : x.name.toList = y.name2.toList) <;> simp [h1, h2])
          simp only [Act.put, List.setIfInBounds_toArray, List.set_cons_succ, List.set_cons_zero]
          refine takeH (i := 8) (oi := _) (v := ?vk23) 27 #[true, true, true, true, true, true, true, true, true, true, false] rfl (by kernel_rfl) (by kernel_rfl) (by kernel_rfl) rfl (by kernel_rfl) (fun _ _ _ h => h) (Or.inl ⟨by rfl, ?yk23⟩) (by assumption) ?rk23
          case yk23 => (intro w' hSw; obtain ⟨h3, ⟨c0, c1, c2, c3, c4, c5, c6⟩, g0, g1, _, _, _, _⟩ := hSw; go_simp; try with_reducible rfl)
          simp only [Act.put, List.setIfInBounds_toArray, List.set_cons_succ, List.set_cons_zero]
          refine wpAnyH_ready (rs := [10]) (by kernel_rfl) (by simp) ?_
          refine AllReadyH.cons (o := _) rfl (fun K hK => ?_) AllReadyH.nil
          refine st_store4 _ 7 27 q7 ((x.dir == y.dir2) && (x.name.toList == y.name2.toList)) rfl rfl R7 ?_
          intro F hB7 g7
          have l7 : q7 < F.heap.size := by have := R7.lt; have := hB7.below.size; omega
          refine hK.out _ _ (hHeld.but hB7 n3 n5 n6 lo7) (fun hHeld => ?_)
          clear hK K
          refine listH (l2 := #[true, true, true, true, true, true, true, true, true, true, true]) (by kernel_rfl) ?_
          refine wpAnyH_done (by kernel_rfl) ?_ _
          go_wp2_with fail
          go_meet
          exact ⟨q7, rfl, hHeld, by rw [HBK.out]; exact g7, l7⟩
      · refine st_alloc4 _ 7 ?_
        intro q7 V7 hq7 hb7 R7
        have n3 : w.heap.size ≠ q7 := by have := hHeld.l3; omega
        have n5 : q5 ≠ q7 := by have := hHeld.l5; omega
        have n6 : q6 ≠ q7 := by have := hHeld.l6; omega
        have lo7 : w.heap.size ≤ q7 := by have := hHeld.l3; omega
        clear hq7
        refine hK.out _ _ (hHeld.next hb7) (fun hHeld => ?_)
        clear hK K
        simp only [Act.put, List.setIfInBounds_toArray, List.set_cons_succ, List.set_cons_zero]
        refine listH (l2 := #[true, true, false, false, false, false, false, false, false, true, false]) (by kernel_rfl) ?_
        refine wpAnyH_ready (rs := [2]) (by kernel_rfl) (by simp) ?_
        refine AllReadyH.cons (o := _) rfl (fun K hK => ?_) AllReadyH.nil
        go_simp
        refine (moves_b k4 _).mono ?_
        rintro e w1 ⟨rfl, rfl⟩
        go_wp2_with fail
        refine hK.out _ _ hHeld (fun hHeld => ?_)
        clear hK K
        try simp only [Act.put]
        refine listH (l2 := #[true, true, true, false, false, false, false, false, false, true, false]) (by kernel_rfl) ?_
        refine takeH (i := 3) (oi := _) (v := ?vk24) 22 #[true, true, true, true, false, false, false, false, false, true, false] rfl (by kernel_rfl) (by kernel_rfl) (by kernel_rfl) rfl (by kernel_rfl) (fun _ _ _ h => h) (Or.inl ⟨by rfl, ?yk24⟩) (by assumption) ?rk24
        case yk24 => (intro w' hSw; obtain ⟨h3, ⟨c0, c1, c2, c3, c4, c5, c6⟩, g0, g1, _, _, _, _⟩ := hSw; go_simp; try with_reducible rfl)
        simp only [Act.put, List.setIfInBounds_toArray, List.set_cons_succ, List.set_cons_zero]
        refine takeH (i := 4) (oi := _) (v := ?vk25) 23 #[true, true, true, true, true, false, false, false, false, true, false] rfl (by kernel_rfl) (by kernel_rfl) (by kernel_rfl) rfl (by kernel_rfl) (fun _ _ _ h => h) (Or.inl ⟨by rfl, ?yk25⟩) (by assumption) ?rk25
        case yk25 => (intro w' hSw; obtain ⟨h3, ⟨c0, c1, c2, c3, c4, c5, c6⟩, g0, g1, _, _, _, _⟩ := hSw; go_simp; try with_reducible rfl)
        simp only [Act.put, List.setIfInBounds_toArray, List.set_cons_succ, List.set_cons_zero]
        refine takeH (i := 6) (oi := _) (v := ?vk26) 25 #[true, true, true, true, true, false, true, false, false, true, false] rfl (by kernel_rfl) (by kernel_rfl) (by kernel_rfl) rfl (by kernel_rfl) (fun _ _ _ h => h) (Or.inl ⟨by rfl, ?yk26⟩) (by assumption) ?rk26
        case yk26 => (intro w' hSw; obtain ⟨h3, ⟨c0, c1, c2, c3, c4, c5, c6⟩, g0, g1, _, _, _, _⟩ := hSw; go_simp; try with_reducible rfl)
        simp only [Act.put, List.setIfInBounds_toArray, List.set_cons_succ, List.set_cons_zero]
        refine wpAnyH_ready (rs := [5]) (by kernel_rfl) (by simp) ?_
        refine AllReadyH.cons (o := _) rfl (fun K hK => ?_) AllReadyH.nil
        go_simp
        refine (HSX _).mono ?_
        rintro e V5 ⟨rfl, hb5⟩
        have R7 := R7.of_block (hb5.block q7 R7.lt)
        go_wp2_with fail
        refine hK.out _ _ (hHeld.next hb5) (fun hHeld => ?_)
        clear hK K
        try simp only [Act.put]
        refine listH (l2 := #[true, true, true, true, true, true, true, false, false, true, false]) (by kernel_rfl) ?_
        refine takeH (i := 7) (oi := _) (v := (.bool ((x.dir == y.dir2) && (x.name.toList == y.name2.toList)))) 26 #[true, true, true, true, true, true, true, true, false, true, false] rfl (by kernel_rfl) (by kernel_rfl) (by kernel_rfl) rfl (by kernel_rfl) (fun _ _ _ h => h) (Or.inl ⟨by rfl, ?yk27⟩) (by assumption) ?rk27
        case yk27 => (intro w' hSw; obtain ⟨h3, ⟨c0, c1, c2, c3, c4, c5, c6⟩, g0, g1, _, _, _, _⟩ := hSw; go_simp; (by_cases h1 : x.dir = y.dir2) <;> (by_cases h2 : x.name.toList = y.name2.toList) <;> simp [h1, h2])
        simp only [Act.put, List.setIfInBounds_toArray, List.set_cons_succ, List.set_cons_zero]
        refine takeH (i := 8) (oi := _) (v := ?vk28) 27 #[true, true, true, true, true, true, true, true, true, true, false] rfl (by kernel_rfl) (by kernel_rfl) (by kernel_rfl) rfl (by kernel_rfl) (fun _ _ _ h => h) (Or.inl ⟨by rfl, ?yk28⟩) (by assumption) ?rk28
        case yk28 => (intro w' hSw; obtain ⟨h3, ⟨c0, c1, c2, c3, c4, c5, c6⟩, g0, g1, _, _, _, _⟩ := hSw; go_simp; try with_reducible rfl)
        simp only [Act.put, List.setIfInBounds_toArray, List.set_cons_succ, List.set_cons_zero]
        refine wpAnyH_ready (rs := [10]) (by kernel_rfl) (by simp) ?_
        refine AllReadyH.cons (o := _) rfl (fun K hK => ?_) AllReadyH.nil
        refine st_store4 _ 7 27 q7 ((x.dir == y.dir2) && (x.name.toList == y.name2.toList)) rfl rfl R7 ?_
        intro F hB7 g7
        have l7 : q7 < F.heap.size := by have := R7.lt; have := hB7.below.size; omega
        refine hK.out _ _ (hHeld.but hB7 n3 n5 n6 lo7) (fun hHeld => ?_)
        clear hK K
        refine listH (l2 := #[true, true, true, true, true, true, true, true, true, true, true]) (by kernel_rfl) ?_
        refine wpAnyH_done (by kernel_rfl) ?_ _
        go_wp2_with fail
        go_meet
        exact ⟨q7, rfl, hHeld, by rw [HBK.out]; exact g7, l7⟩
  obtain ⟨q7, rfl, hJ, hc7, hl7⟩ := hcut
  obtain ⟨W3, rfl⟩ : ∃ W3, W3 = wc := ⟨_, rfl⟩
  clear hJT HSX
  have hl3 := hJ.l3
  have HLN : Hid (n = ops.length) := H.len
  have hHW := H.below hJ.bel hU
  have hkeep : keepTo (fun i => !goesJoin (backB x y) j1 i) ops n = ops.take j ++ (if backB x y then [] else [x]) ++ ops.drop (j + 2) := by
    rw [HLN.out, HJ1.out]; exact keepTo_join _ HX.out.1 (by have := HLN.out; omega)
  have HD := delete88 (some ⟨b, off, none⟩) n c ops L U ⟨w.heap.size, 0, none⟩ ⟨q7, 0, none⟩ (goesJoin (backB x y) j1) W3 hn (by have := hJ.bel.size; omega) hHW (fun i hi W hW => clos88 (backB x y) j1 i w.heap.size q7 W (by have := HJ1.out; omega) (by have := HJ1.out; omega) (by omega) (by rw [hW.cell (by simpa using hl3)]; exact hJ.at_) (by rw [hW.cell (by simpa using hl7)]; exact hc7))
  go_wp2_with fail
  refine HD.mono ?_
  clear HD
  rintro e w8 ⟨⟨v8, rfl, ho8⟩, hb8⟩
  rw [hkeep] at ho8
  clear hkeep
  have hJ8 := hJ.next hb8
  have hc8 : w8.cell? ⟨q7, 0, none⟩ = some (.bool (backB x y)) := by rw [hb8.cell (by simpa using hl7)]; exact hc7
  have hl5 := hJ.l5
  have hl6 := hJ.l6
  have hbel3 := hJ.bel.size
  rcases hbk : backB x y with _ | _
  · rw [hbk] at ho8 hc8
    have ho8' : OwnOps w8 W3.heap.size v8 (ops.take j ++ [x] ++ ops.drop (j + 2)) := ho8
    have HJL : Hid (joinL x y = [onB x y]) := by show _ = _; unfold joinL; rw [hbk]; rfl
    obtain ⟨g, cap, f8, hv8, hg8, hcap8, hcm8, hrow8, hff8⟩ := ho8'.rowOf (by simp; omega)
    have hlen8 : (ops.take j ++ [x] ++ ops.drop (j + 2)).length = n - 1 := by have := HLN.out; simp; omega
    rw [hlen8] at hv8 hcap8
    subst hv8
    have hjn1 : (j : Int) < ((n - 1 : Nat) : Int) := by omega
    have hfx : f8 (j * 7) = .int .i64 x.kind ∧ f8 (j * 7 + 1) = .int .i64 x.dir ∧ f8 (j * 7 + 2) = .string x.name ∧ f8 (j * 7 + 3) = .int .i64 x.dir2 ∧ f8 (j * 7 + 4) = .string x.name2 ∧ f8 (j * 7 + 5) = .int .i64 x.id ∧ f8 (j * 7 + 6) = .string x.text := by
      have h1 := hff8 j (by omega)
      have h2 : (ops.take j ++ [x] ++ ops.drop (j + 2))[j]'(by omega) = x := by
        have hl : (ops.take j).length = j := by have := HLN.out; simp; omega
        simp [hl]
      rw [h2] at h1
      exact h1
    have HFIN : Hid (∀ F : World, F.rowIs g 30 (cap * 7) (fun i => if i = j * 7 + 6 then .string (onB x y).text else if i = j * 7 + 5 then .int .i64 (onB x y).id else if i = j * 7 + 4 then .string (onB x y).name2 else if i = j * 7 + 3 then .int .i64 (onB x y).dir2 else if i = j * 7 + 2 then .string (onB x y).name else if i = j * 7 + 1 then .int .i64 (onB x y).dir else if i = j * 7 then .int .i64 (onB x y).kind else f8 i) → OwnOps F w.heap.size (.slice (some ⟨g, 0, none⟩) (n - 1) cap) (ops.take j ++ joinL x y ++ ops.drop (j + 2))) := by
      intro F hF
      rw [HJL.out]
      have hl : (ops.take j).length = j := by have := HLN.out; simp; omega
      have hlen9 : (ops.take j ++ [onB x y] ++ ops.drop (j + 2)).length = n - 1 := by have := HLN.out; simp; omega
      rw [← hlen9]
      refine OwnOps.ofRow (by omega) (by omega) hcm8 hF fun i hi => ?_
      by_cases e : i = j
      · subst e
        have h2 : (ops.take i ++ [onB x y] ++ ops.drop (i + 2))[i] = onB x y := by simp [hl]
        rw [h2]
        exact ⟨by simp, by simp, by simp, by simp, by simp, by simp, by simp⟩
      · have h2 : (ops.take j ++ [onB x y] ++ ops.drop (j + 2))[i] = (ops.take j ++ [x] ++ ops.drop (j + 2))[i]'(by omega) := by
          have h3 := get_other (A := ops.take j) (C := ops.drop (j + 2)) (u := onB x y) (v := x) (i := i) (by rw [hl]; exact e)
          rw [List.getElem?_eq_getElem hi, List.getElem?_eq_getElem (by omega)] at h3
          exact Option.some.inj h3
        obtain ⟨q0, q1, q2, q3, q4, q5, q6⟩ := hff8 i (by omega)
        rw [h2]
        refine ⟨?_, ?_, ?_, ?_, ?_, ?_, ?_⟩ <;> dsimp only <;> rw [if_neg (by omega), if_neg (by omega), if_neg (by omega), if_neg (by omega), if_neg (by omega), if_neg (by omega), if_neg (by omega)] <;> assumption
    have HWE := withEnd_any x y.dir2 y.name2
    have hon : (if x.kind = 4 then { x with dir2 := y.dir2, name2 := y.name2 } else { x with dir := y.dir2, name := y.name2 } : LOp) = onB x y := rfl
    rw [hon] at HWE
    simp only [LOp.val] at HWE
    clear ho8 ho8' hff8 hlen8 hon
    go_upto_region 5 with fail
    go_cut [] (fun wx => OwnOps wx w.heap.size (.slice (some ⟨g, 0, none⟩) (n - 1) cap) (ops.take j ++ joinL x y ++ ops.drop (j + 2)) ∧ Below w.heap.size w wx)
    case first =>
      refine wp_region_held_drew (S := (fun W => JT w w.heap.size q5 q6 j1 x y W)) (by kernel_rfl) ?_ (fun hHeld => ?_)
      · exact hJ8.next (Below.refl _ _).drew
      refine listH (l2 := #[false, false, false, false, false, false, false, false]) (by kernel_rfl) ?_
      refine takeH (i := 0) (oi := _) (v := ?vk29) 33 #[true, false, false, false, false, false, false, false] rfl (by kernel_rfl) (by kernel_rfl) (by kernel_rfl) rfl (by kernel_rfl) (fun _ _ _ h => h) (Or.inl ⟨by rfl, ?yk29⟩) (by assumption) ?rk29
      case yk29 => (intro w' hSw; obtain ⟨h3, ⟨c0, c1, c2, c3, c4, c5, c6⟩, g0, g1, _, _, _, _⟩ := hSw; go_simp; try with_reducible rfl)
      simp only [Act.put, List.setIfInBounds_toArray, List.set_cons_succ, List.set_cons_zero]
      refine takeH (i := 1) (oi := _) (v := ?vk30) 34 #[true, true, false, false, false, false, false, false] rfl (by kernel_rfl) (by kernel_rfl) (by kernel_rfl) rfl (by kernel_rfl) (fun _ _ _ h => h) (Or.inl ⟨by rfl, ?yk30⟩) (by assumption) ?rk30
      case yk30 => (intro w' hSw; obtain ⟨h3, ⟨c0, c1, c2, c3, c4, c5, c6⟩, g0, g1, _, _, _, _⟩ := hSw; go_simp; try with_reducible rfl)
      simp only [Act.put, List.setIfInBounds_toArray, List.set_cons_succ, List.set_cons_zero]
      refine takeH (i := 2) (oi := _) (v := (.int .i64 (j : Int))) 35 #[true, true, true, false, false, false, false, false] rfl (by kernel_rfl) (by kernel_rfl) (by kernel_rfl) rfl (by kernel_rfl) (fun _ _ _ h => h) (Or.inl ⟨by rfl, ?yk31⟩) (by assumption) ?rk31
      case yk31 => (intro w' hSw; obtain ⟨h3, ⟨c0, c1, c2, c3, c4, c5, c6⟩, g0, g1, _, _, _, _⟩ := hSw; go_simp; simp only [IntKind.wrap_i64]; have := HJ1.out; omega)
      simp only [Act.put, List.setIfInBounds_toArray, List.set_cons_succ, List.set_cons_zero]
      refine takeH (i := 3) (oi := _) (v := ?vk32) 36 #[true, true, true, true, false, false, false, false] rfl (by kernel_rfl) (by kernel_rfl) (by kernel_rfl) rfl (by kernel_rfl) (fun _ _ _ h => h) (Or.inl ⟨by rfl, ?yk32⟩) (by assumption) ?rk32
      case yk32 => (intro w' hSw; obtain ⟨h3, ⟨c0, c1, c2, c3, c4, c5, c6⟩, g0, g1, _, _, _, _⟩ := hSw; go_simp; try with_reducible rfl)
      simp only [Act.put, List.setIfInBounds_toArray, List.set_cons_succ, List.set_cons_zero]
      refine takeH (i := 4) (oi := _) (v := ?vk33) 37 #[true, true, true, true, true, false, false, false] rfl (by kernel_rfl) (by kernel_rfl) (by kernel_rfl) rfl (by kernel_rfl) (fun _ _ _ h => h) (Or.inl ⟨by rfl, ?yk33⟩) (by assumption) ?rk33
      case yk33 => (intro w' hSw; obtain ⟨h3, ⟨c0, c1, c2, c3, c4, c5, c6⟩, g0, g1, _, _, _, _⟩ := hSw; go_simp; try with_reducible rfl)
      simp only [Act.put, List.setIfInBounds_toArray, List.set_cons_succ, List.set_cons_zero]
      refine wpAnyH_ready (rs := [5]) (by kernel_rfl) (by simp) ?_
      refine AllReadyH.cons (o := _) rfl (fun K hK => ?_) AllReadyH.nil
      go_simp
      refine (HWE _).mono ?_
      rintro e V5 ⟨rfl, hb5⟩
      have hrow5 := hrow8.of_block (((Below.refl _ _).drew.trans (hb5.mono (by simp))).block g hrow8.lt)
      go_wp2_with fail
      refine hK.out _ _ (hHeld.next hb5) (fun hHeld => ?_)
      clear hK K
      try simp only [Act.put]
      refine listH (l2 := #[true, true, true, true, true, true, false, false]) (by kernel_rfl) ?_
      refine takeH (i := 6) (oi := _) (v := ?vk34) 39 #[true, true, true, true, true, true, true, false] rfl (by kernel_rfl) (by kernel_rfl) (by kernel_rfl) rfl (by kernel_rfl) (fun _ _ _ h => h) (Or.inl ⟨by rfl, ?yk34⟩) (by assumption) ?rk34
      case yk34 => (intro w' hSw; obtain ⟨h3, ⟨c0, c1, c2, c3, c4, c5, c6⟩, g0, g1, _, _, _, _⟩ := hSw; go_simp; try with_reducible rfl)
      simp only [Act.put, List.setIfInBounds_toArray, List.set_cons_succ, List.set_cons_zero]
      refine wpAnyH_ready (rs := [7]) (by kernel_rfl) (by simp) ?_
      refine AllReadyH.cons (o := _) rfl (fun K hK => ?_) AllReadyH.nil
      refine st_store30 _ 39 38 g (j * 7) (onB x y) (cap * 7) f8 rfl rfl hrow5 (by omega) ⟨x, hfx⟩ ?_
      intro F hBF hRF
      refine hK.out _ _ (hHeld.but hBF (by omega) (by omega) (by omega) (by omega)) (fun hHeld => ?_)
      clear hK K
      refine listH (l2 := #[true, true, true, true, true, true, true, true]) (by kernel_rfl) ?_
      refine wpAnyH_done (by kernel_rfl) ?_ _
      go_wp2_with fail
      go_meet
      exact ⟨HFIN.out _ hRF, hHeld.bel⟩
    obtain ⟨ho9, hb9⟩ := hcut
    go_wp2_with fail
    go_ret
    exact ⟨⟨_, rfl, ho9⟩, hb9⟩
  · rw [hbk] at ho8 hc8
    have HJL : Hid (joinL x y = []) := by show _ = _; unfold joinL; rw [hbk]; rfl
    have HO8 : Hid (OwnOps w8 w.heap.size v8 (ops.take j ++ joinL x y ++ ops.drop (j + 2))) := by rw [HJL.out]; exact ho8.base hbel3
    clear ho8
    go_wp2_with fail
    go_ret
    exact ⟨⟨_, rfl, HO8.out⟩, hJ8.bel⟩
end Go.Proofs.Ytkllejaamnojpaa
