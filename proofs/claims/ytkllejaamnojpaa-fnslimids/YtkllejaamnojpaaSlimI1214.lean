import Derived.Test.YtkllejaamnojpaaSlimI11

/- Lists that are made shorter: the program: two in one. -/
namespace Go.Proofs.Ytkllejaamnojpaa
open Go.RowKit

theorem But.sub {B b : Nat} {w0 w w' : World} (h : Below B w0 w) (hb : But b w w') (hB : B ≤ b) : Below B w0 w' := h.trans (hb.below.mono hB)
structure JS (w0 : World) (q3 b kx ky j1 : Nat) (x y : LOp) (W : World) : Prop where
  at_ : W.cell? ⟨q3, 0, none⟩ = some (.int .i64 (j1 : Nat))
  ox : OpAt W b kx x
  oy : OpAt W b ky y
  bel : Below w0.heap.size w0 W
  l3 : q3 < W.heap.size
  lb : b < W.heap.size
theorem JS.next {w0 W W' : World} {q3 b kx ky j1 : Nat} {x y : LOp} (h : JS w0 q3 b kx ky j1 x y W) (hb : Below W.heap.size W W') : JS w0 q3 b kx ky j1 x y W' :=
  ⟨by rw [hb.cell (by simpa using h.l3)]; exact h.at_, h.ox.of_block (hb.block b h.lb), h.oy.of_block (hb.block b h.lb), h.bel.trans (hb.mono h.bel.size), by have := hb.size; have := h.l3; omega, by have := hb.size; have := h.lb; omega⟩
theorem JS.but {w0 W W' : World} {q3 b kx ky j1 q : Nat} {x y : LOp} (h : JS w0 q3 b kx ky j1 x y W) (hb : But q W W') (h3 : q3 ≠ q) (hbq : b ≠ q) (hlo : w0.heap.size ≤ q) : JS w0 q3 b kx ky j1 x y W' :=
  ⟨by rw [hb.cell (by simpa using h3) (by simpa using h.l3)]; exact h.at_, h.ox.of_block (hb.block b hbq h.lb), h.oy.of_block (hb.block b hbq h.lb), But.sub h.bel hb hlo, by have := hb.below.size; have := h.l3; omega, by have := hb.below.size; have := h.lb; omega⟩
/-- The three boxes, filled. -/
structure JT (w0 : World) (q3 q5 q6 j1 : Nat) (x y : LOp) (W : World) : Prop where
  at_ : W.cell? ⟨q3, 0, none⟩ = some (.int .i64 (j1 : Nat))
  bx : BoxAt W q5 x
  e0 : W.cell? ⟨q6, 0, none⟩ = some (.int .i64 y.dir2)
  e1 : W.cell? ⟨q6, 1, none⟩ = some (.string y.name2)
  bel : Below w0.heap.size w0 W
  l3 : q3 < W.heap.size
  l5 : q5 < W.heap.size
  l6 : q6 < W.heap.size
theorem JT.next {w0 W W' : World} {q3 q5 q6 j1 : Nat} {x y : LOp} (h : JT w0 q3 q5 q6 j1 x y W) (hb : Below W.heap.size W W') : JT w0 q3 q5 q6 j1 x y W' :=
  ⟨by rw [hb.cell (by simpa using h.l3)]; exact h.at_, h.bx.of (hb.block q5 h.l5), by rw [hb.cell (by simpa using h.l6)]; exact h.e0, by rw [hb.cell (by simpa using h.l6)]; exact h.e1, h.bel.trans (hb.mono h.bel.size), by have := hb.size; have := h.l3; omega, by have := hb.size; have := h.l5; omega, by have := hb.size; have := h.l6; omega⟩
theorem JT.but {w0 W W' : World} {q3 q5 q6 j1 q : Nat} {x y : LOp} (h : JT w0 q3 q5 q6 j1 x y W) (hb : But q W W') (h3 : q3 ≠ q) (h5 : q5 ≠ q) (h6 : q6 ≠ q) (hlo : w0.heap.size ≤ q) : JT w0 q3 q5 q6 j1 x y W' :=
  ⟨by rw [hb.cell (by simpa using h3) (by simpa using h.l3)]; exact h.at_, h.bx.of (hb.block q5 h5 h.l5), by rw [hb.cell (by simpa using h6) (by simpa using h.l6)]; exact h.e0, by rw [hb.cell (by simpa using h6) (by simpa using h.l6)]; exact h.e1, But.sub h.bel hb hlo, by have := hb.below.size; have := h.l3; omega, by have := hb.below.size; have := h.l5; omega, by have := hb.below.size; have := h.l6; omega⟩
def xrow (x : LOp) (i : Nat) : Value := if i = 0 + 6 then .string x.text else if i = 0 + 5 then .int .i64 x.id else if i = 0 + 4 then .string x.name2 else if i = 0 + 3 then .int .i64 x.dir2 else if i = 0 + 2 then .string x.name else if i = 0 + 1 then .int .i64 x.dir else if i = 0 then .int .i64 x.kind else zrow #[.int .i64 0, .int .i64 0, .string ⟨#[]⟩, .int .i64 0, .string ⟨#[]⟩, .int .i64 0, .string ⟨#[]⟩] i
theorem boxOf {W : World} {q : Nat} {x : LOp} (h : W.rowIs q 30 7 (xrow x)) : BoxAt W q x :=
  ⟨by rw [h.cell (by omega)]; rfl, by rw [h.cell (by omega)]; rfl, by rw [h.cell (by omega)]; rfl, by rw [h.cell (by omega)]; rfl, by rw [h.cell (by omega)]; rfl, by rw [h.cell (by omega)]; rfl, by rw [h.cell (by omega)]; rfl⟩
theorem get_other {A C : List LOp} {u v : LOp} {i : Nat} (h : ¬ i = A.length) : (A ++ [u] ++ C)[i]? = (A ++ [v] ++ C)[i]? := by
  rw [List.append_assoc, List.append_assoc]
  by_cases hi : i < A.length
  · rw [List.getElem?_append_left hi, List.getElem?_append_left hi]
  · have e1 : ∀ t : LOp, (A ++ ([t] ++ C))[i]? = C[i - A.length - 1]? := fun t => by
      rw [List.getElem?_append_right (by omega)]
      obtain ⟨k, hk⟩ : ∃ k, i - A.length = k + 1 := ⟨i - A.length - 1, by omega⟩
      rw [hk]; rfl
    rw [e1, e1]
theorem endV4 {y : LOp} (h : y.kind = 4) : endV y = .agg #[.int .i64 y.dir2, .string y.name2] := by
  unfold endV; rw [show (y.kind == 4) = true from by simp [h]]; rfl

set_option maxHeartbeats 8000000 in
set_option maxRecDepth 20000 in
theorem joinAt_any (a : Option Addr) (n c : Nat) (ops : List LOp) (L U j j1 : Nat) (x y : LOp) (w : World) (hj1 : j1 = j + 1) (hn : n ≤ 1000) (hU : U ≤ w.heap.size) (H : OpsAt w L U a n ops) (hlt : j + 1 < n) (hx : ops[j]? = some x) (hy : ops[j + 1]? = some y) (hjn : joinsB x y = true) :
    Calls Try.prog 122 #[.slice a n c, .int .i64 (j1 : Nat)] w (SlimEnd w (ops.take j ++ joinL x y ++ ops.drop (j + 2))) := by
  have HJ1 : Hid (j1 = j + 1) := hj1
  have y4 : y.kind = 4 := by unfold joinsB at hjn; simp at hjn; exact hjn.1.1
  have HEY := endOf_any y
  rw [endV4 y4] at HEY
  simp only [LOp.val] at HEY
  obtain ⟨b, off, ha, hL, hbU, hc⟩ := H.at_ (by omega)
  subst ha
  obtain ⟨x', ex, hsx, hatx⟩ := hc j (by omega)
  rw [hx] at ex
  cases ex
  obtain ⟨y', ey, hsy, haty⟩ := hc (j + 1) (by omega)
  rw [hy] at ey
  cases ey
  rw [← hj1] at haty
  have hB : Below w.heap.size w (w.alloc (.cells #[.int .i64 (j1 : Nat)] 3)) := (Below.refl _ _).alloc (Nat.le_refl _) _
  have hJS : JS w w.heap.size b (off + j * 7) (off + j1 * 7) j1 x y (w.alloc (.cells #[.int .i64 (j1 : Nat)] 3)).drew := ⟨by simp [go_sem], (hatx.of_block (hB.block b (by omega))).of_block rfl, (haty.of_block (hB.block b (by omega))).of_block rfl, hB.drew, by simp, by simp; omega⟩
  have hltj : (j : Int) < (n : Int) := by omega
  have hlt1 : (j1 : Int) < (n : Int) := by omega
  have HX : Hid (ops[j]? = some x ∧ ops[j + 1]? = some y ∧ joinsB x y = true ∧ y.kind = 4) := ⟨hx, hy, hjn, y4⟩
  clear hc hatx haty hx hy hjn y4 hj1
  go_enter Try.func122, Try.ntmps122
  go_upto_region 1 with fail
  go_cut [5, 6] (fun s5 s6 wx => ∃ q5 q6, s5 = .pointer (some ⟨q5, 0, none⟩) ∧ s6 = .pointer (some ⟨q6, 0, none⟩) ∧ JT w w.heap.size q5 q6 j1 x y wx)
  case first =>
    refine wp_region_held_drew (S := (fun W => JS w w.heap.size b (off + j * 7) (off + j1 * 7) j1 x y W)) (by kernel_rfl) ?_ (fun hHeld => ?_)
    · exact hJS
    refine listH (l2 := #[false, false, false, false, false, false, false, false, false, false, false, false, false, false]) (by kernel_rfl) ?_
    refine takeH (i := 0) (oi := _) (v := ?vp0) 9 #[true, false, false, false, false, false, false, false, false, false, false, false, false, false] rfl (by kernel_rfl) (by kernel_rfl) (by kernel_rfl) rfl (by kernel_rfl) (fun _ _ _ h => h) (Or.inl ⟨by rfl, ?yp0⟩) (by assumption) ?rp0
    case yp0 => (intro w' hSw; obtain ⟨h3, ⟨c0, c1, c2, c3, c4, c5, c6⟩, ⟨d0, d1, d2, d3, d4, d5, d6⟩, _, _, _⟩ := hSw; go_simp; try with_reducible rfl)
    simp only [Act.put, List.setIfInBounds_toArray, List.set_cons_succ, List.set_cons_zero]
    refine takeH (i := 1) (oi := _) (v := ?vp1) 10 #[true, true, false, false, false, false, false, false, false, false, false, false, false, false] rfl (by kernel_rfl) (by kernel_rfl) (by kernel_rfl) rfl (by kernel_rfl) (fun _ _ _ h => h) (Or.inl ⟨by rfl, ?yp1⟩) (by assumption) ?rp1
    case yp1 => (intro w' hSw; obtain ⟨h3, ⟨c0, c1, c2, c3, c4, c5, c6⟩, ⟨d0, d1, d2, d3, d4, d5, d6⟩, _, _, _⟩ := hSw; go_simp; try with_reducible rfl)
    simp only [Act.put, List.setIfInBounds_toArray, List.set_cons_succ, List.set_cons_zero]
    refine takeH (i := 2) (oi := _) (v := (.int .i64 (j : Int))) 11 #[true, true, true, false, false, false, false, false, false, false, false, false, false, false] rfl (by kernel_rfl) (by kernel_rfl) (by kernel_rfl) rfl (by kernel_rfl) (fun _ _ _ h => h) (Or.inl ⟨by rfl, ?yp2⟩) (by assumption) ?rp2
    case yp2 => (intro w' hSw; obtain ⟨h3, ⟨c0, c1, c2, c3, c4, c5, c6⟩, ⟨d0, d1, d2, d3, d4, d5, d6⟩, _, _, _⟩ := hSw; go_simp; simp only [IntKind.wrap_i64]; have := HJ1.out; omega)
    simp only [Act.put, List.setIfInBounds_toArray, List.set_cons_succ, List.set_cons_zero]
    refine takeH (i := 3) (oi := _) (v := ?vp3) 12 #[true, true, true, true, false, false, false, false, false, false, false, false, false, false] rfl (by kernel_rfl) (by kernel_rfl) (by kernel_rfl) rfl (by kernel_rfl) (fun _ _ _ h => h) (Or.inl ⟨by rfl, ?yp3⟩) (by assumption) ?rp3
    case yp3 => (intro w' hSw; obtain ⟨h3, ⟨c0, c1, c2, c3, c4, c5, c6⟩, ⟨d0, d1, d2, d3, d4, d5, d6⟩, _, _, _⟩ := hSw; go_simp; try with_reducible rfl)
    simp only [Act.put, List.setIfInBounds_toArray, List.set_cons_succ, List.set_cons_zero]
    refine takeH (i := 4) (oi := _) (v := ?vp4) 13 #[true, true, true, true, true, false, false, false, false, false, false, false, false, false] rfl (by kernel_rfl) (by kernel_rfl) (by kernel_rfl) rfl (by kernel_rfl) (fun _ _ _ h => h) (Or.inl ⟨by rfl, ?yp4⟩) (by assumption) ?rp4
    case yp4 => (intro w' hSw; obtain ⟨h3, ⟨c0, c1, c2, c3, c4, c5, c6⟩, ⟨d0, d1, d2, d3, d4, d5, d6⟩, _, _, _⟩ := hSw; go_simp; try with_reducible rfl)
    simp only [Act.put, List.setIfInBounds_toArray, List.set_cons_succ, List.set_cons_zero]
    refine takeH (i := 5) (oi := _) (v := ?vp5) 14 #[true, true, true, true, true, true, false, false, false, false, false, false, false, false] rfl (by kernel_rfl) (by kernel_rfl) (by kernel_rfl) rfl (by kernel_rfl) (fun _ _ _ h => h) (Or.inl ⟨by rfl, ?yp5⟩) (by assumption) ?rp5
    case yp5 => (intro w' hSw; obtain ⟨h3, ⟨c0, c1, c2, c3, c4, c5, c6⟩, ⟨d0, d1, d2, d3, d4, d5, d6⟩, _, _, _⟩ := hSw; go_simp; try with_reducible rfl)
    simp only [Act.put, List.setIfInBounds_toArray, List.set_cons_succ, List.set_cons_zero]
    refine takeH (i := 6) (oi := _) (v := ?vp6) 15 #[true, true, true, true, true, true, true, false, false, false, false, false, false, false] rfl (by kernel_rfl) (by kernel_rfl) (by kernel_rfl) rfl (by kernel_rfl) (fun _ _ _ h => h) (Or.inl ⟨by rfl, ?yp6⟩) (by assumption) ?rp6
    case yp6 => (intro w' hSw; obtain ⟨h3, ⟨c0, c1, c2, c3, c4, c5, c6⟩, ⟨d0, d1, d2, d3, d4, d5, d6⟩, _, _, _⟩ := hSw; go_simp; try with_reducible rfl)
    simp only [Act.put, List.setIfInBounds_toArray, List.set_cons_succ, List.set_cons_zero]
    refine takeH (i := 7) (oi := _) (v := ?vp7) 16 #[true, true, true, true, true, true, true, true, false, false, false, false, false, false] rfl (by kernel_rfl) (by kernel_rfl) (by kernel_rfl) rfl (by kernel_rfl) (fun _ _ _ h => h) (Or.inl ⟨by rfl, ?yp7⟩) (by assumption) ?rp7
    case yp7 => (intro w' hSw; obtain ⟨h3, ⟨c0, c1, c2, c3, c4, c5, c6⟩, ⟨d0, d1, d2, d3, d4, d5, d6⟩, _, _, _⟩ := hSw; go_simp; try with_reducible rfl)
    simp only [Act.put, List.setIfInBounds_toArray, List.set_cons_succ, List.set_cons_zero]
    refine takeH (i := 8) (oi := _) (v := ?vp8) 17 #[true, true, true, true, true, true, true, true, true, false, false, false, false, false] rfl (by kernel_rfl) (by kernel_rfl) (by kernel_rfl) rfl (by kernel_rfl) (fun _ _ _ h => h) (Or.inl ⟨by rfl, ?yp8⟩) (by assumption) ?rp8
    case yp8 => (intro w' hSw; obtain ⟨h3, ⟨c0, c1, c2, c3, c4, c5, c6⟩, ⟨d0, d1, d2, d3, d4, d5, d6⟩, _, _, _⟩ := hSw; go_simp; try with_reducible rfl)
    simp only [Act.put, List.setIfInBounds_toArray, List.set_cons_succ, List.set_cons_zero]
    refine wpAnyH_ready (rs := [9, 10, 11]) (by kernel_rfl) (by simp) ?_
    refine AllReadyH.cons (o := _) rfl (fun K hK => ?_) (AllReadyH.cons (o := _) rfl (fun K hK => ?_) (AllReadyH.cons (o := _) rfl (fun K hK => ?_) AllReadyH.nil))
    · go_simp
      refine (HEY _).mono ?_
      rintro e V9 ⟨rfl, hb9⟩
      go_wp2_with fail
      refine hK.out _ _ (hHeld.next hb9) (fun hHeld => ?_)
      clear hK K
      try simp only [Act.put]
      refine listH (l2 := #[true, true, true, true, true, true, true, true, true, true, false, false, false, false]) (by kernel_rfl) ?_
      refine wpAnyH_ready (rs := [10, 11]) (by kernel_rfl) (by simp) ?_
      refine AllReadyH.cons (o := _) rfl (fun K hK => ?_) (AllReadyH.cons (o := _) rfl (fun K hK => ?_) AllReadyH.nil)
      · refine st_alloc30 _ 5 ?_
        intro q5 V10 hq5 hb10 R5
        have n35 : w.heap.size ≠ q5 := by have := hHeld.l3; omega
        have nb5 : b ≠ q5 := by have := hHeld.lb; omega
        have lo5 : w.heap.size ≤ q5 := by have := hHeld.l3; omega
        clear hq5
        refine hK.out _ _ (hHeld.next hb10) (fun hHeld => ?_)
        clear hK K
        simp only [Act.put, List.setIfInBounds_toArray, List.set_cons_succ, List.set_cons_zero]
        refine listH (l2 := #[true, true, true, true, true, true, true, true, true, true, true, false, false, false]) (by kernel_rfl) ?_
        refine wpAnyH_ready (rs := [11]) (by kernel_rfl) (by simp) ?_
        refine AllReadyH.cons (o := _) rfl (fun K hK => ?_) AllReadyH.nil
        · refine st_alloc89 _ 6 ?_
          intro q6 V11 hq6 hb11 R6
          have n36 : w.heap.size ≠ q6 := by have := hHeld.l3; omega
          have nb6 : b ≠ q6 := by have := hHeld.lb; omega
          have lo6 : w.heap.size ≤ q6 := by have := hHeld.l3; omega
          have n56 : q5 ≠ q6 := by have := R5.lt; omega
          clear hq6
          refine hK.out _ _ (hHeld.next hb11) (fun hHeld => ?_)
          clear hK K
          simp only [Act.put, List.setIfInBounds_toArray, List.set_cons_succ, List.set_cons_zero]
          refine listH (l2 := #[true, true, true, true, true, true, true, true, true, true, true, true, false, false]) (by kernel_rfl) ?_
          have R5 := R5.of_block (hb11.block q5 R5.lt)
          refine wpAnyH_ready (rs := [12]) (by kernel_rfl) (by simp) ?_
          refine AllReadyH.cons (o := _) rfl (fun K hK => ?_) AllReadyH.nil
          refine st_store30 _ 5 13 q5 0 x 7 _ rfl rfl R5 (by omega) ⟨⟨0, 0, ⟨#[]⟩, 0, ⟨#[]⟩, 0, ⟨#[]⟩⟩, rfl, rfl, rfl, rfl, rfl, rfl, rfl⟩ ?_
          intro F1 hB1 hR1
          have hR1 : F1.rowIs q5 30 7 (xrow x) := hR1
          refine hK.out _ _ (hHeld.but hB1 n35 nb5 lo5) (fun hHeld => ?_)
          clear hK K
          refine listH (l2 := #[true, true, true, true, true, true, true, true, true, true, true, true, true, false]) (by kernel_rfl) ?_
          have R6 := R6.of_block (hB1.block q6 (fun e => n56 e.symm) R6.lt)
          refine wpAnyH_ready (rs := [13]) (by kernel_rfl) (by simp) ?_
          refine AllReadyH.cons (o := _) rfl (fun K hK => ?_) AllReadyH.nil
          refine st_store89 _ 6 18 q6 y.dir2 y.name2 rfl rfl R6 ?_
          intro F2 hB2 g0 g1
          have hR2 := hR1.of_block (hB2.block q5 n56 hR1.lt)
          have R6l : q6 < F2.heap.size := by have := R6.lt; have := hB2.below.size; omega
          refine hK.out _ _ (hHeld.but hB2 n36 nb6 lo6) (fun hHeld => ?_)
          clear hK K
          refine listH (l2 := #[true, true, true, true, true, true, true, true, true, true, true, true, true, true]) (by kernel_rfl) ?_
          refine wpAnyH_done (by kernel_rfl) ?_ _
          go_wp2_with fail
          go_meet
          exact ⟨q5, q6, rfl, rfl, hHeld.at_, boxOf hR2, g0, g1, hHeld.bel, hHeld.l3, hR2.lt, R6l⟩
      · refine st_alloc89 _ 6 ?_
        intro q6 V11 hq6 hb11 R6
        have n36 : w.heap.size ≠ q6 := by have := hHeld.l3; omega
        have nb6 : b ≠ q6 := by have := hHeld.lb; omega
        have lo6 : w.heap.size ≤ q6 := by have := hHeld.l3; omega
        clear hq6
        refine hK.out _ _ (hHeld.next hb11) (fun hHeld => ?_)
        clear hK K
        simp only [Act.put, List.setIfInBounds_toArray, List.set_cons_succ, List.set_cons_zero]
        refine listH (l2 := #[true, true, true, true, true, true, true, true, true, true, false, true, false, false]) (by kernel_rfl) ?_
        refine wpAnyH_ready (rs := [10]) (by kernel_rfl) (by simp) ?_
        refine AllReadyH.cons (o := _) rfl (fun K hK => ?_) AllReadyH.nil
        · refine st_alloc30 _ 5 ?_
          intro q5 V10 hq5 hb10 R5
          have n35 : w.heap.size ≠ q5 := by have := hHeld.l3; omega
          have nb5 : b ≠ q5 := by have := hHeld.lb; omega
          have lo5 : w.heap.size ≤ q5 := by have := hHeld.l3; omega
          have n56 : q5 ≠ q6 := by have := R6.lt; omega
          clear hq5
          refine hK.out _ _ (hHeld.next hb10) (fun hHeld => ?_)
          clear hK K
          simp only [Act.put, List.setIfInBounds_toArray, List.set_cons_succ, List.set_cons_zero]
          refine listH (l2 := #[true, true, true, true, true, true, true, true, true, true, true, true, false, false]) (by kernel_rfl) ?_
          have R6 := R6.of_block (hb10.block q6 R6.lt)
          refine wpAnyH_ready (rs := [12]) (by kernel_rfl) (by simp) ?_
          refine AllReadyH.cons (o := _) rfl (fun K hK => ?_) AllReadyH.nil
          refine st_store30 _ 5 13 q5 0 x 7 _ rfl rfl R5 (by omega) ⟨⟨0, 0, ⟨#[]⟩, 0, ⟨#[]⟩, 0, ⟨#[]⟩⟩, rfl, rfl, rfl, rfl, rfl, rfl, rfl⟩ ?_
          intro F1 hB1 hR1
          have hR1 : F1.rowIs q5 30 7 (xrow x) := hR1
          refine hK.out _ _ (hHeld.but hB1 n35 nb5 lo5) (fun hHeld => ?_)
          clear hK K
          refine listH (l2 := #[true, true, true, true, true, true, true, true, true, true, true, true, true, false]) (by kernel_rfl) ?_
          have R6 := R6.of_block (hB1.block q6 (fun e => n56 e.symm) R6.lt)
          refine wpAnyH_ready (rs := [13]) (by kernel_rfl) (by simp) ?_
          refine AllReadyH.cons (o := _) rfl (fun K hK => ?_) AllReadyH.nil
          refine st_store89 _ 6 18 q6 y.dir2 y.name2 rfl rfl R6 ?_
          intro F2 hB2 g0 g1
          have hR2 := hR1.of_block (hB2.block q5 n56 hR1.lt)
          have R6l : q6 < F2.heap.size := by have := R6.lt; have := hB2.below.size; omega
          refine hK.out _ _ (hHeld.but hB2 n36 nb6 lo6) (fun hHeld => ?_)
          clear hK K
          refine listH (l2 := #[true, true, true, true, true, true, true, true, true, true, true, true, true, true]) (by kernel_rfl) ?_
          refine wpAnyH_done (by kernel_rfl) ?_ _
          go_wp2_with fail
          go_meet
          exact ⟨q5, q6, rfl, rfl, hHeld.at_, boxOf hR2, g0, g1, hHeld.bel, hHeld.l3, hR2.lt, R6l⟩
    · refine st_alloc30 _ 5 ?_
      intro q5 V10 hq5 hb10 R5
      have n35 : w.heap.size ≠ q5 := by have := hHeld.l3; omega
      have nb5 : b ≠ q5 := by have := hHeld.lb; omega
      have lo5 : w.heap.size ≤ q5 := by have := hHeld.l3; omega
      clear hq5
      refine hK.out _ _ (hHeld.next hb10) (fun hHeld => ?_)
      clear hK K
      simp only [Act.put, List.setIfInBounds_toArray, List.set_cons_succ, List.set_cons_zero]
      refine listH (l2 := #[true, true, true, true, true, true, true, true, true, false, true, false, false, false]) (by kernel_rfl) ?_
      refine wpAnyH_ready (rs := [9, 11]) (by kernel_rfl) (by simp) ?_
      refine AllReadyH.cons (o := _) rfl (fun K hK => ?_) (AllReadyH.cons (o := _) rfl (fun K hK => ?_) AllReadyH.nil)
      · go_simp
        refine (HEY _).mono ?_
        rintro e V9 ⟨rfl, hb9⟩
        go_wp2_with fail
        refine hK.out _ _ (hHeld.next hb9) (fun hHeld => ?_)
        clear hK K
        try simp only [Act.put]
        refine listH (l2 := #[true, true, true, true, true, true, true, true, true, true, true, false, false, false]) (by kernel_rfl) ?_
        have R5 := R5.of_block (hb9.block q5 R5.lt)
        refine wpAnyH_ready (rs := [11]) (by kernel_rfl) (by simp) ?_
        refine AllReadyH.cons (o := _) rfl (fun K hK => ?_) AllReadyH.nil
        · refine st_alloc89 _ 6 ?_
          intro q6 V11 hq6 hb11 R6
          have n36 : w.heap.size ≠ q6 := by have := hHeld.l3; omega
          have nb6 : b ≠ q6 := by have := hHeld.lb; omega
          have lo6 : w.heap.size ≤ q6 := by have := hHeld.l3; omega
          have n56 : q5 ≠ q6 := by have := R5.lt; omega
          clear hq6
          refine hK.out _ _ (hHeld.next hb11) (fun hHeld => ?_)
          clear hK K
          simp only [Act.put, List.setIfInBounds_toArray, List.set_cons_succ, List.set_cons_zero]
          refine listH (l2 := #[true, true, true, true, true, true, true, true, true, true, true, true, false, false]) (by kernel_rfl) ?_
          have R5 := R5.of_block (hb11.block q5 R5.lt)
          refine wpAnyH_ready (rs := [12]) (by kernel_rfl) (by simp) ?_
          refine AllReadyH.cons (o := _) rfl (fun K hK => ?_) AllReadyH.nil
          refine st_store30 _ 5 13 q5 0 x 7 _ rfl rfl R5 (by omega) ⟨⟨0, 0, ⟨#[]⟩, 0, ⟨#[]⟩, 0, ⟨#[]⟩⟩, rfl, rfl, rfl, rfl, rfl, rfl, rfl⟩ ?_
          intro F1 hB1 hR1
          have hR1 : F1.rowIs q5 30 7 (xrow x) := hR1
          refine hK.out _ _ (hHeld.but hB1 n35 nb5 lo5) (fun hHeld => ?_)
          clear hK K
          refine listH (l2 := #[true, true, true, true, true, true, true, true, true, true, true, true, true, false]) (by kernel_rfl) ?_
          have R6 := R6.of_block (hB1.block q6 (fun e => n56 e.symm) R6.lt)
          refine wpAnyH_ready (rs := [13]) (by kernel_rfl) (by simp) ?_
          refine AllReadyH.cons (o := _) rfl (fun K hK => ?_) AllReadyH.nil
          refine st_store89 _ 6 18 q6 y.dir2 y.name2 rfl rfl R6 ?_
          intro F2 hB2 g0 g1
          have hR2 := hR1.of_block (hB2.block q5 n56 hR1.lt)
          have R6l : q6 < F2.heap.size := by have := R6.lt; have := hB2.below.size; omega
          refine hK.out _ _ (hHeld.but hB2 n36 nb6 lo6) (fun hHeld => ?_)
          clear hK K
          refine listH (l2 := #[true, true, true, true, true, true, true, true, true, true, true, true, true, true]) (by kernel_rfl) ?_
          refine wpAnyH_done (by kernel_rfl) ?_ _
          go_wp2_with fail
          go_meet
          exact ⟨q5, q6, rfl, rfl, hHeld.at_, boxOf hR2, g0, g1, hHeld.bel, hHeld.l3, hR2.lt, R6l⟩
      · refine st_alloc89 _ 6 ?_
        intro q6 V11 hq6 hb11 R6
        have n36 : w.heap.size ≠ q6 := by have := hHeld.l3; omega
        have nb6 : b ≠ q6 := by have := hHeld.lb; omega
        have lo6 : w.heap.size ≤ q6 := by have := hHeld.l3; omega
        have n56 : q5 ≠ q6 := by have := R5.lt; omega
        clear hq6
        refine hK.out _ _ (hHeld.next hb11) (fun hHeld => ?_)
        clear hK K
        simp only [Act.put, List.setIfInBounds_toArray, List.set_cons_succ, List.set_cons_zero]
        refine listH (l2 := #[true, true, true, true, true, true, true, true, true, false, true, true, false, false]) (by kernel_rfl) ?_
        have R5 := R5.of_block (hb11.block q5 R5.lt)
        refine wpAnyH_ready (rs := [9]) (by kernel_rfl) (by simp) ?_
        refine AllReadyH.cons (o := _) rfl (fun K hK => ?_) AllReadyH.nil
        · go_simp
          refine (HEY _).mono ?_
          rintro e V9 ⟨rfl, hb9⟩
          go_wp2_with fail
          refine hK.out _ _ (hHeld.next hb9) (fun hHeld => ?_)
          clear hK K
          try simp only [Act.put]
          refine listH (l2 := #[true, true, true, true, true, true, true, true, true, true, true, true, false, false]) (by kernel_rfl) ?_
          have R5 := R5.of_block (hb9.block q5 R5.lt)
          have R6 := R6.of_block (hb9.block q6 R6.lt)
          refine wpAnyH_ready (rs := [12]) (by kernel_rfl) (by simp) ?_
          refine AllReadyH.cons (o := _) rfl (fun K hK => ?_) AllReadyH.nil
          refine st_store30 _ 5 13 q5 0 x 7 _ rfl rfl R5 (by omega) ⟨⟨0, 0, ⟨#[]⟩, 0, ⟨#[]⟩, 0, ⟨#[]⟩⟩, rfl, rfl, rfl, rfl, rfl, rfl, rfl⟩ ?_
          intro F1 hB1 hR1
          have hR1 : F1.rowIs q5 30 7 (xrow x) := hR1
          refine hK.out _ _ (hHeld.but hB1 n35 nb5 lo5) (fun hHeld => ?_)
          clear hK K
          refine listH (l2 := #[true, true, true, true, true, true, true, true, true, true, true, true, true, false]) (by kernel_rfl) ?_
          have R6 := R6.of_block (hB1.block q6 (fun e => n56 e.symm) R6.lt)
          refine wpAnyH_ready (rs := [13]) (by kernel_rfl) (by simp) ?_
          refine AllReadyH.cons (o := _) rfl (fun K hK => ?_) AllReadyH.nil
          refine st_store89 _ 6 18 q6 y.dir2 y.name2 rfl rfl R6 ?_
          intro F2 hB2 g0 g1
          have hR2 := hR1.of_block (hB2.block q5 n56 hR1.lt)
          have R6l : q6 < F2.heap.size := by have := R6.lt; have := hB2.below.size; omega
          refine hK.out _ _ (hHeld.but hB2 n36 nb6 lo6) (fun hHeld => ?_)
          clear hK K
          refine listH (l2 := #[true, true, true, true, true, true, true, true, true, true, true, true, true, true]) (by kernel_rfl) ?_
          refine wpAnyH_done (by kernel_rfl) ?_ _
          go_wp2_with fail
          go_meet
          exact ⟨q5, q6, rfl, rfl, hHeld.at_, boxOf hR2, g0, g1, hHeld.bel, hHeld.l3, hR2.lt, R6l⟩
    · refine st_alloc89 _ 6 ?_
      intro q6 V11 hq6 hb11 R6
      have n36 : w.heap.size ≠ q6 := by have := hHeld.l3; omega
      have nb6 : b ≠ q6 := by have := hHeld.lb; omega
      have lo6 : w.heap.size ≤ q6 := by have := hHeld.l3; omega
      clear hq6
      refine hK.out _ _ (hHeld.next hb11) (fun hHeld => ?_)
      clear hK K
      simp only [Act.put, List.setIfInBounds_toArray, List.set_cons_succ, List.set_cons_zero]
      refine listH (l2 := #[true, true, true, true, true, true, true, true, true, false, false, true, false, false]) (by kernel_rfl) ?_
      refine wpAnyH_ready (rs := [9, 10]) (by kernel_rfl) (by simp) ?_
      refine AllReadyH.cons (o := _) rfl (fun K hK => ?_) (AllReadyH.cons (o := _) rfl (fun K hK => ?_) AllReadyH.nil)
      · go_simp
        refine (HEY _).mono ?_
        rintro e V9 ⟨rfl, hb9⟩
        go_wp2_with fail
        refine hK.out _ _ (hHeld.next hb9) (fun hHeld => ?_)
        clear hK K
        try simp only [Act.put]
        refine listH (l2 := #[true, true, true, true, true, true, true, true, true, true, false, true, false, false]) (by kernel_rfl) ?_
        have R6 := R6.of_block (hb9.block q6 R6.lt)
        refine wpAnyH_ready (rs := [10]) (by kernel_rfl) (by simp) ?_
        refine AllReadyH.cons (o := _) rfl (fun K hK => ?_) AllReadyH.nil
        · refine st_alloc30 _ 5 ?_
          intro q5 V10 hq5 hb10 R5
          have n35 : w.heap.size ≠ q5 := by have := hHeld.l3; omega
          have nb5 : b ≠ q5 := by have := hHeld.lb; omega
          have lo5 : w.heap.size ≤ q5 := by have := hHeld.l3; omega
          have n56 : q5 ≠ q6 := by have := R6.lt; omega
          clear hq5
          refine hK.out _ _ (hHeld.next hb10) (fun hHeld => ?_)
          clear hK K
          simp only [Act.put, List.setIfInBounds_toArray, List.set_cons_succ, List.set_cons_zero]
          refine listH (l2 := #[true, true, true, true, true, true, true, true, true, true, true, true, false, false]) (by kernel_rfl) ?_
          have R6 := R6.of_block (hb10.block q6 R6.lt)
          refine wpAnyH_ready (rs := [12]) (by kernel_rfl) (by simp) ?_
          refine AllReadyH.cons (o := _) rfl (fun K hK => ?_) AllReadyH.nil
          refine st_store30 _ 5 13 q5 0 x 7 _ rfl rfl R5 (by omega) ⟨⟨0, 0, ⟨#[]⟩, 0, ⟨#[]⟩, 0, ⟨#[]⟩⟩, rfl, rfl, rfl, rfl, rfl, rfl, rfl⟩ ?_
          intro F1 hB1 hR1
          have hR1 : F1.rowIs q5 30 7 (xrow x) := hR1
          refine hK.out _ _ (hHeld.but hB1 n35 nb5 lo5) (fun hHeld => ?_)
          clear hK K
          refine listH (l2 := #[true, true, true, true, true, true, true, true, true, true, true, true, true, false]) (by kernel_rfl) ?_
          have R6 := R6.of_block (hB1.block q6 (fun e => n56 e.symm) R6.lt)
          refine wpAnyH_ready (rs := [13]) (by kernel_rfl) (by simp) ?_
          refine AllReadyH.cons (o := _) rfl (fun K hK => ?_) AllReadyH.nil
          refine st_store89 _ 6 18 q6 y.dir2 y.name2 rfl rfl R6 ?_
          intro F2 hB2 g0 g1
          have hR2 := hR1.of_block (hB2.block q5 n56 hR1.lt)
          have R6l : q6 < F2.heap.size := by have := R6.lt; have := hB2.below.size; omega
          refine hK.out _ _ (hHeld.but hB2 n36 nb6 lo6) (fun hHeld => ?_)
          clear hK K
          refine listH (l2 := #[true, true, true, true, true, true, true, true, true, true, true, true, true, true]) (by kernel_rfl) ?_
          refine wpAnyH_done (by kernel_rfl) ?_ _
          go_wp2_with fail
          go_meet
          exact ⟨q5, q6, rfl, rfl, hHeld.at_, boxOf hR2, g0, g1, hHeld.bel, hHeld.l3, hR2.lt, R6l⟩
      · refine st_alloc30 _ 5 ?_
        intro q5 V10 hq5 hb10 R5
        have n35 : w.heap.size ≠ q5 := by have := hHeld.l3; omega
        have nb5 : b ≠ q5 := by have := hHeld.lb; omega
        have lo5 : w.heap.size ≤ q5 := by have := hHeld.l3; omega
        have n56 : q5 ≠ q6 := by have := R6.lt; omega
        clear hq5
        refine hK.out _ _ (hHeld.next hb10) (fun hHeld => ?_)
        clear hK K
        simp only [Act.put, List.setIfInBounds_toArray, List.set_cons_succ, List.set_cons_zero]
        refine listH (l2 := #[true, true, true, true, true, true, true, true, true, false, true, true, false, false]) (by kernel_rfl) ?_
        have R6 := R6.of_block (hb10.block q6 R6.lt)
        refine wpAnyH_ready (rs := [9]) (by kernel_rfl) (by simp) ?_
        refine AllReadyH.cons (o := _) rfl (fun K hK => ?_) AllReadyH.nil
        · go_simp
          refine (HEY _).mono ?_
          rintro e V9 ⟨rfl, hb9⟩
          go_wp2_with fail
          refine hK.out _ _ (hHeld.next hb9) (fun hHeld => ?_)
          clear hK K
          try simp only [Act.put]
          refine listH (l2 := #[true, true, true, true, true, true, true, true, true, true, true, true, false, false]) (by kernel_rfl) ?_
          have R5 := R5.of_block (hb9.block q5 R5.lt)
          have R6 := R6.of_block (hb9.block q6 R6.lt)
          refine wpAnyH_ready (rs := [12]) (by kernel_rfl) (by simp) ?_
          refine AllReadyH.cons (o := _) rfl (fun K hK => ?_) AllReadyH.nil
          refine st_store30 _ 5 13 q5 0 x 7 _ rfl rfl R5 (by omega) ⟨⟨0, 0, ⟨#[]⟩, 0, ⟨#[]⟩, 0, ⟨#[]⟩⟩, rfl, rfl, rfl, rfl, rfl, rfl, rfl⟩ ?_
          intro F1 hB1 hR1
          have hR1 : F1.rowIs q5 30 7 (xrow x) := hR1
          refine hK.out _ _ (hHeld.but hB1 n35 nb5 lo5) (fun hHeld => ?_)
          clear hK K
          refine listH (l2 := #[true, true, true, true, true, true, true, true, true, true, true, true, true, false]) (by kernel_rfl) ?_
          have R6 := R6.of_block (hB1.block q6 (fun e => n56 e.symm) R6.lt)
          refine wpAnyH_ready (rs := [13]) (by kernel_rfl) (by simp) ?_
          refine AllReadyH.cons (o := _) rfl (fun K hK => ?_) AllReadyH.nil
          refine st_store89 _ 6 18 q6 y.dir2 y.name2 rfl rfl R6 ?_
          intro F2 hB2 g0 g1
          have hR2 := hR1.of_block (hB2.block q5 n56 hR1.lt)
          have R6l : q6 < F2.heap.size := by have := R6.lt; have := hB2.below.size; omega
          refine hK.out _ _ (hHeld.but hB2 n36 nb6 lo6) (fun hHeld => ?_)
          clear hK K
          refine listH (l2 := #[true, true, true, true, true, true, true, true, true, true, true, true, true, true]) (by kernel_rfl) ?_
          refine wpAnyH_done (by kernel_rfl) ?_ _
          go_wp2_with fail
          go_meet
          exact ⟨q5, q6, rfl, rfl, hHeld.at_, boxOf hR2, g0, g1, hHeld.bel, hHeld.l3, hR2.lt, R6l⟩
  obtain ⟨q5, q6, rfl, rfl, hJT⟩ := hcut
  obtain ⟨W2, rfl⟩ : ∃ W2, W2 = wc := ⟨_, rfl⟩
  clear hJS hB
  have HSX := startOf_any x
  unfold startV at HSX
  simp only [LOp.val] at HSX
  go_upto_region 2 with fail
  go_cut [7] (fun s7 wx => ∃ q7, s7 = .pointer (some ⟨q7, 0, none⟩) ∧ JT w w.heap.size q5 q6 j1 x y wx ∧ wx.cell? ⟨q7, 0, none⟩ = some (.bool (backB x y)) ∧ q7 < wx.heap.size)
  case first =>
    rcases k4 : (x.kind == 4) with _ | _
    · have HBK : Hid (backB x y = false) := by show _ = _; unfold backB; rw [k4]; rfl
      refine wp_region_held_drew (S := (fun W => JT w w.heap.size q5 q6 j1 x y W)) (by kernel_rfl) ?_ (fun hHeld => ?_)
      · exact hJT.next (Below.refl _ _).drew
      refine listH (l2 := #[false, false, false, false, false, false, false, false, false, false, false]) (by kernel_rfl) ?_
      refine takeH (i := 0) (oi := _) (v := ?vk1) 19 #[true, false, false, false, false, false, false, false, false, false, false] rfl (by kernel_rfl) (by kernel_rfl) (by kernel_rfl) rfl (by kernel_rfl) (fun _ _ _ h => h) (Or.inl ⟨by rfl, ?yk1⟩) (by assumption) ?rk1
      case yk1 => (intro w' hSw; obtain ⟨h3, ⟨c0, c1, c2, c3, c4, c5, c6⟩, g0, g1, _, _, _, _⟩ := hSw; go_simp; try with_reducible rfl)
      simp only [Act.put, List.setIfInBounds_toArray, List.set_cons_succ, List.set_cons_zero]
      refine takeH (i := 1) (oi := _) (v := ?vk2) 20 #[true, true, false, false, false, false, false, false, false, false, false] rfl (by kernel_rfl) (by kernel_rfl) (by kernel_rfl) rfl (by kernel_rfl) (fun _ _ _ h => h) (Or.inl ⟨by rfl, ?yk2⟩) (by assumption) ?rk2
      case yk2 => (intro w' hSw; obtain ⟨h3, ⟨c0, c1, c2, c3, c4, c5, c6⟩, g0, g1, _, _, _, _⟩ := hSw; go_simp; try with_reducible rfl)
      simp only [Act.put, List.setIfInBounds_toArray, List.set_cons_succ, List.set_cons_zero]
      refine wpAnyH_ready (rs := [2, 9]) (by kernel_rfl) (by simp) ?_
      refine AllReadyH.cons (o := _) rfl (fun K hK => ?_) (AllReadyH.cons (o := _) rfl (fun K hK => ?_) AllReadyH.nil)
      · go_simp
        refine (moves_b k4 _).mono ?_
        rintro e w1 ⟨rfl, rfl⟩
        go_wp2_with fail
        refine hK.out _ _ hHeld (fun hHeld => ?_)
        clear hK K
        try simp only [Act.put]
        refine listH (l2 := #[true, true, true, false, false, false, false, false, false, false, false]) (by kernel_rfl) ?_
        refine takeH (i := 3) (oi := _) (v := ?vk3) 22 #[true, true, true, true, false, false, false, false, false, false, false] rfl (by kernel_rfl) (by kernel_rfl) (by kernel_rfl) rfl (by kernel_rfl) (fun _ _ _ h => h) (Or.inl ⟨by rfl, ?yk3⟩) (by assumption) ?rk3
        case yk3 => (intro w' hSw; obtain ⟨h3, ⟨c0, c1, c2, c3, c4, c5, c6⟩, g0, g1, _, _, _, _⟩ := hSw; go_simp; try with_reducible rfl)
        simp only [Act.put, List.setIfInBounds_toArray, List.set_cons_succ, List.set_cons_zero]
        refine takeH (i := 4) (oi := _) (v := undef) 23 #[true, true, true, true, true, false, false, false, false, false, false] rfl (by kernel_rfl) (by kernel_rfl) (by kernel_rfl) rfl (by kernel_rfl) (fun _ _ _ h => h) (Or.inr ⟨by rfl, rfl⟩) (by assumption) ?rk4
        simp only [Act.put, List.setIfInBounds_toArray, List.set_cons_succ, List.set_cons_zero]
        refine takeH (i := 5) (oi := _) (v := undef) 24 #[true, true, true, true, true, true, false, false, false, false, false] rfl (by kernel_rfl) (by kernel_rfl) (by kernel_rfl) rfl (by kernel_rfl) (fun _ _ _ h => h) (Or.inr ⟨by rfl, rfl⟩) (by assumption) ?rk5
        simp only [Act.put, List.setIfInBounds_toArray, List.set_cons_succ, List.set_cons_zero]
        refine takeH (i := 6) (oi := _) (v := undef) 25 #[true, true, true, true, true, true, true, false, false, false, false] rfl (by kernel_rfl) (by kernel_rfl) (by kernel_rfl) rfl (by kernel_rfl) (fun _ _ _ h => h) (Or.inr ⟨by rfl, rfl⟩) (by assumption) ?rk6
        simp only [Act.put, List.setIfInBounds_toArray, List.set_cons_succ, List.set_cons_zero]
        refine takeH (i := 7) (oi := _) (v := undef) 26 #[true, true, true, true, true, true, true, true, false, false, false] rfl (by kernel_rfl) (by kernel_rfl) (by kernel_rfl) rfl (by kernel_rfl) (fun _ _ _ h => h) (Or.inr ⟨by rfl, rfl⟩) (by assumption) ?rk7
        simp only [Act.put, List.setIfInBounds_toArray, List.set_cons_succ, List.set_cons_zero]
        refine takeH (i := 8) (oi := _) (v := ?vk8) 27 #[true, true, true, true, true, true, true, true, true, false, false] rfl (by kernel_rfl) (by kernel_rfl) (by kernel_rfl) rfl (by kernel_rfl) (fun _ _ _ h => h) (Or.inl ⟨by rfl, ?yk8⟩) (by assumption) ?rk8
        case yk8 => (intro w' hSw; obtain ⟨h3, ⟨c0, c1, c2, c3, c4, c5, c6⟩, g0, g1, _, _, _, _⟩ := hSw; go_simp; try with_reducible rfl)
        simp only [Act.put, List.setIfInBounds_toArray, List.set_cons_succ, List.set_cons_zero]
        refine wpAnyH_ready (rs := [9]) (by kernel_rfl) (by simp) ?_
        refine AllReadyH.cons (o := _) rfl (fun K hK => ?_) AllReadyH.nil
        refine st_alloc4 _ 7 ?_
        intro q7 V7 hq7 hb7 R7
        have n3 : w.heap.size ≠ q7 := by have := hHeld.l3; omega
        have n5 : q5 ≠ q7 := by have := hHeld.l5; omega
        have n6 : q6 ≠ q7 := by have := hHeld.l6; omega
        have lo7 : w.heap.size ≤ q7 := by have := hHeld.l3; omega
        clear hq7
        refine hK.out _ _ (hHeld.next hb7) (fun hHeld => ?_)
        clear hK K
        simp only [Act.put, List.setIfInBounds_toArray, List.set_cons_succ, List.set_cons_zero]
        refine listH (l2 := #[true, true, true, true, true, true, true, true, true, true, false]) (by kernel_rfl) ?_
        refine wpAnyH_ready (rs := [10]) (by kernel_rfl) (by simp) ?_
        refine AllReadyH.cons (o := _) rfl (fun K hK => ?_) AllReadyH.nil
        refine st_store4 _ 7 27 q7 false rfl rfl R7 ?_
        intro F hB7 g7
        have l7 : q7 < F.heap.size := by have := R7.lt; have := hB7.below.size; omega
        refine hK.out _ _ (hHeld.but hB7 n3 n5 n6 lo7) (fun hHeld => ?_)
        clear hK K
        refine listH (l2 := #[true, true, true, true, true, true, true, true, true, true, true]) (by kernel_rfl) ?_
        refine wpAnyH_done (by kernel_rfl) ?_ _
        go_wp2_with fail
        go_meet
        exact ⟨q7, rfl, hHeld, by rw [HBK.out]; exact g7, l7⟩
      · refine st_alloc4 _ 7 ?_
        intro q7 V7 hq7 hb7 R7
        have n3 : w.heap.size ≠ q7 := by have := hHeld.l3; omega
        have n5 : q5 ≠ q7 := by have := hHeld.l5; omega
        have n6 : q6 ≠ q7 := by have := hHeld.l6; omega
        have lo7 : w.heap.size ≤ q7 := by have := hHeld.l3; omega
        clear hq7
        refine hK.out _ _ (hHeld.next hb7) (fun hHeld => ?_)
        clear hK K
        simp only [Act.put, List.setIfInBounds_toArray, List.set_cons_succ, List.set_cons_zero]
        refine listH (l2 := #[true, true, false, false, false, false, false, false, false, true, false]) (by kernel_rfl) ?_
        refine wpAnyH_ready (rs := [2]) (by kernel_rfl) (by simp) ?_
        refine AllReadyH.cons (o := _) rfl (fun K hK => ?_) AllReadyH.nil
        go_simp
        refine (moves_b k4 _).mono ?_
        rintro e w1 ⟨rfl, rfl⟩
        go_wp2_with fail
        refine hK.out _ _ hHeld (fun hHeld => ?_)
        clear hK K
        try simp only [Act.put]
        refine listH (l2 := #[true, true, true, false, false, false, false, false, false, true, false]) (by kernel_rfl) ?_
        refine takeH (i := 3) (oi := _) (v := ?vk9) 22 #[true, true, true, true, false, false, false, false, false, true, false] rfl (by kernel_rfl) (by kernel_rfl) (by kernel_rfl) rfl (by kernel_rfl) (fun _ _ _ h => h) (Or.inl ⟨by rfl, ?yk9⟩) (by assumption) ?rk9
        case yk9 => (intro w' hSw; obtain ⟨h3, ⟨c0, c1, c2, c3, c4, c5, c6⟩, g0, g1, _, _, _, _⟩ := hSw; go_simp; try with_reducible rfl)
        simp only [Act.put, List.setIfInBounds_toArray, List.set_cons_succ, List.set_cons_zero]
        refine takeH (i := 4) (oi := _) (v := undef) 23 #[true, true, true, true, true, false, false, false, false, true, false] rfl (by kernel_rfl) (by kernel_rfl) (by kernel_rfl) rfl (by kernel_rfl) (fun _ _ _ h => h) (Or.inr ⟨by rfl, rfl⟩) (by assumption) ?rk10
        simp only [Act.put, List.setIfInBounds_toArray, List.set_cons_succ, List.set_cons_zero]
        refine takeH (i := 5) (oi := _) (v := undef) 24 #[true, true, true, true, true, true, false, false, false, true, false] rfl (by kernel_rfl) (by kernel_rfl) (by kernel_rfl) rfl (by kernel_rfl) (fun _ _ _ h => h) (Or.inr ⟨by rfl, rfl⟩) (by assumption) ?rk11
        simp only [Act.put, List.setIfInBounds_toArray, List.set_cons_succ, List.set_cons_zero]
        refine takeH (i := 6) (oi := _) (v := undef) 25 #[true, true, true, true, true, true, true, false, false, true, false] rfl (by kernel_rfl) (by kernel_rfl) (by kernel_rfl) rfl (by kernel_rfl) (fun _ _ _ h => h) (Or.inr ⟨by rfl, rfl⟩) (by assumption) ?rk12
        simp only [Act.put, List.setIfInBounds_toArray, List.set_cons_succ, List.set_cons_zero]
        refine takeH (i := 7) (oi := _) (v := undef) 26 #[true, true, true, true, true, true, true, true, false, true, false] rfl (by kernel_rfl) (by kernel_rfl) (by kernel_rfl) rfl (by kernel_rfl) (fun _ _ _ h => h) (Or.inr ⟨by rfl, rfl⟩) (by assumption) ?rk13
        simp only [Act.put, List.setIfInBounds_toArray, List.set_cons_succ, List.set_cons_zero]
        refine takeH (i := 8) (oi := _) (v := ?vk14) 27 #[true, true, true, true, true, true, true, true, true, true, false] rfl (by kernel_rfl) (by kernel_rfl) (by kernel_rfl) rfl (by kernel_rfl) (fun _ _ _ h => h) (Or.inl ⟨by rfl, ?yk14⟩) (by assumption) ?rk14
        case yk14 => (intro w' hSw; obtain ⟨h3, ⟨c0, c1, c2, c3, c4, c5, c6⟩, g0, g1, _, _, _, _⟩ := hSw; go_simp; try with_reducible rfl)
        simp only [Act.put, List.setIfInBounds_toArray, List.set_cons_succ, List.set_cons_zero]
        refine wpAnyH_ready (rs := [10]) (by kernel_rfl) (by simp) ?_
        refine AllReadyH.cons (o := _) rfl (fun K hK => ?_) AllReadyH.nil
        refine st_store4 _ 7 27 q7 false rfl rfl R7 ?_
        intro F hB7 g7
        have l7 : q7 < F.heap.size := by have := R7.lt; have := hB7.below.size; omega
        refine hK.out _ _ (hHeld.but hB7 n3 n5 n6 lo7) (fun hHeld => ?_)
        clear hK K
        refine listH (l2 := #[true, true, true, true, true, true, true, true, true, true, true]) (by kernel_rfl) ?_
        refine wpAnyH_done (by kernel_rfl) ?_ _
        go_wp2_with fail
        go_meet
        exact ⟨q7, rfl, hHeld, by rw [HBK.out]; exact g7, l7⟩
    · have HBK : Hid (backB x y = ((x.dir == y.dir2) && (x.name.toList == y.name2.toList))) := by show _ = _; unfold backB; rw [k4]; rfl
      refine wp_region_held_drew (S := (fun W => JT w w.heap.size q5 q6 j1 x y W)) (by kernel_rfl) ?_ (fun hHeld => ?_)
      · exact hJT.next (Below.refl _ _).drew
      refine listH (l2 := #[false, false, false, false, false, false, false, false, false, false, false]) (by kernel_rfl) ?_
      refine takeH (i := 0) (oi := _) (v := ?vk15) 19 #[true, false, false, false, false, false, false, false, false, false, false] rfl (by kernel_rfl) (by kernel_rfl) (by kernel_rfl) rfl (by kernel_rfl) (fun _ _ _ h => h) (Or.inl ⟨by rfl, ?yk15⟩) (by assumption) ?rk15
      case yk15 => (intro w' hSw; obtain ⟨h3, ⟨c0, c1, c2, c3, c4, c5, c6⟩, g0, g1, _, _, _, _⟩ := hSw; go_simp; try with_reducible rfl)
      simp only [Act.put, List.setIfInBounds_toArray, List.set_cons_succ, List.set_cons_zero]
      refine takeH (i := 1) (oi := _) (v := ?vk16) 20 #[true, true, false, false, false, false, false, false, false, false, false] rfl (by kernel_rfl) (by kernel_rfl) (by kernel_rfl) rfl (by kernel_rfl) (fun _ _ _ h => h) (Or.inl ⟨by rfl, ?yk16⟩) (by assumption) ?rk16
      case yk16 => (intro w' hSw; obtain ⟨h3, ⟨c0, c1, c2, c3, c4, c5, c6⟩, g0, g1, _, _, _, _⟩ := hSw; go_simp; try with_reducible rfl)
      simp only [Act.put, List.setIfInBounds_toArray, List.set_cons_succ, List.set_cons_zero]
      refine wpAnyH_ready (rs := [2, 9]) (by kernel_rfl) (by simp) ?_
      refine AllReadyH.cons (o := _) rfl (fun K hK => ?_) (AllReadyH.cons (o := _) rfl (fun K hK => ?_) AllReadyH.nil)
      · go_simp
        refine (moves_b k4 _).mono ?_
        rintro e w1 ⟨rfl, rfl⟩
        go_wp2_with fail
        refine hK.out _ _ hHeld (fun hHeld => ?_)
        clear hK K
        try simp only [Act.put]
        refine listH (l2 := #[true, true, true, false, false, false, false, false, false, false, false]) (by kernel_rfl) ?_
        refine takeH (i := 3) (oi := _) (v := ?vk17) 22 #[true, true, true, true, false, false, false, false, false, false, false] rfl (by kernel_rfl) (by kernel_rfl) (by kernel_rfl) rfl (by kernel_rfl) (fun _ _ _ h => h) (Or.inl ⟨by rfl, ?yk17⟩) (by assumption) ?rk17
        case yk17 => (intro w' hSw; obtain ⟨h3, ⟨c0, c1, c2, c3, c4, c5, c6⟩, g0, g1, _, _, _, _⟩ := hSw; go_simp; try with_reducible rfl)
        simp only [Act.put, List.setIfInBounds_toArray, List.set_cons_succ, List.set_cons_zero]
        refine takeH (i := 4) (oi := _) (v := ?vk18) 23 #[true, true, true, true, true, false, false, false, false, false, false] rfl (by kernel_rfl) (by kernel_rfl) (by kernel_rfl) rfl (by kernel_rfl) (fun _ _ _ h => h) (Or.inl ⟨by rfl, ?yk18⟩) (by assumption) ?rk18
        case yk18 => (intro w' hSw; obtain ⟨h3, ⟨c0, c1, c2, c3, c4, c5, c6⟩, g0, g1, _, _, _, _⟩ := hSw; go_simp; try with_reducible rfl)
        simp only [Act.put, List.setIfInBounds_toArray, List.set_cons_succ, List.set_cons_zero]
        refine takeH (i := 6) (oi := _) (v := ?vk19) 25 #[true, true, true, true, true, false, true, false, false, false, false] rfl (by kernel_rfl) (by kernel_rfl) (by kernel_rfl) rfl (by kernel_rfl) (fun _ _ _ h => h) (Or.inl ⟨by rfl, ?yk19⟩) (by assumption) ?rk19
        case yk19 => (intro w' hSw; obtain ⟨h3, ⟨c0, c1, c2, c3, c4, c5, c6⟩, g0, g1, _, _, _, _⟩ := hSw; go_simp; try with_reducible rfl)
        simp only [Act.put, List.setIfInBounds_toArray, List.set_cons_succ, List.set_cons_zero]
        refine wpAnyH_ready (rs := [5, 9]) (by kernel_rfl) (by simp) ?_
        refine AllReadyH.cons (o := _) rfl (fun K hK => ?_) (AllReadyH.cons (o := _) rfl (fun K hK => ?_) AllReadyH.nil)
        · go_simp
          refine (HSX _).mono ?_
          rintro e V5 ⟨rfl, hb5⟩
          go_wp2_with fail
          refine hK.out _ _ (hHeld.next hb5) (fun hHeld => ?_)
          clear hK K
          try simp only [Act.put]
          refine listH (l2 := #[true, true, true, true, true, true, true, false, false, false, false]) (by kernel_rfl) ?_
          refine takeH (i := 7) (oi := _) (v := (.bool ((x.dir == y.dir2) && (x.name.toList == y.name2.toList)))) 26 #[true, true, true, true, true, true, true, true, false, false, false] rfl (by kernel_rfl) (by kernel_rfl) (by kernel_rfl) rfl (by kernel_rfl) (fun _ _ _ h => h) (Or.inl ⟨by rfl, ?yk20⟩) (by assumption) ?rk20
          case yk20 => (intro w' hSw; obtain ⟨h3, ⟨c0, c1, c2, c3, c4, c5, c6⟩, g0, g1, _, _, _, _⟩ := hSw; go_simp; (by_cases h1 : x.dir = y.dir2) <;> (by_cases h2 : x.name.toList = y.name2.toList) <;> simp [h1, h2])
          simp only [Act.put, List.setIfInBounds_toArray, List.set_cons_succ, List.set_cons_zero]
          refine takeH (i := 8) (oi := _) (v := ?vk21) 27 #[true, true, true, true, true, true, true, true, true, false, false] rfl (by kernel_rfl) (by kernel_rfl) (by kernel_rfl) rfl (by kernel_rfl) (fun _ _ _ h => h) (Or.inl ⟨by rfl, ?yk21⟩) (by assumption) ?rk21
          case yk21 => (intro w' hSw; obtain ⟨h3, ⟨c0, c1, c2, c3, c4, c5, c6⟩, g0, g1, _, _, _, _⟩ := hSw; go_simp; try with_reducible rfl)
          simp only [Act.put, List.setIfInBounds_toArray, List.set_cons_succ, List.set_cons_zero]
          refine wpAnyH_ready (rs := [9]) (by kernel_rfl) (by simp) ?_
          refine AllReadyH.cons (o := _) rfl (fun K hK => ?_) AllReadyH.nil
          refine st_alloc4 _ 7 ?_
          intro q7 V7 hq7 hb7 R7
          have n3 : w.heap.size ≠ q7 := by have := hHeld.l3; omega
          have n5 : q5 ≠ q7 := by have := hHeld.l5; omega
          have n6 : q6 ≠ q7 := by have := hHeld.l6; omega
          have lo7 : w.heap.size ≤ q7 := by have := hHeld.l3; omega
          clear hq7
          refine hK.out _ _ (hHeld.next hb7) (fun hHeld => ?_)
          clear hK K
          simp only [Act.put, List.setIfInBounds_toArray, List.set_cons_succ, List.set_cons_zero]
          refine listH (l2 := #[true, true, true, true, true, true, true, true, true, true, false]) (by kernel_rfl) ?_
          refine wpAnyH_ready (rs := [10]) (by kernel_rfl) (by simp) ?_
          refine AllReadyH.cons (o := _) rfl (fun K hK => ?_) AllReadyH.nil
          refine st_store4 _ 7 27 q7 ((x.dir == y.dir2) && (x.name.toList == y.name2.toList)) rfl rfl R7 ?_
          intro F hB7 g7
          have l7 : q7 < F.heap.size := by have := R7.lt; have := hB7.below.size; omega
          refine hK.out _ _ (hHeld.but hB7 n3 n5 n6 lo7) (fun hHeld => ?_)
          clear hK K
          refine listH (l2 := #[true, true, true, true, true, true, true, true, true, true, true]) (by kernel_rfl) ?_
          refine wpAnyH_done (by kernel_rfl) ?_ _
          go_wp2_with fail
          go_meet
          exact ⟨q7, rfl, hHeld, by rw [HBK.out]; exact g7, l7⟩
        · refine st_alloc4 _ 7 ?_
          intro q7 V7 hq7 hb7 R7
          have n3 : w.heap.size ≠ q7 := by have := hHeld.l3; omega
          have n5 : q5 ≠ q7 := by have := hHeld.l5; omega
          have n6 : q6 ≠ q7 := by have := hHeld.l6; omega
          have lo7 : w.heap.size ≤ q7 := by have := hHeld.l3; omega
          clear hq7
          refine hK.out _ _ (hHeld.next hb7) (fun hHeld => ?_)
          clear hK K
          simp only [Act.put, List.setIfInBounds_toArray, List.set_cons_succ, List.set_cons_zero]
          refine listH (l2 := #[true, true, true, true, true, false, true, false, false, true, false]) (by kernel_rfl) ?_
          refine wpAnyH_ready (rs := [5]) (by kernel_rfl) (by simp) ?_
          refine AllReadyH.cons (o := _) rfl (fun K hK => ?_) AllReadyH.nil
          go_simp
          refine (HSX _).mono ?_
          rintro e V5 ⟨rfl, hb5⟩
          have R7 := R7.of_block (hb5.block q7 R7.lt)
          go_wp2_with fail
          refine hK.out _ _ (hHeld.next hb5) (fun hHeld => ?_)
          clear hK K
          try simp only [Act.put]
          refine listH (l2 := #[true, true, true, true, true, true, true, false, false, true, false]) (by kernel_rfl) ?_
          refine takeH (i := 7) (oi := _) (v := (.bool ((x.dir == y.dir2) && (x.name.toList == y.name2.toList)))) 26 #[true, true, true, true, true, true, true, true, false, true, false] rfl (by kernel_rfl) (by kernel_rfl) (by kernel_rfl) rfl (by kernel_rfl) (fun _ _ _ h => h) (Or.inl ⟨by rfl, ?yk22⟩) (by assumption) ?rk22
          case yk22 => (intro w' hSw; obtain ⟨h3, ⟨c0, c1, c2, c3, c4, c5, c6⟩, g0, g1, _, _, _, _⟩ := hSw; go_simp; (by_cases h1 : x.dir = y.dir2) <;> (by_cases h2 : x.name.toList = y.name2.toList) <;> simp [h1, h2])
          simp only [Act.put, List.setIfInBounds_toArray, List.set_cons_succ, List.set_cons_zero]
          refine takeH (i := 8) (oi := _) (v := ?vk23) 27 #[true, true, true, true, true, true, true, true, true, true, false] rfl (by kernel_rfl) (by kernel_rfl) (by kernel_rfl) rfl (by kernel_rfl) (fun _ _ _ h => h) (Or.inl ⟨by rfl, ?yk23⟩) (by assumption) ?rk23
          case yk23 => (intro w' hSw; obtain ⟨h3, ⟨c0, c1, c2, c3, c4, c5, c6⟩, g0, g1, _, _, _, _⟩ := hSw; go_simp; try with_reducible rfl)
          simp only [Act.put, List.setIfInBounds_toArray, List.set_cons_succ, List.set_cons_zero]
          refine wpAnyH_ready (rs := [10]) (by kernel_rfl) (by simp) ?_
          refine AllReadyH.cons (o := _) rfl (fun K hK => ?_) AllReadyH.nil
          refine st_store4 _ 7 27 q7 ((x.dir == y.dir2) && (x.name.toList == y.name2.toList)) rfl rfl R7 ?_
          intro F hB7 g7
          have l7 : q7 < F.heap.size := by have := R7.lt; have := hB7.below.size; omega
          refine hK.out _ _ (hHeld.but hB7 n3 n5 n6 lo7) (fun hHeld => ?_)
          clear hK K
          refine listH (l2 := #[true, true, true, true, true, true, true, true, true, true, true]) (by kernel_rfl) ?_
          refine wpAnyH_done (by kernel_rfl) ?_ _
          go_wp2_with fail
          go_meet
          exact ⟨q7, rfl, hHeld, by rw [HBK.out]; exact g7, l7⟩
      · refine st_alloc4 _ 7 ?_
        intro q7 V7 hq7 hb7 R7
        have n3 : w.heap.size ≠ q7 := by have := hHeld.l3; omega
        have n5 : q5 ≠ q7 := by have := hHeld.l5; omega
        have n6 : q6 ≠ q7 := by have := hHeld.l6; omega
        have lo7 : w.heap.size ≤ q7 := by have := hHeld.l3; omega
        clear hq7
        refine hK.out _ _ (hHeld.next hb7) (fun hHeld => ?_)
        clear hK K
        simp only [Act.put, List.setIfInBounds_toArray, List.set_cons_succ, List.set_cons_zero]
        refine listH (l2 := #[true, true, false, false, false, false, false, false, false, true, false]) (by kernel_rfl) ?_
        refine wpAnyH_ready (rs := [2]) (by kernel_rfl) (by simp) ?_
        refine AllReadyH.cons (o := _) rfl (fun K hK => ?_) AllReadyH.nil
        go_simp
        refine (moves_b k4 _).mono ?_
        rintro e w1 ⟨rfl, rfl⟩
        go_wp2_with fail
        refine hK.out _ _ hHeld (fun hHeld => ?_)
        clear hK K
        try simp only [Act.put]
        refine listH (l2 := #[true, true, true, false, false, false, false, false, false, true, false]) (by kernel_rfl) ?_
        refine takeH (i := 3) (oi := _) (v := ?vk24) 22 #[true, true, true, true, false, false, false, false, false, true, false] rfl (by kernel_rfl) (by kernel_rfl) (by kernel_rfl) rfl (by kernel_rfl) (fun _ _ _ h => h) (Or.inl ⟨by rfl, ?yk24⟩) (by assumption) ?rk24
        case yk24 => (intro w' hSw; obtain ⟨h3, ⟨c0, c1, c2, c3, c4, c5, c6⟩, g0, g1, _, _, _, _⟩ := hSw; go_simp; try with_reducible rfl)
        simp only [Act.put, List.setIfInBounds_toArray, List.set_cons_succ, List.set_cons_zero]
        refine takeH (i := 4) (oi := _) (v := ?vk25) 23 #[true, true, true, true, true, false, false, false, false, true, false] rfl (by kernel_rfl) (by kernel_rfl) (by kernel_rfl) rfl (by kernel_rfl) (fun _ _ _ h => h) (Or.inl ⟨by rfl, ?yk25⟩) (by assumption) ?rk25
        case yk25 => (intro w' hSw; obtain ⟨h3, ⟨c0, c1, c2, c3, c4, c5, c6⟩, g0, g1, _, _, _, _⟩ := hSw; go_simp; try with_reducible rfl)
        simp only [Act.put, List.setIfInBounds_toArray, List.set_cons_succ, List.set_cons_zero]
        refine takeH (i := 6) (oi := _) (v := ?vk26) 25 #[true, true, true, true, true, false, true, false, false, true, false] rfl (by kernel_rfl) (by kernel_rfl) (by kernel_rfl) rfl (by kernel_rfl) (fun _ _ _ h => h) (Or.inl ⟨by rfl, ?yk26⟩) (by assumption) ?rk26
        case yk26 => (intro w' hSw; obtain ⟨h3, ⟨c0, c1, c2, c3, c4, c5, c6⟩, g0, g1, _, _, _, _⟩ := hSw; go_simp; try with_reducible rfl)
        simp only [Act.put, List.setIfInBounds_toArray, List.set_cons_succ, List.set_cons_zero]
        refine wpAnyH_ready (rs := [5]) (by kernel_rfl) (by simp) ?_
        refine AllReadyH.cons (o := _) rfl (fun K hK => ?_) AllReadyH.nil
        go_simp
        refine (HSX _).mono ?_
        rintro e V5 ⟨rfl, hb5⟩
        have R7 := R7.of_block (hb5.block q7 R7.lt)
        go_wp2_with fail
        refine hK.out _ _ (hHeld.next hb5) (fun hHeld => ?_)
        clear hK K
        try simp only [Act.put]
        refine listH (l2 := #[true, true, true, true, true, true, true, false, false, true, false]) (by kernel_rfl) ?_
        refine takeH (i := 7) (oi := _) (v := (.bool ((x.dir == y.dir2) && (x.name.toList == y.name2.toList)))) 26 #[true, true, true, true, true, true, true, true, false, true, false] rfl (by kernel_rfl) (by kernel_rfl) (by kernel_rfl) rfl (by kernel_rfl) (fun _ _ _ h => h) (Or.inl ⟨by rfl, ?yk27⟩) (by assumption) ?rk27
        case yk27 => (intro w' hSw; obtain ⟨h3, ⟨c0, c1, c2, c3, c4, c5, c6⟩, g0, g1, _, _, _, _⟩ := hSw; go_simp; (by_cases h1 : x.dir = y.dir2) <;> (by_cases h2 : x.name.toList = y.name2.toList) <;> simp [h1, h2])
        simp only [Act.put, List.setIfInBounds_toArray, List.set_cons_succ, List.set_cons_zero]
        refine takeH (i := 8) (oi := _) (v := ?vk28) 27 #[true, true, true, true, true, true, true, true, true, true, false] rfl (by kernel_rfl) (by kernel_rfl) (by kernel_rfl) rfl (by kernel_rfl) (fun _ _ _ h => h) (Or.inl ⟨by rfl, ?yk28⟩) (by assumption) ?rk28
        case yk28 => (intro w' hSw; obtain ⟨h3, ⟨c0, c1, c2, c3, c4, c5, c6⟩, g0, g1, _, _, _, _⟩ := hSw; go_simp; try with_reducible rfl)
        simp only [Act.put, List.setIfInBounds_toArray, List.set_cons_succ, List.set_cons_zero]
        refine wpAnyH_ready (rs := [10]) (by kernel_rfl) (by simp) ?_
        refine AllReadyH.cons (o := _) rfl (fun K hK => ?_) AllReadyH.nil
        refine st_store4 _ 7 27 q7 ((x.dir == y.dir2) && (x.name.toList == y.name2.toList)) rfl rfl R7 ?_
        intro F hB7 g7
        have l7 : q7 < F.heap.size := by have := R7.lt; have := hB7.below.size; omega
        refine hK.out _ _ (hHeld.but hB7 n3 n5 n6 lo7) (fun hHeld => ?_)
        clear hK K
        refine listH (l2 := #[true, true, true, true, true, true, true, true, true, true, true]) (by kernel_rfl) ?_
        refine wpAnyH_done (by kernel_rfl) ?_ _
        go_wp2_with fail
        go_meet
        exact ⟨q7, rfl, hHeld, by rw [HBK.out]; exact g7, l7⟩
  obtain ⟨q7, rfl, hJ, hc7, hl7⟩ := hcut
  obtain ⟨W3, rfl⟩ : ∃ W3, W3 = wc := ⟨_, rfl⟩
  clear hJT HSX
  have hl3 := hJ.l3
  have HLN : Hid (n = ops.length) := H.len
  have hHW := H.below hJ.bel hU
  have hkeep : keepTo (fun i => !goesJoin (backB x y) j1 i) ops n = ops.take j ++ (if backB x y then [] else [x]) ++ ops.drop (j + 2) := by
    rw [HLN.out, HJ1.out]; exact keepTo_join _ HX.out.1 (by have := HLN.out; omega)
  have HD := delete88 (some ⟨b, off, none⟩) n c ops L U ⟨w.heap.size, 0, none⟩ ⟨q7, 0, none⟩ (goesJoin (backB x y) j1) W3 hn (by have := hJ.bel.size; omega) hHW (fun i hi W hW => clos88 (backB x y) j1 i w.heap.size q7 W (by have := HJ1.out; omega) (by have := HJ1.out; omega) (by omega) (by rw [hW.cell (by simpa using hl3)]; exact hJ.at_) (by rw [hW.cell (by simpa using hl7)]; exact hc7))
  go_wp2_with fail
  refine HD.mono ?_
  clear HD
  rintro e w8 ⟨⟨v8, rfl, ho8⟩, hb8⟩
  rw [hkeep] at ho8
  clear hkeep
  have hJ8 := hJ.next hb8
  have hc8 : w8.cell? ⟨q7, 0, none⟩ = some (.bool (backB x y)) := by rw [hb8.cell (by simpa using hl7)]; exact hc7
  have hl5 := hJ.l5
  have hl6 := hJ.l6
  have hbel3 := hJ.bel.size
  rcases hbk : backB x y with _ | _
  · rw [hbk] at ho8 hc8
    have ho8' : OwnOps w8 W3.heap.size v8 (ops.take j ++ [x] ++ ops.drop (j + 2)) := ho8
    have HJL : Hid (joinL x y = [onB x y]) := by show _ = _; unfold joinL; rw [hbk]; rfl
    obtain ⟨g, cap, f8, hv8, hg8, hcap8, hcm8, hrow8, hff8⟩ := ho8'.rowOf (by simp; omega)
    have hlen8 : (ops.take j ++ [x] ++ ops.drop (j + 2)).length = n - 1 := by have := HLN.out; simp; omega
    rw [hlen8] at hv8 hcap8
    subst hv8
    have hjn1 : (j : Int) < ((n - 1 : Nat) : Int) := by omega
    have hfx : f8 (j * 7) = .int .i64 x.kind ∧ f8 (j * 7 + 1) = .int .i64 x.dir ∧ f8 (j * 7 + 2) = .string x.name ∧ f8 (j * 7 + 3) = .int .i64 x.dir2 ∧ f8 (j * 7 + 4) = .string x.name2 ∧ f8 (j * 7 + 5) = .int .i64 x.id ∧ f8 (j * 7 + 6) = .string x.text := by
      have h1 := hff8 j (by omega)
      have h2 : (ops.take j ++ [x] ++ ops.drop (j + 2))[j]'(by omega) = x := by
        have hl : (ops.take j).length = j := by have := HLN.out; simp; omega
        simp [hl]
      rw [h2] at h1
      exact h1
    have HFIN : Hid (∀ F : World, F.rowIs g 30 (cap * 7) (fun i => if i = j * 7 + 6 then .string (onB x y).text else if i = j * 7 + 5 then .int .i64 (onB x y).id else if i = j * 7 + 4 then .string (onB x y).name2 else if i = j * 7 + 3 then .int .i64 (onB x y).dir2 else if i = j * 7 + 2 then .string (onB x y).name else if i = j * 7 + 1 then .int .i64 (onB x y).dir else if i = j * 7 then .int .i64 (onB x y).kind else f8 i) → OwnOps F w.heap.size (.slice (some ⟨g, 0, none⟩) (n - 1) cap) (ops.take j ++ joinL x y ++ ops.drop (j + 2))) := by
      intro F hF
      rw [HJL.out]
      have hl : (ops.take j).length = j := by have := HLN.out; simp; omega
      have hlen9 : (ops.take j ++ [onB x y] ++ ops.drop (j + 2)).length = n - 1 := by have := HLN.out; simp; omega
      rw [← hlen9]
      refine OwnOps.ofRow (by omega) (by omega) hcm8 hF fun i hi => ?_
      by_cases e : i = j
      · subst e
        have h2 : (ops.take i ++ [onB x y] ++ ops.drop (i + 2))[i] = onB x y := by simp [hl]
        rw [h2]
        exact ⟨by simp, by simp, by simp, by simp, by simp, by simp, by simp⟩
      · have h2 : (ops.take j ++ [onB x y] ++ ops.drop (j + 2))[i] = (ops.take j ++ [x] ++ ops.drop (j + 2))[i]'(by omega) := by
          have h3 := get_other (A := ops.take j) (C := ops.drop (j + 2)) (u := onB x y) (v := x) (i := i) (by rw [hl]; exact e)
          rw [List.getElem?_eq_getElem hi, List.getElem?_eq_getElem (by omega)] at h3
          exact Option.some.inj h3
        obtain ⟨q0, q1, q2, q3, q4, q5, q6⟩ := hff8 i (by omega)
        rw [h2]
        refine ⟨?_, ?_, ?_, ?_, ?_, ?_, ?_⟩ <;> dsimp only <;> rw [if_neg (by omega), if_neg (by omega), if_neg (by omega), if_neg (by omega), if_neg (by omega), if_neg (by omega), if_neg (by omega)] <;> assumption
    have HWE := withEnd_any x y.dir2 y.name2
    have hon : (if x.kind = 4 then { x with dir2 := y.dir2, name2 := y.name2 } else { x with dir := y.dir2, name := y.name2 } : LOp) = onB x y := rfl
    rw [hon] at HWE
    simp only [LOp.val] at HWE
    clear ho8 ho8' hff8 hlen8 hon
    go_upto_region 5 with fail
    go_cut [] (fun wx => OwnOps wx w.heap.size (.slice (some ⟨g, 0, none⟩) (n - 1) cap) (ops.take j ++ joinL x y ++ ops.drop (j + 2)) ∧ Below w.heap.size w wx)
    case first =>
      refine wp_region_held_drew (S := (fun W => JT w w.heap.size q5 q6 j1 x y W)) (by kernel_rfl) ?_ (fun hHeld => ?_)
      · exact hJ8.next (Below.refl _ _).drew
      refine listH (l2 := #[false, false, false, false, false, false, false, false]) (by kernel_rfl) ?_
      refine takeH (i := 0) (oi := _) (v := ?vk29) 33 #[true, false, false, false, false, false, false, false] rfl (by kernel_rfl) (by kernel_rfl) (by kernel_rfl) rfl (by kernel_rfl) (fun _ _ _ h => h) (Or.inl ⟨by rfl, ?yk29⟩) (by assumption) ?rk29
      case yk29 => (intro w' hSw; obtain ⟨h3, ⟨c0, c1, c2, c3, c4, c5, c6⟩, g0, g1, _, _, _, _⟩ := hSw; go_simp; try with_reducible rfl)
      simp only [Act.put, List.setIfInBounds_toArray, List.set_cons_succ, List.set_cons_zero]
      refine takeH (i := 1) (oi := _) (v := ?vk30) 34 #[true, true, false, false, false, false, false, false] rfl (by kernel_rfl) (by kernel_rfl) (by kernel_rfl) rfl (by kernel_rfl) (fun _ _ _ h => h) (Or.inl ⟨by rfl, ?yk30⟩) (by assumption) ?rk30
      case yk30 => (intro w' hSw; obtain ⟨h3, ⟨c0, c1, c2, c3, c4, c5, c6⟩, g0, g1, _, _, _, _⟩ := hSw; go_simp; try with_reducible rfl)
      simp only [Act.put, List.setIfInBounds_toArray, List.set_cons_succ, List.set_cons_zero]
      refine takeH (i := 2) (oi := _) (v := (.int .i64 (j : Int))) 35 #[true, true, true, false, false, false, false, false] rfl (by kernel_rfl) (by kernel_rfl) (by kernel_rfl) rfl (by kernel_rfl) (fun _ _ _ h => h) (Or.inl ⟨by rfl, ?yk31⟩) (by assumption) ?rk31
      case yk31 => (intro w' hSw; obtain ⟨h3, ⟨c0, c1, c2, c3, c4, c5, c6⟩, g0, g1, _, _, _, _⟩ := hSw; go_simp; simp only [IntKind.wrap_i64]; have := HJ1.out; omega)
      simp only [Act.put, List.setIfInBounds_toArray, List.set_cons_succ, List.set_cons_zero]
      refine takeH (i := 3) (oi := _) (v := ?vk32) 36 #[true, true, true, true, false, false, false, false] rfl (by kernel_rfl) (by kernel_rfl) (by kernel_rfl) rfl (by kernel_rfl) (fun _ _ _ h => h) (Or.inl ⟨by rfl, ?yk32⟩) (by assumption) ?rk32
      case yk32 => (intro w' hSw; obtain ⟨h3, ⟨c0, c1, c2, c3, c4, c5, c6⟩, g0, g1, _, _, _, _⟩ := hSw; go_simp; try with_reducible rfl)
      simp only [Act.put, List.setIfInBounds_toArray, List.set_cons_succ, List.set_cons_zero]
      refine takeH (i := 4) (oi := _) (v := ?vk33) 37 #[true, true, true, true, true, false, false, false] rfl (by kernel_rfl) (by kernel_rfl) (by kernel_rfl) rfl (by kernel_rfl) (fun _ _ _ h => h) (Or.inl ⟨by rfl, ?yk33⟩) (by assumption) ?rk33
      case yk33 => (intro w' hSw; obtain ⟨h3, ⟨c0, c1, c2, c3, c4, c5, c6⟩, g0, g1, _, _, _, _⟩ := hSw; go_simp; try with_reducible rfl)
      simp only [Act.put, List.setIfInBounds_toArray, List.set_cons_succ, List.set_cons_zero]
      refine wpAnyH_ready (rs := [5]) (by kernel_rfl) (by simp) ?_
      refine AllReadyH.cons (o := _) rfl (fun K hK => ?_) AllReadyH.nil
      go_simp
      refine (HWE _).mono ?_
      rintro e V5 ⟨rfl, hb5⟩
      have hrow5 := hrow8.of_block (((Below.refl _ _).drew.trans (hb5.mono (by simp))).block g hrow8.lt)
      go_wp2_with fail
      refine hK.out _ _ (hHeld.next hb5) (fun hHeld => ?_)
      clear hK K
      try simp only [Act.put]
      refine listH (l2 := #[true, true, true, true, true, true, false, false]) (by kernel_rfl) ?_
      refine takeH (i := 6) (oi := _) (v := ?vk34) 39 #[true, true, true, true, true, true, true, false] rfl (by kernel_rfl) (by kernel_rfl) (by kernel_rfl) rfl (by kernel_rfl) (fun _ _ _ h => h) (Or.inl ⟨by rfl, ?yk34⟩) (by assumption) ?rk34
      case yk34 => (intro w' hSw; obtain ⟨h3, ⟨c0, c1, c2, c3, c4, c5, c6⟩, g0, g1, _, _, _, _⟩ := hSw; go_simp; try with_reducible rfl)
      simp only [Act.put, List.setIfInBounds_toArray, List.set_cons_succ, List.set_cons_zero]
      refine wpAnyH_ready (rs := [7]) (by kernel_rfl) (by simp) ?_
      refine AllReadyH.cons (o := _) rfl (fun K hK => ?_) AllReadyH.nil
      refine st_store30 _ 39 38 g (j * 7) (onB x y) (cap * 7) f8 rfl rfl hrow5 (by omega) ⟨x, hfx⟩ ?_
      intro F hBF hRF
      refine hK.out _ _ (hHeld.but hBF (by omega) (by omega) (by omega) (by omega)) (fun hHeld => ?_)
      clear hK K
      refine listH (l2 := #[true, true, true, true, true, true, true, true]) (by kernel_rfl) ?_
      refine wpAnyH_done (by kernel_rfl) ?_ _
      go_wp2_with fail
      go_meet
      exact ⟨HFIN.out _ hRF, hHeld.bel⟩
    obtain ⟨ho9, hb9⟩ := hcut
    go_wp2_with fail
    go_ret
    exact ⟨⟨_, rfl, ho9⟩, hb9⟩
  · rw [hbk] at ho8 hc8
    have HJL : Hid (joinL x y = []) := by show _ = _; unfold joinL; rw [hbk]; rfl
    have HO8 : Hid (OwnOps w8 w.heap.size v8 (ops.take j ++ joinL x y ++ ops.drop (j + 2))) := by rw [HJL.out]; exact ho8.base hbel3
    clear ho8
    go_wp2_with fail
    go_ret
    exact ⟨⟨_, rfl, HO8.out⟩, hJ8.bel⟩
end Go.Proofs.Ytkllejaamnojpaa


/- Lists that are made shorter: the program: what moves on, again and again. -/
namespace Go.Proofs.Ytkllejaamnojpaa
open Go.RowKit

set_option maxHeartbeats 4000000 in
set_option maxRecDepth 20000 in
theorem joinFirst_any (a : Option Addr) (n c : Nat) (ops : List LOp) (L U : Nat) (w : World) (hn : n ≤ 1000) (hU : U ≤ w.heap.size) (H : OpsAt w L U a n ops) :
    Calls Try.prog 72 #[.slice a n c] w (SlimEnd w (orSame moveStep ops)) := by
  have hlen : Hid (n = ops.length) := H.len
  go_enter Try.func72, Try.ntmps72
  go_wp2_with fail
  go_loopg [3] n (fun g k wr => ∃ j j1 : Nat, Hid (j1 = j + 1) ∧ j ≤ n ∧ Hid (g = n - j) ∧ k = .int .i64 (j1 : Nat) ∧ Hid (∀ t, t < j → joinsAt ops t = false) ∧ Below w.heap.size w wr)
  case atStart => exact ⟨0, 1, rfl, Nat.zero_le _, rfl, rfl, fun t ht => by omega, Below.refl _ _⟩
  case round =>
    obtain ⟨j, j1, HJ1, hj, hk, rfl, hno, hb⟩ := hrel
    by_cases hlt : j + 1 < n
    · obtain ⟨b, off, ha, hL, hbU, hc⟩ := H.at_ (by omega)
      subst ha
      obtain ⟨x, hx, hsx, hatx⟩ := hc j (by omega)
      obtain ⟨y, hy, hsy, haty⟩ := hc (j + 1) (by omega)
      rw [← HJ1.out] at haty
      have hsz := hb.size
      have hbl : b < wr.heap.size := by omega
      have HXA : Hid (OpAt wr b (off + j * 7) x) := hatx.of_block (hb.block b (by omega))
      have HYA : Hid (OpAt wr b (off + j1 * 7) y) := haty.of_block (hb.block b (by omega))
      have HE : Hid (ops[j]? = some x ∧ ops[j + 1]? = some y) := ⟨hx, hy⟩
      have hltj : (j : Int) < (n : Int) := by omega
      have hlt1 : (j1 : Int) < (n : Int) := by have := HJ1.out; omega
      have HMO := movesOn_any x y
      simp only [LOp.val] at HMO
      clear hc hx hy hatx haty
      go_upto_region 4 with fail
      go_cut [19] (fun s wx => s = .bool (joinsB x y) ∧ Below wr.heap.size wr wx)
      case first =>
        refine wp_region_held_drew (S := (fun W => OpAt W b (off + j * 7) x ∧ OpAt W b (off + j1 * 7) y)) (by kernel_rfl) ?_ (fun hHeld => ?_)
        · exact ⟨HXA.out.of_block rfl, HYA.out.of_block rfl⟩
        refine listH (l2 := #[false, false, false, false, false, false, false, false, false, false]) (by kernel_rfl) ?_
        refine takeH (i := 0) (oi := _) (v := ?vz0) 10 #[true, false, false, false, false, false, false, false, false, false] rfl (by kernel_rfl) (by kernel_rfl) (by kernel_rfl) rfl (by kernel_rfl) (fun _ _ _ h => h) (Or.inl ⟨by rfl, ?yz0⟩) (by assumption) ?rz0
        case yz0 => (intro w' hSw; obtain ⟨⟨c0, c1, c2, c3, c4, c5, c6⟩, d0, d1, d2, d3, d4, d5, d6⟩ := hSw; go_simp; try with_reducible rfl)
        simp only [Act.put, List.setIfInBounds_toArray, List.set_cons_succ, List.set_cons_zero]
        refine takeH (i := 1) (oi := _) (v := ?vz1) 11 #[true, true, false, false, false, false, false, false, false, false] rfl (by kernel_rfl) (by kernel_rfl) (by kernel_rfl) rfl (by kernel_rfl) (fun _ _ _ h => h) (Or.inl ⟨by rfl, ?yz1⟩) (by assumption) ?rz1
        case yz1 => (intro w' hSw; obtain ⟨⟨c0, c1, c2, c3, c4, c5, c6⟩, d0, d1, d2, d3, d4, d5, d6⟩ := hSw; go_simp; try with_reducible rfl)
        simp only [Act.put, List.setIfInBounds_toArray, List.set_cons_succ, List.set_cons_zero]
        refine takeH (i := 2) (oi := _) (v := (.int .i64 (j : Int))) 12 #[true, true, true, false, false, false, false, false, false, false] rfl (by kernel_rfl) (by kernel_rfl) (by kernel_rfl) rfl (by kernel_rfl) (fun _ _ _ h => h) (Or.inl ⟨by rfl, ?yz2⟩) (by assumption) ?rz2
        case yz2 => (intro w' hSw; obtain ⟨⟨c0, c1, c2, c3, c4, c5, c6⟩, d0, d1, d2, d3, d4, d5, d6⟩ := hSw; go_simp; simp only [IntKind.wrap_i64]; have := HJ1.out; omega)
        simp only [Act.put, List.setIfInBounds_toArray, List.set_cons_succ, List.set_cons_zero]
        refine takeH (i := 3) (oi := _) (v := ?vz3) 13 #[true, true, true, true, false, false, false, false, false, false] rfl (by kernel_rfl) (by kernel_rfl) (by kernel_rfl) rfl (by kernel_rfl) (fun _ _ _ h => h) (Or.inl ⟨by rfl, ?yz3⟩) (by assumption) ?rz3
        case yz3 => (intro w' hSw; obtain ⟨⟨c0, c1, c2, c3, c4, c5, c6⟩, d0, d1, d2, d3, d4, d5, d6⟩ := hSw; go_simp; try with_reducible rfl)
        simp only [Act.put, List.setIfInBounds_toArray, List.set_cons_succ, List.set_cons_zero]
        refine takeH (i := 4) (oi := _) (v := ?vz4) 14 #[true, true, true, true, true, false, false, false, false, false] rfl (by kernel_rfl) (by kernel_rfl) (by kernel_rfl) rfl (by kernel_rfl) (fun _ _ _ h => h) (Or.inl ⟨by rfl, ?yz4⟩) (by assumption) ?rz4
        case yz4 => (intro w' hSw; obtain ⟨⟨c0, c1, c2, c3, c4, c5, c6⟩, d0, d1, d2, d3, d4, d5, d6⟩ := hSw; go_simp; try with_reducible rfl)
        simp only [Act.put, List.setIfInBounds_toArray, List.set_cons_succ, List.set_cons_zero]
        refine takeH (i := 5) (oi := _) (v := ?vz5) 15 #[true, true, true, true, true, true, false, false, false, false] rfl (by kernel_rfl) (by kernel_rfl) (by kernel_rfl) rfl (by kernel_rfl) (fun _ _ _ h => h) (Or.inl ⟨by rfl, ?yz5⟩) (by assumption) ?rz5
        case yz5 => (intro w' hSw; obtain ⟨⟨c0, c1, c2, c3, c4, c5, c6⟩, d0, d1, d2, d3, d4, d5, d6⟩ := hSw; go_simp; try with_reducible rfl)
        simp only [Act.put, List.setIfInBounds_toArray, List.set_cons_succ, List.set_cons_zero]
        refine takeH (i := 6) (oi := _) (v := ?vz6) 16 #[true, true, true, true, true, true, true, false, false, false] rfl (by kernel_rfl) (by kernel_rfl) (by kernel_rfl) rfl (by kernel_rfl) (fun _ _ _ h => h) (Or.inl ⟨by rfl, ?yz6⟩) (by assumption) ?rz6
        case yz6 => (intro w' hSw; obtain ⟨⟨c0, c1, c2, c3, c4, c5, c6⟩, d0, d1, d2, d3, d4, d5, d6⟩ := hSw; go_simp; try with_reducible rfl)
        simp only [Act.put, List.setIfInBounds_toArray, List.set_cons_succ, List.set_cons_zero]
        refine takeH (i := 7) (oi := _) (v := ?vz7) 17 #[true, true, true, true, true, true, true, true, false, false] rfl (by kernel_rfl) (by kernel_rfl) (by kernel_rfl) rfl (by kernel_rfl) (fun _ _ _ h => h) (Or.inl ⟨by rfl, ?yz7⟩) (by assumption) ?rz7
        case yz7 => (intro w' hSw; obtain ⟨⟨c0, c1, c2, c3, c4, c5, c6⟩, d0, d1, d2, d3, d4, d5, d6⟩ := hSw; go_simp; try with_reducible rfl)
        simp only [Act.put, List.setIfInBounds_toArray, List.set_cons_succ, List.set_cons_zero]
        refine takeH (i := 8) (oi := _) (v := ?vz8) 18 #[true, true, true, true, true, true, true, true, true, false] rfl (by kernel_rfl) (by kernel_rfl) (by kernel_rfl) rfl (by kernel_rfl) (fun _ _ _ h => h) (Or.inl ⟨by rfl, ?yz8⟩) (by assumption) ?rz8
        case yz8 => (intro w' hSw; obtain ⟨⟨c0, c1, c2, c3, c4, c5, c6⟩, d0, d1, d2, d3, d4, d5, d6⟩ := hSw; go_simp; try with_reducible rfl)
        simp only [Act.put, List.setIfInBounds_toArray, List.set_cons_succ, List.set_cons_zero]
        refine wpAnyH_ready (rs := [9]) (by kernel_rfl) (by simp) ?_
        refine AllReadyH.cons (o := _) rfl (fun K hK => ?_) AllReadyH.nil
        go_simp
        refine (HMO _).mono ?_
        rintro e V9 ⟨rfl, hb9⟩
        have HBW : Below wr.heap.size wr V9 := (Below.refl _ _).drew.trans (hb9.mono (by simp))
        go_wp2_with fail
        refine hK.out _ _ ?_ (fun hHeld => ?_)
        · exact ⟨HXA.out.of_block (HBW.block b hbl), HYA.out.of_block (HBW.block b hbl)⟩
        clear hK K
        try simp only [Act.put]
        refine listH (l2 := #[true, true, true, true, true, true, true, true, true, true]) (by kernel_rfl) ?_
        refine wpAnyH_done (by kernel_rfl) ?_ _
        go_wp2_with fail
        go_meet
        exact ⟨rfl, HBW⟩
      obtain ⟨rfl, hb2⟩ := hcut
      have hbb := hb.trans (hb2.mono hb.size)
      rcases hjn : joinsB x y with _ | _
      · have HN : Hid (∀ t, t < j + 1 → joinsAt ops t = false) := fun t ht => by
          by_cases e : t = j
          · subst e; rw [joinsAt_of HE.out.1 HE.out.2]; exact hjn
          · exact hno.out t (by omega)
        clear hjn hno HXA HYA HMO
        go_wp2_with fail
        go_roundg (n - (j + 1))
        case measure => have := hk.out; omega
        case rel => exact ⟨j + 1, j1 + 1, by show _ = _; rw [HJ1.out], by omega, rfl, by go_num, HN.out, hbb⟩
      · have HR : Hid (orSame moveStep ops = ops.take j ++ joinL x y ++ ops.drop (j + 2)) := by show _ = _; unfold orSame; rw [fix_join HE.out.1 HE.out.2 hjn hno.out]; rfl
        have HJA := joinAt_any (some ⟨b, off, none⟩) n c ops L U j j1 x y wc HJ1.out hn (by have := hbb.size; omega) (H.below hbb hU) hlt HE.out.1 HE.out.2 hjn
        clear hjn hno HXA HYA HMO
        go_wp2_with fail
        refine HJA.mono ?_
        rintro e w2 hE
        obtain ⟨⟨v, rfl, ho⟩, hb3⟩ := hE.later hbb
        clear HJA
        go_wp2_with fail
        go_ret
        exact ⟨⟨_, rfl, by rw [HR.out]; exact ho⟩, hb3⟩
    · have HR : Hid (orSame moveStep ops = ops) := by show _ = _; unfold orSame; rw [fix_nojoin (j := j) (by have := hlen.out; omega) hno.out]; rfl
      have hlt1 : ¬ (j1 : Int) < (n : Int) := by have := HJ1.out; omega
      clear hno
      go_wp2_with fail
      refine (copy_list a n c ops L U _ hn (H.below hb hU)).mono ?_
      rintro e w2 hE
      obtain ⟨⟨v, rfl, ho⟩, hb2⟩ := hE.later hb
      go_wp2_with fail
      go_ret
      exact ⟨⟨_, rfl, by rw [HR.out]; exact ho⟩, hb2⟩

set_option maxHeartbeats 1000000 in
theorem byOne41 (a : Option Addr) (n c : Nat) (ops : List LOp) (L U : Nat) (w : World) (hU : U ≤ w.heap.size) (H : OpsAt w L U a n ops) :
    Calls Try.prog 69 #[.slice a n c, .func (.func 72) #[] #[]] w (SlimEnd w (ifOk movesL ops)) := by
  have hlen : Hid (n = ops.length) := H.len
  go_enter Try.func69, Try.ntmps69
  go_wp2_with fail
  refine (listOk_any a n c ops L U _ hU H).mono ?_
  rintro e w1 ⟨rfl, hb1⟩
  rcases hf : formsB ops with _ | _
  · have HR : Hid (ifOk movesL ops = []) := ifOk_no hf
    clear hf
    go_wp2_with fail
    go_ret
    exact ⟨⟨_, rfl, by rw [HR.out]; exact OwnOps.nil_ _ _⟩, hb1⟩
  · have HR : Hid (ifOk movesL ops = movesL ops) := ifOk_yes hf
    have hl : n ≤ 60 := by have := formsB_len hf; have := hlen.out; omega
    clear hf
    go_wp2_with fail
    go_loopg [0] n (fun g v wr => ∃ (a' : Option Addr) (n' c' : Nat) (cur : List LOp), v = .slice a' n' c' ∧ n' ≤ n ∧ Hid (g = n') ∧ Hid (OpsAt wr 0 wr.heap.size a' n' cur) ∧ Hid (movesL cur = movesL ops) ∧ Below w.heap.size w wr)
    case atStart => exact ⟨a, n, c, ops, rfl, Nat.le_refl _, rfl, (H.below hb1 hU).wide (Nat.zero_le _) (by have := hb1.size; omega), rfl, hb1⟩
    case round =>
      obtain ⟨a', n', c', cur, rfl, hcn, hk, HA, hfx, hb⟩ := hrel
      have HL : Hid (n' = cur.length) := HA.out.len
      have HSZ : Hid (∀ o ∈ cur, OpSz o) := HA.out.sz
      go_wp2_with fail
      refine (joinFirst_any a' n' c' cur _ _ _ (by omega) (Nat.le_refl _) HA.out).mono ?_
      rintro e w2 ⟨⟨v2, rfl, ho2⟩, hb2⟩
      have hbb : Below w.heap.size w w2 := hb.trans (hb2.mono hb.size)
      have HO2 : Hid (OwnOps w2 w.heap.size v2 (orSame moveStep cur)) := ho2.base hb.size
      clear ho2 hb2
      cases hs : moveStep cur with
      | none =>
        have e1 : orSame moveStep cur = cur := by unfold orSame; rw [hs]; rfl
        have HF : Hid (movesL ops = cur) := by show _ = _; rw [← hfx.out]; exact fixL_none hs
        have HO3 : Hid (OwnOps w2 w.heap.size v2 cur) := by rw [← e1]; exact HO2.out
        obtain ⟨a3, c3, rfl, HA3⟩ := HO3.out.at_ HSZ.out
        have t0 : ((cur.length : Int) == (n' : Int)) = true := by have := HL.out; simp; omega
        clear hs e1 HO2
        go_wp2_with fail
        go_ret
        exact ⟨⟨_, rfl, by rw [HR.out, HF.out]; exact HO3.out⟩, hbb⟩
      | some y =>
        have e1 : orSame moveStep cur = y := by unfold orSame; rw [hs]; rfl
        have hlt := moves_shrink _ _ hs
        have HF : Hid (movesL y = movesL ops) := by show _ = _; rw [← hfx.out]; exact (fixL_some moves_shrink hs).symm
        have HO3 : Hid (OwnOps w2 w.heap.size v2 y) := by rw [← e1]; exact HO2.out
        have HZ := (moveStep_all sz_keeps hs ⟨HSZ.out, Nat.le_refl _⟩).1
        obtain ⟨a3, c3, rfl, HA3⟩ := HO3.out.at_ HZ
        have hlt2 : y.length < n' := by have := HL.out; omega
        have t0 : ((y.length : Int) == (n' : Int)) = false := by simp; omega
        have HA3' : Hid (OpsAt w2 0 w2.heap.size a3 y.length y) := HA3.wide (Nat.zero_le _) (Nat.le_refl _)
        clear hs e1 HO2 HZ HA3 hlt
        go_wp2_with fail
        go_roundg y.length
        case measure => have := hk.out; omega
        case rel => exact ⟨a3, y.length, c3, y, rfl, by omega, rfl, HA3'.out, HF.out, hbb⟩

theorem implSlimMoves (a : Option Addr) (n c : Nat) (ops : List LOp) (L U : Nat) (w : World) (hU : U ≤ w.heap.size) (H : OpsAt w L U a n ops) :
    Calls Try.prog 23 #[.slice a n c] w (SlimEnd w (ifOk movesL ops)) := by
  go_enter Try.func23, Try.ntmps23
  go_wp2_with fail
  refine (byOne41 a n c ops L U w hU H).mono ?_
  rintro e w1 ⟨⟨v, rfl, ho⟩, hb⟩
  go_wp2_with fail
  go_ret
  exact ⟨⟨_, rfl, ho⟩, hb⟩
end Go.Proofs.Ytkllejaamnojpaa


/- Lists that are made shorter: the program, whole. -/
namespace Go.Proofs.Ytkllejaamnojpaa
open Go.RowKit

theorem OwnOps.atc {w : World} {B : Nat} {v : Value} {l : List LOp} (h : OwnOps w B v l) (hn : ∀ o ∈ l, OpSz o) : ∃ a c, v = .slice a l.length c ∧ l.length ≤ c ∧ OpsAt w B w.heap.size a l.length l := by
  obtain ⟨a, c, rfl, H⟩ := h.at_ hn
  rcases h.2 with ⟨h', h0⟩ | ⟨g, cap, cur, h', _, _, hnc, _⟩
  · simp at h'; exact ⟨a, c, rfl, by omega, H⟩
  · simp at h'; exact ⟨a, c, rfl, by omega, H⟩
theorem forms_all {l : List LOp} (h : formsB l = true) : AllL (fun o => opOk o = true) 60 l := by
  unfold formsB at h
  simp at h
  exact ⟨h.2, h.1⟩
theorem forms_of {l : List LOp} (h : AllL (fun o => opOk o = true) 60 l) : formsB l = true := by
  unfold formsB
  simp
  exact ⟨h.2, h.1⟩
/-- What is left behind so many of the three rules. -/
def ruled : Nat → List LOp → List LOp
  | 0, l => l
  | 1, l => ifOk textsL l
  | 2, l => ifOk pairsL (ifOk textsL l)
  | _, l => ifOk movesL (ifOk pairsL (ifOk textsL l))
theorem ruled_yes {l : List LOp} (h : formsB l = true) : ruled 3 l = stepL l ∧ formsB (stepL l) = true := by
  have h1 := textsL_all (forms_all h)
  have h2 := pairsL_all h1
  have h3 := movesL_all ok_keeps h2
  refine ⟨?_, forms_of h3⟩
  show ifOk movesL (ifOk pairsL (ifOk textsL l)) = _
  rw [ifOk_yes h, ifOk_yes (forms_of h1), ifOk_yes (forms_of h2)]
  rfl
theorem ruled_no {l : List LOp} (h : formsB l = false) : ruled 3 l = [] := by
  show ifOk movesL (ifOk pairsL (ifOk textsL l)) = _
  rw [ifOk_no h]
  rfl
theorem slim_end {l : List LOp} (h : (ruled 3 l).length = l.length) : ifOk slimL l = ruled 3 l := by
  cases hf : formsB l with
  | false =>
    rw [ruled_no hf] at h
    obtain rfl : l = [] := List.eq_nil_of_length_eq_zero h.symm
    cases hf
  | true =>
    obtain ⟨h1, _⟩ := ruled_yes hf
    rw [h1] at h ⊢
    rw [ifOk_yes hf]
    unfold slimL
    rw [fixL_none (slimStep_none h)]
theorem slim_more {l : List LOp} (h : (ruled 3 l).length ≠ l.length) : ifOk slimL (ruled 3 l) = ifOk slimL l ∧ (ruled 3 l).length < l.length := by
  cases hf : formsB l with
  | false =>
    rw [ruled_no hf] at h ⊢
    rw [ifOk_no hf]
    simp at h
    exact ⟨rfl, List.length_pos_iff.2 (fun e => by subst e; simp at h)⟩
  | true =>
    obtain ⟨h1, h2⟩ := ruled_yes hf
    rw [h1] at h ⊢
    rw [ifOk_yes hf, ifOk_yes h2]
    have hs := slimStep_some h
    refine ⟨?_, slim_shrink _ _ hs⟩
    unfold slimL
    rw [fixL_some slim_shrink hs]
theorem ruled_sz {l : List LOp} (h : ∀ o ∈ l, OpSz o) : ∀ k, AllL OpSz l.length (ruled k l)
  | 0 => ⟨h, Nat.le_refl _⟩
  | 1 => by
    show AllL OpSz l.length (ifOk textsL l)
    unfold ifOk
    split
    · exact textsL_all ⟨h, Nat.le_refl _⟩
    · exact ⟨fun o ho => (by cases ho), (by simp)⟩
  | 2 => by
    have h1 := ruled_sz h 1
    show AllL OpSz l.length (ifOk pairsL (ruled 1 l))
    unfold ifOk
    split
    · exact pairsL_all h1
    · exact ⟨fun o ho => (by cases ho), (by simp)⟩
  | k + 3 => by
    have h1 := ruled_sz h 2
    show AllL OpSz l.length (ifOk movesL (ruled 2 l))
    unfold ifOk
    split
    · exact movesL_all sz_keeps h1
    · exact ⟨fun o ho => (by cases ho), (by simp)⟩
/-- A list at some place, with room for no less. -/
def ListAt (W : World) (v : Value) (l : List LOp) : Prop := ∃ a c, v = .slice a l.length c ∧ l.length ≤ c ∧ OpsAt W 0 W.heap.size a l.length l
structure RBox (W : World) (q : Nat) : Prop where
  c0 : W.cell? ⟨q, 0, none⟩ = some (.func (.func 19) #[] #[])
  c1 : W.cell? ⟨q, 1, none⟩ = some (.func (.func 21) #[] #[])
  c2 : W.cell? ⟨q, 2, none⟩ = some (.func (.func 23) #[] #[])
  lt : q < W.heap.size
theorem RBox.next {W W' : World} {q : Nat} (h : RBox W q) (hb : Below W.heap.size W W') : RBox W' q :=
  ⟨by rw [hb.cell (by simpa using h.lt)]; exact h.c0, by rw [hb.cell (by simpa using h.lt)]; exact h.c1, by rw [hb.cell (by simpa using h.lt)]; exact h.c2, by have := hb.size; have := h.lt; omega⟩

theorem info37 : (Try.prog.info? 81).map (fun i => (i.size, i.bytes)) = some (1, 8) := by kernel_rfl
theorem info37' : ∃ i, Try.prog.info? 81 = some i ∧ i.size = 1 := by
  cases h : Try.prog.info? 81 with
  | none => have := info37; rw [h] at this; cases this
  | some i => have := info37; rw [h] at this; simp at this; exact ⟨i, rfl, this.1⟩
theorem run_idx0 (x y z : Value) (w : World) : (Instr.index 82 (.agg #[x, y, z]) (.int .i64 0)).run Try.prog w = .ok x w := by
  obtain ⟨i, hi, hs⟩ := info37'
  simp [Instr.index, run_underlying Try.underlying82, asIntOf, sizeOf, typeInfo, hi, hs, part]
theorem run_idx1 (x y z : Value) (w : World) : (Instr.index 82 (.agg #[x, y, z]) (.int .i64 1)).run Try.prog w = .ok y w := by
  obtain ⟨i, hi, hs⟩ := info37'
  simp [Instr.index, run_underlying Try.underlying82, asIntOf, sizeOf, typeInfo, hi, hs, part]
theorem run_idx2 (x y z : Value) (w : World) : (Instr.index 82 (.agg #[x, y, z]) (.int .i64 2)).run Try.prog w = .ok z w := by
  obtain ⟨i, hi, hs⟩ := info37'
  simp [Instr.index, run_underlying Try.underlying82, asIntOf, sizeOf, typeInfo, hi, hs, part]
theorem run_store_fn {P : Program} {w : World} {a : Addr} {m : Mode} (f : Fn) (xs ys : Array Value) : (store a (.func f xs ys) m).run P w = stored P w a (.func f xs ys) m := run_store P w a _ m rfl
set_option maxHeartbeats 4000000 in
set_option maxRecDepth 20000 in
theorem implSlim (a : Option Addr) (n c : Nat) (ops : List LOp) (L U : Nat) (w : World) (hnc : n ≤ c) (hU : U ≤ w.heap.size) (H : OpsAt w L U a n ops) :
    Calls Try.prog 16 #[.slice a n c] w (SlimEnd w (ifOk slimL ops)) := by
  have hlen : Hid (n = ops.length) := H.len
  have hB0 : Below w.heap.size w (w.alloc (Obj.cells #[Value.func (Fn.func 19) #[] #[], Value.func (Fn.func 21) #[] #[], Value.func (Fn.func 23) #[] #[]] 82)) := (Below.refl _ _).alloc (Nat.le_refl _) _
  go_enter Try.func16, Try.ntmps16
  go_wp2_with fail
  simp only [run_store_fn]
  go_simp
  go_wp2_with fail
  go_loopg [0] n (fun g v wr => ∃ cur : List LOp, Hid (g = cur.length) ∧ Hid (ListAt wr v cur) ∧ Hid (ifOk slimL cur = ifOk slimL ops) ∧ RBox wr w.heap.size ∧ Below w.heap.size w wr)
  case atStart => exact ⟨ops, hlen.out, ⟨a, c, by rw [← hlen.out], by have := hlen.out; omega, by rw [← hlen.out]; exact (H.below hB0 hU).wide (Nat.zero_le _) (by simp; omega)⟩, rfl, ⟨by simp [go_sem], by simp [go_sem], by simp [go_sem], by simp⟩, hB0⟩
  case round =>
    obtain ⟨cur, hk, HL, hfx, hR, hb⟩ := hrel
    have HSZ : Hid (∀ o ∈ cur, OpSz o) := by obtain ⟨_, _, _, _, h⟩ := HL.out; exact h.sz
    obtain ⟨a0, c0, rfl, hc0, HA0⟩ := HL.out
    have HLL : Hid (ListAt wr (.slice a0 cur.length c0) (ruled 0 cur)) := ⟨a0, c0, rfl, hc0, HA0⟩
    have r0 := hR.c0
    have r1 := hR.c1
    have r2 := hR.c2
    clear HL HA0
    go_wp2_with fail
    go_loopg [0, 11] 3 (fun g v q wx => ∃ i : Nat, i ≤ 3 ∧ Hid (g = 3 - i) ∧ q = .int .i64 i ∧ Hid (ListAt wx v (ruled i cur)) ∧ Hid (1 ≤ i → OwnOps wx w.heap.size v (ruled i cur)) ∧ RBox wx w.heap.size ∧ Below w.heap.size w wx)
    case atStart => exact ⟨0, by omega, rfl, rfl, HLL.out, fun h => by omega, hR, hb⟩
    case round =>
      obtain ⟨i, hi, hk1, rfl, HL1, HO1, hR1, hb1⟩ := hrel
      match i, hi with
      | 0, _ =>
        obtain ⟨a1, c1, rfl, hcap, HA⟩ := HL1.out
        have t0 : (0 : Int) < 3 := by omega
        go_wp2_with fail
        simp only [run_idx0]
        go_simp
        go_wp2_with fail
        refine (implSlimTexts a1 _ c1 (ruled 0 cur) _ _ _ hcap (Nat.le_refl _) HA).mono ?_
        rintro e w2 ⟨⟨v2, rfl, ho2⟩, hb2⟩
        have HO2 : Hid (OwnOps w2 w.heap.size v2 (ruled 1 cur)) := ho2.base hb1.size
        have HL2 : Hid (ListAt w2 v2 (ruled 1 cur)) := by
          obtain ⟨a2, c2, rfl, hc2, H2⟩ := HO2.out.atc (ruled_sz HSZ.out 1).1
          exact ⟨a2, c2, rfl, hc2, H2.wide (Nat.zero_le _) (Nat.le_refl _)⟩
        have hR2 := hR1.next hb2
        have hbb2 := hb1.trans (hb2.mono hb1.size)
        clear ho2 hb2 HL1 HO1 HA hR1
        go_wp2_with fail
        go_roundg (3 - 1)
        case measure => have := hk1.out; omega
        case rel => exact ⟨1, by omega, rfl, by go_num, HL2.out, fun _ => HO2.out, hR2, hbb2⟩
      | 1, _ =>
        obtain ⟨a1, c1, rfl, hcap, HA⟩ := HL1.out
        have t1 : (1 : Int) < 3 := by omega
        go_wp2_with fail
        simp only [run_idx1]
        go_simp
        go_wp2_with fail
        refine (implSlimPairs a1 _ c1 (ruled 1 cur) _ _ _ (Nat.le_refl _) HA).mono ?_
        rintro e w2 ⟨⟨v2, rfl, ho2⟩, hb2⟩
        have HO2 : Hid (OwnOps w2 w.heap.size v2 (ruled 2 cur)) := ho2.base hb1.size
        have HL2 : Hid (ListAt w2 v2 (ruled 2 cur)) := by
          obtain ⟨a2, c2, rfl, hc2, H2⟩ := HO2.out.atc (ruled_sz HSZ.out 2).1
          exact ⟨a2, c2, rfl, hc2, H2.wide (Nat.zero_le _) (Nat.le_refl _)⟩
        have hR2 := hR1.next hb2
        have hbb2 := hb1.trans (hb2.mono hb1.size)
        clear ho2 hb2 HL1 HO1 HA hR1
        go_wp2_with fail
        go_roundg (3 - 2)
        case measure => have := hk1.out; omega
        case rel => exact ⟨2, by omega, rfl, by go_num, HL2.out, fun _ => HO2.out, hR2, hbb2⟩
      | 2, _ =>
        obtain ⟨a1, c1, rfl, hcap, HA⟩ := HL1.out
        have t2 : (2 : Int) < 3 := by omega
        go_wp2_with fail
        simp only [run_idx2]
        go_simp
        go_wp2_with fail
        refine (implSlimMoves a1 _ c1 (ruled 2 cur) _ _ _ (Nat.le_refl _) HA).mono ?_
        rintro e w2 ⟨⟨v2, rfl, ho2⟩, hb2⟩
        have HO2 : Hid (OwnOps w2 w.heap.size v2 (ruled 3 cur)) := ho2.base hb1.size
        have HL2 : Hid (ListAt w2 v2 (ruled 3 cur)) := by
          obtain ⟨a2, c2, rfl, hc2, H2⟩ := HO2.out.atc (ruled_sz HSZ.out 3).1
          exact ⟨a2, c2, rfl, hc2, H2.wide (Nat.zero_le _) (Nat.le_refl _)⟩
        have hR2 := hR1.next hb2
        have hbb2 := hb1.trans (hb2.mono hb1.size)
        clear ho2 hb2 HL1 HO1 HA hR1
        go_wp2_with fail
        go_roundg (3 - 3)
        case measure => have := hk1.out; omega
        case rel => exact ⟨3, by omega, rfl, by go_num, HL2.out, fun _ => HO2.out, hR2, hbb2⟩
      | 3, _ =>
        obtain ⟨a1, c1, rfl, hcap, HA⟩ := HL1.out
        have HO3 := HO1.out (by omega)
        by_cases he : (ruled 3 cur).length = cur.length
        · have t0 : (((ruled 3 cur).length : Int) == (cur.length : Int)) = true := by simp [he]
          have HR3 : Hid (ifOk slimL ops = ruled 3 cur) := by show _ = _; rw [← hfx.out]; exact slim_end he
          clear he
          go_wp2_with fail
          go_ret
          exact ⟨⟨_, rfl, by rw [HR3.out]; exact HO3⟩, hb1⟩
        · have t0 : (((ruled 3 cur).length : Int) == (cur.length : Int)) = false := by simp; omega
          have HM := slim_more he
          have HF : Hid (ifOk slimL (ruled 3 cur) = ifOk slimL ops) := by show _ = _; rw [HM.1]; exact hfx.out
          have hlt := HM.2
          have HL3 : Hid (ListAt _ (.slice a1 (ruled 3 cur).length c1) (ruled 3 cur)) := HL1.out
          clear he HM
          generalize ruled 3 cur = nx at *
          go_wp2_with fail
          go_roundg nx.length
          case measure => have := hk.out; omega
          case rel => exact ⟨nx, rfl, HL3.out, HF.out, hR1, hb1⟩
end Go.Proofs.Ytkllejaamnojpaa
