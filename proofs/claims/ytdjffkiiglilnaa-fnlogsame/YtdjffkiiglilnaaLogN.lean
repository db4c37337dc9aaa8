/- Logs: made by the specification. -/
import Derived.Test.YtdjffkiiglilnaaLogM
import Derived.Deep.CutBlock
namespace Go.Proofs.Ytdjffkiiglilnaa
open Go.RowKit

theorem OwnOps.keepBut {w w' : World} {B b : Nat} {v : Value} {l : List LOp} (h : OwnOps w B v l) (hb : But b w w') (hlt : b < B) : OwnOps w' B v l := by
  refine ⟨h.1, ?_⟩
  rcases h.2 with hn | ⟨g, cap, cur, rfl, hB, hgg, rest⟩
  · exact .inl hn
  · refine .inr ⟨g, cap, cur, rfl, hB, ?_, rest⟩
    rw [hb.block g (by omega) (Array.getElem?_eq_some_iff.1 hgg).1]
    exact hgg
theorem But.andGrown {q : Nat} {W V V' : World} {row : Option Nat} (h : But q W V) (hg : V.grownBy V' row) (hr : ∀ k, row = some k → W.heap.size ≤ k) (hq : q < W.heap.size := by omega) : But q W V' :=
  ⟨h.below.trans (below_grown (Below.refl _ _) hg (fun k e => by have := hr k e; omega) (by have := h.below.size; omega)), fun i hi hlt => (hg.block i (by have := h.below.size; omega) (fun e => by have := hr i e.symm; omega)).trans (h.block i hi hlt)⟩
section
variable {ops : Array Oper} {ac : Act} {K : Act → World → Prop} {Q : Exit → Act → World → Prop} {E : Prop} {ty : TypeId} {ps : String} {af : Array Edge}
theorem st_buildB (W : World) (d t : Nat) (e : LBase) (hx : ac.tmps[t]?.getD undef = .agg #[.int .i64 e.id, .int .i64 e.ver])
    (h : ∀ q W', q = W.heap.size → Below W.heap.size W W' → (∀ j u, (baseCells [e])[j]? = some u → W'.cell? ((⟨q, 0, none⟩ : Addr).add j) = some u) → K (ac.put (some d) (.slice (some ⟨q, 0, none⟩) 1 1)) W') :
    if Region.wanted { dst := some d, op := .buildSlice 26 1 #[(0, .tmp t)], type := ty, pos := ps, after := af, guard := none } (yielded ops ac.tmps) = true then Oper.wp Try.prog { dst := some d, op := .buildSlice 26 1 #[(0, .tmp t)], type := ty, pos := ps, after := af, guard := none } ac W K Q else E := by
  rw [if_pos (by simp [Region.wanted])]
  have := h W.heap.size (W.alloc (.cells #[.int .i64 e.id, .int .i64 e.ver] 40)) rfl ((Below.refl _ _).alloc (Nat.le_refl _) _) (fun j u hj => base_at hj rfl)
  unfold Oper.wp
  go_simp
  exact this
theorem st_appB (W : World) (d ts tx B : Nat) (u : Value) (l : List LBase) (e : LBase) (hown : OwnBases W B u l) (ad : Addr) (hs' : ac.eval (.tmp ts) = u) (hx' : ac.eval (.tmp tx) = .slice (some ad) 1 1)
    (hnews : ∀ j u, (baseCells [e])[j]? = some u → W.cell? (ad.add j) = some u) (hbd : l.length + 1 ≤ 1000000) (hB : B ≤ W.heap.size)
    (h : ∀ v W', AppBEnd W W' B u v (l ++ [e]) → K (ac.put (some d) v) W') :
    if Region.wanted { dst := some d, op := .call { callee := .builtin .append, args := #[.tmp ts, .tmp tx], argTypes := #[26, 26] }, type := ty, pos := ps, after := af, guard := none } (yielded ops ac.tmps) = true then Oper.wp Try.prog { dst := some d, op := .call { callee := .builtin .append, args := #[.tmp ts, .tmp tx], argTypes := #[26, 26] }, type := ty, pos := ps, after := af, guard := none } ac W K Q else E := by
  rw [if_pos (by simp [Region.wanted])]
  obtain ⟨v', w', hr, h2⟩ := run_app_base W ty B u l e hown ad hnews hbd hB
  unfold Oper.wp execOp
  simp only [resolve, invoke, builtin, Sem.run_bind, Sem.run_pure, Result.andThen_ok, List.map_toArray, List.map_cons, List.map_nil, hs', hx', hr]
  exact h v' w' h2
end

set_option maxHeartbeats 2000000 in
set_option maxRecDepth 20000 in
theorem specLogMake (ta : Option Addr) (tn tc : Nat) (os : List LObj) (TL TU : Nat) (q s : Int) (a : Option Addr) (n c : Nat) (ops : List LOp) (L U : Nat) (w : World) (hT : TU ≤ w.heap.size) (hU : U ≤ w.heap.size) (hSz : Sizes os 1048576) (HT : ObjsAt w TL TU ta tn os) (H : OpsAt w L U a n ops) :
    Calls Try.prog 21 #[.agg #[.slice ta tn tc], .int .i64 q, .int .i64 s, .slice a n c] w (MakeEnd w (logMake os q s ops)) := by
  obtain ⟨w0, hw0⟩ : ∃ W : World, W = ((w.alloc (Obj.cells #[.slice ta tn tc] 25)).alloc (Obj.cells #[.int .i64 0, .int .i64 0, .slice none 0 0, .slice none 0 0] 29)).alloc (Obj.cells #[.int .i64 q, .int .i64 s, .slice none 0 0, .slice none 0 0] 29) := ⟨_, rfl⟩
  have hA : Below w.heap.size w w0 := by rw [hw0]; exact (((Below.refl _ _).alloc (Nat.le_refl _) _).alloc (by simp) _).alloc (by simp; omega) _
  have t0 : w0.cell? ⟨w.heap.size, 0, none⟩ = some (.slice ta tn tc) := by rw [hw0]; simp [go_sem]
  have HX : Hid (w0.rowIs (w.heap.size + 1) 29 4 (zrow #[.int .i64 0, .int .i64 0, .slice none 0 0, .slice none 0 0])) := by
    have := (zrow_new (w.alloc (Obj.cells #[.slice ta tn tc] 25)) #[.int .i64 0, .int .i64 0, .slice none 0 0, .slice none 0 0] 29).alloc (Obj.cells #[.int .i64 q, .int .i64 s, .slice none 0 0, .slice none 0 0] 29)
    show World.rowIs _ _ _ _ _
    rw [hw0]
    simpa using this
  have HY : Hid (w0.rowIs (w.heap.size + 2) 29 4 (zrow #[.int .i64 q, .int .i64 s, .slice none 0 0, .slice none 0 0])) := by
    have := zrow_new ((w.alloc (Obj.cells #[.slice ta tn tc] 25)).alloc (Obj.cells #[.int .i64 0, .int .i64 0, .slice none 0 0, .slice none 0 0] 29)) #[.int .i64 q, .int .i64 s, .slice none 0 0, .slice none 0 0] 29
    show World.rowIs _ _ _ _ _
    rw [hw0]
    simpa using this
  have hz0 : w0.heap.size = w.heap.size + 3 := by rw [hw0]; simp
  go_enter Try.func21, Try.ntmps21
  go_upto_region 2 with fail
  rw [← hw0]
  clear hw0
  go_wp2_with fail
  refine (specTreeOk _ _ _ os TL TU _ hSz (by omega) (HT.below hA hT)).mono ?_
  rintro e w1 ⟨rfl, hb1⟩
  have hz1 := hb1.size
  have hB1 : Below w.heap.size w w1 := hA.trans (hb1.mono hA.size)
  rcases ho : specOk os with _ | _
  · have HV : Hid (logMake os q s ops = ⟨0, 0, [], []⟩) := by show _ = _; simp [logMake, ho]
    have hr := HX.out.of_block (hb1.block _ (by omega))
    have e0 := hr.cell (i := 0) (by omega)
    have e1 := hr.cell (i := 1) (by omega)
    have e2 := hr.cell (i := 2) (by omega)
    have e3 := hr.cell (i := 3) (by omega)
    simp [zrow] at e0 e1 e2 e3
    have f1 : ∀ o, w1.frozen? ⟨w.heap.size + 1, o, none⟩ = false := fun o => hr.frozen o
    clear HX HY hr
    go_wp2_with fail
    refine bodyPost_ret (v := .agg #[.int .i64 0, .int .i64 0, .slice none 0 0, .slice none 0 0]) (by simp [results, Try.results21, go_sem, e0, e1, e2, e3]) rfl ?_
    rw [HV.out]
    exact ⟨⟨_, _, rfl, OwnBases.bare _ _, OwnOps.nil_ _ _⟩, by repeat (first | exact hB1 | refine Below.setCell ?_ (by simp <;> omega) _)⟩
  go_wp2_with fail
  refine (forms_any _ _ _ ops L U _ (by omega) (H.below hB1 hU)).mono ?_
  rintro e w2 ⟨rfl, hb2⟩
  have hz2 := hb2.size
  have hB2 : Below w.heap.size w w2 := hB1.trans (hb2.mono hB1.size)
  have hb02 : Below w0.heap.size w0 w2 := hb1.trans (hb2.mono hz1)
  rcases hf : formsB ops with _ | _
  · have HV : Hid (logMake os q s ops = ⟨0, 0, [], []⟩) := by show _ = _; simp [logMake, hf]
    have hr := HX.out.of_block (hb02.block _ (by omega))
    have e0 := hr.cell (i := 0) (by omega)
    have e1 := hr.cell (i := 1) (by omega)
    have e2 := hr.cell (i := 2) (by omega)
    have e3 := hr.cell (i := 3) (by omega)
    simp [zrow] at e0 e1 e2 e3
    have f1 : ∀ o, w2.frozen? ⟨w.heap.size + 1, o, none⟩ = false := fun o => hr.frozen o
    clear HX HY hr
    go_wp2_with fail
    refine bodyPost_ret (v := .agg #[.int .i64 0, .int .i64 0, .slice none 0 0, .slice none 0 0]) (by simp [results, Try.results21, go_sem, e0, e1, e2, e3]) rfl ?_
    rw [HV.out]
    exact ⟨⟨_, _, rfl, OwnBases.bare _ _, OwnOps.nil_ _ _⟩, by repeat (first | exact hB2 | refine Below.setCell ?_ (by simp <;> omega) _)⟩
  have HV0 : Hid (logMake os q s ops = ⟨q, s, basesL os (logIds ops), ops⟩) := by show _ = _; simp [logMake, ho, hf]
  have hn60 : n ≤ 60 := by rw [H.len]; exact formsB_len hf
  have h32 : tn = 32 := by rw [HT.len, specOk_32 ho]
  have t2 : w2.cell? ⟨w.heap.size, 0, none⟩ = some (.slice ta tn tc) := by rw [hb02.cell (by simp; omega)]; exact t0
  have HX2 : Hid (w2.rowIs (w.heap.size + 1) 29 4 (zrow #[.int .i64 0, .int .i64 0, .slice none 0 0, .slice none 0 0])) := HX.out.of_block (hb02.block _ (by omega))
  have HY2 : Hid (w2.rowIs (w.heap.size + 2) 29 4 (zrow #[.int .i64 q, .int .i64 s, .slice none 0 0, .slice none 0 0])) := HY.out.of_block (hb02.block _ (by omega))
  have e3 : w2.cell? ⟨w.heap.size + 2, 3, none⟩ = some (.slice none 0 0) := by rw [HY2.out.cell (by omega)]; rfl
  have f3 : w2.frozen? ⟨w.heap.size + 2, 3, none⟩ = false := HY2.out.frozen 3
  clear hb1 hb2 ho hf t0 hB1 HX HY hb02
  subst h32
  have hE0 : OwnOps (w2.alloc (Obj.cells #[] 99)) w2.heap.size (.slice (some ⟨w2.heap.size, 0, none⟩) 0 0) [] := OwnOps.empty w2 _ (Nat.le_refl _)
  have hA2 : Below w.heap.size w (w2.alloc (Obj.cells #[] 99)) := hB2.alloc hB2.size _
  go_wp2_with (first
    | (at_builtin; refine wpList_app_all _ rfl (.tmp 24) (.tmp 25) rfl w2.heap.size _ [] ops hE0 a n c L U (H.below hA2 hU) rfl rfl ?c2 ?c3 ?_)
    | go_in)
  case c2 => simp; omega
  case c3 => simp
  intro v3 w3 hE3
  obtain ⟨a3, c3, hv3⟩ := OwnOps.formS hE3.own
  subst hv3
  have hlt2 : w.heap.size + 2 < w2.heap.size := by omega
  have hgr : ∀ b, b < w2.heap.size → w3.heap[b]? = w2.heap[b]? := fun b hb => by
    rw [hE3.grown.block b (by simp; omega) (by simp [Value.ownBlock]; omega)]
    exact ((Below.refl w2.heap.size w2).alloc (Nat.le_refl _) _).block b hb
  have HX3 := HX2.out.of_block (hgr _ (by omega))
  have HY3 := HY2.out.of_block (hgr _ hlt2)
  have hB3 : Below w.heap.size w w3 := below_grown hA2 hE3.grown (fun k e => by simp [Value.ownBlock] at e; omega) (by simp; omega)
  have g3 : w3.cell? ⟨w.heap.size + 2, 3, none⟩ = some (.slice none 0 0) := by rw [HY3.cell (by omega)]; rfl
  have gf3 : w3.frozen? ⟨w.heap.size + 2, 3, none⟩ = false := HY3.frozen 3
  have hz3 : w2.heap.size ≤ w3.heap.size := by have h9 := hE3.grown.size; simp only [World.alloc] at h9; simp at h9; omega
  have HO3 : Hid (OwnOps w3 w2.heap.size (.slice a3 ops.length c3) ops) := hE3.own
  have t3 : w3.cell? ⟨w.heap.size, 0, none⟩ = some (.slice ta 32 tc) := by rw [World.cell?_of_block (w := w2) (hgr w.heap.size (by omega))]; exact t2
  obtain ⟨W4, hW4⟩ : ∃ W : World, W = w3.setCell ⟨w.heap.size + 2, 3, none⟩ (.slice a3 ops.length c3) := ⟨_, rfl⟩
  have HX4 : Hid (W4.rowIs (w.heap.size + 1) 29 4 (zrow #[.int .i64 0, .int .i64 0, .slice none 0 0, .slice none 0 0])) := by
    show World.rowIs _ _ _ _ _
    rw [hW4]
    exact HX3.of_block (Below.heap_setCell w3 _ _ _ (by simp))
  have HY4 : Hid (W4.rowIs (w.heap.size + 2) 29 4 (zrow #[.int .i64 q, .int .i64 s, .slice none 0 0, .slice a3 ops.length c3])) := by
    show World.rowIs _ _ _ _ _
    rw [hW4]
    exact (HY3.set 3 _).congr (fun i hi => by rcases i with _ | _ | _ | _ | i <;> first | rfl | omega)
  have HO4 : Hid (OwnOps W4 w2.heap.size (.slice a3 ops.length c3) ops) := by
    show OwnOps _ _ _ _
    rw [hW4]
    exact HO3.out.setLow _ _ (by simpa using hlt2)
  have hB4 : Below w.heap.size w W4 := by rw [hW4]; exact hB3.setCell (by simp) _
  have hz4 : W4.heap.size = w3.heap.size := by rw [hW4]; simp
  have t4 : W4.cell? ⟨w.heap.size, 0, none⟩ = some (.slice ta 32 tc) := by rw [hW4, World.cell?_of_block (w := w3) (Below.heap_setCell w3 _ _ _ (by simp))]; exact t3
  clear hE3 HX3 HY3 HO3 hgr hB3 hE0 hA2 HX2 HY2 t2 t3 e3 f3
  go_wp2_with fail
  rw [← hW4]
  clear hW4 g3 gf3
  refine (specLogIds _ _ _ ops L U _ (by omega) (H.below hB4 hU)).mono ?_
  rintro e W5 ⟨⟨v5, rfl, hv5⟩, hb5⟩
  obtain ⟨ai, ci, rfl, hI⟩ := hv5.out.at_
  have hle := logIds_le ops
  have hbd32 := logIds_bd ops
  obtain ⟨ids, hids⟩ : ∃ ids, ids = logIds ops := ⟨_, rfl⟩
  rw [← hids] at hI hle hbd32 ⊢
  have HBD : Hid (∀ i ∈ ids, i < 32) := hbd32
  have HI : Hid (IntsAt W5 W4.heap.size W5.heap.size ai ids.length ids) := hI
  have HIDS : Hid (ids = logIds ops) := hids
  have HX5 : Hid (W5.rowIs (w.heap.size + 1) 29 4 (zrow #[.int .i64 0, .int .i64 0, .slice none 0 0, .slice none 0 0])) := HX4.out.of_block (hb5.block _ (by omega))
  have HY5 : Hid (W5.rowIs (w.heap.size + 2) 29 4 (zrow #[.int .i64 q, .int .i64 s, .slice none 0 0, .slice a3 ops.length c3])) := HY4.out.of_block (hb5.block _ (by omega))
  have HO5 : Hid (OwnOps W5 w2.heap.size (.slice a3 ops.length c3) ops) := HO4.out.next hb5
  have t5 : W5.cell? ⟨w.heap.size, 0, none⟩ = some (.slice ta 32 tc) := by rw [hb5.cell (by simp; omega)]; exact t4
  have hB5 : Below w.heap.size w W5 := hB4.trans (hb5.mono hB4.size)
  have hz5 := hb5.size
  clear hv5 hb5 hI hids hbd32 HX4 HY4 HO4 t4 hB4
  obtain ⟨tb, toff, rfl, hTL, hTU, htc⟩ := HT.at_ (by omega)
  go_wp2_with fail
  go_loopg [11] ids.length (fun g i wr => ∃ j : Nat, j ≤ ids.length ∧ Hid (g = ids.length - j) ∧ i = .int .i64 j ∧ (∃ a1 n1 c1, Hid (wr.rowIs (w.heap.size + 2) 29 4 (zrow #[.int .i64 q, .int .i64 s, .slice a1 n1 c1, .slice a3 ops.length c3])) ∧ Hid (OwnBases wr W5.heap.size (.slice a1 n1 c1) (basesL os (ids.take j)))) ∧ But (w.heap.size + 2) W5 wr)
  case atStart => exact ⟨0, Nat.zero_le _, rfl, rfl, ⟨none, 0, 0, HY5.out, OwnBases.bare _ _⟩, But.refl _ _⟩
  case round =>
    obtain ⟨j, hj, hk, rfl, ⟨a1, n1, c1, hrow0, hown0⟩, hQ0⟩ := hrel
    have hzr := hQ0.below.size
    by_cases hlt : j < ids.length
    · obtain ⟨gi, x, rfl, hg1, hg2, hx, cx⟩ := HI.out.2 j hlt
      have hx32 : x < 32 := HBD.out x (List.mem_of_getElem? hx)
      obtain ⟨o, ka, kn, kc, hoi, _, _, g1, _⟩ := htc x (by omega)
      have HV : Hid (basesL os (ids.take (j + 1)) = basesL os (ids.take j) ++ [⟨(x : Int), o.ver⟩]) := by
        show _ = _
        rw [basesL_snoc hx]
        simp [verAt, hoi]
      rw [← hB5.cell (by simp; omega)] at g1
      have g5 := g1
      have cx5 := cx
      rw [← hQ0.cell (by simp; omega) (by simp; omega)] at g1
      rw [← hQ0.cell (by simp; omega) (by simpa using hg2)] at cx
      have t1 : wr.cell? ⟨w.heap.size, 0, none⟩ = some (.slice (some ⟨tb, toff, none⟩) 32 tc) := by rw [hQ0.cell (by simp) (by simp; omega)]; exact t5
      have hlt' : (j : Int) < (ids.length : Int) := by omega
      have hx32' : (x : Int) < 32 := by omega
      have hlen : (basesL os (ids.take j)).length ≤ 32 := by rw [basesL_len]; simp; omega
      obtain ⟨lst, hlst⟩ : ∃ v : Value, v = .slice a3 ops.length c3 := ⟨_, rfl⟩
      rw [← hlst] at hrow0
      clear hx hoi
      go_upto_block 1 with fail
      go_cut [] (fun wx => ∃ a1 n1 c1, wx.rowIs (w.heap.size + 2) 29 4 (zrow #[.int .i64 q, .int .i64 s, .slice a1 n1 c1, lst]) ∧ OwnBases wx W5.heap.size (.slice a1 n1 c1) (basesL os (ids.take (j + 1))) ∧ But (w.heap.size + 2) W5 wx)
      case first =>
        go_upto_region 9 with fail
        refine wp_region_held_drew (S := (fun W => W.cell? ⟨gi, j, none⟩ = some (.int .i64 (x : Int)) ∧ W.cell? ⟨w.heap.size, 0, none⟩ = some (.slice (some ⟨tb, toff, none⟩) 32 tc) ∧ W.cell? ⟨tb, toff + x * 4 + 1, none⟩ = some (.int .i64 o.ver))) (by kernel_rfl) ?_ (fun hHeld => ?_)
        · exact ⟨cx, t1, g1⟩
        refine listH (l2 := #[false, false, false, false, false, false, false, false, false, false, false, false, false, false, false, false, false, false, false, false]) (by kernel_rfl) ?_
        have hQ : But (w.heap.size + 2) W5 wr.drew := hQ0.next (by have := hQ0.below.size; omega) (Below.refl _ _).drew
        have hrow : wr.drew.rowIs (w.heap.size + 2) 29 4 (zrow #[.int .i64 q, .int .i64 s, .slice a1 n1 c1, lst]) := hrow0.out
        have hown : OwnBases wr.drew W5.heap.size (.slice a1 n1 c1) (basesL os (ids.take j)) := hown0.out
        refine takeH (i := 0) (oi := _) (v := ?vk1) 36 #[true, false, false, false, false, false, false, false, false, false, false, false, false, false, false, false, false, false, false, false] rfl (by kernel_rfl) (by kernel_rfl) (by kernel_rfl) rfl (by kernel_rfl) (fun _ _ _ h => h) (Or.inl ⟨by rfl, ?yk1⟩) (by assumption) ?rk1
        case yk1 => (intro w' hSw; obtain ⟨cx, tx, g1⟩ := hSw; go_simp; try with_reducible rfl)
        simp only [Act.put, List.setIfInBounds_toArray, List.set_cons_succ, List.set_cons_zero]
        refine takeH (i := 2) (oi := _) (v := ?vk2) 38 #[true, false, true, false, false, false, false, false, false, false, false, false, false, false, false, false, false, false, false, false] rfl (by kernel_rfl) (by kernel_rfl) (by kernel_rfl) rfl (by kernel_rfl) (fun _ _ _ h => h) (Or.inl ⟨by rfl, ?yk2⟩) (by assumption) ?rk2
        case yk2 => (intro w' hSw; obtain ⟨cx, tx, g1⟩ := hSw; go_simp; try with_reducible rfl)
        simp only [Act.put, List.setIfInBounds_toArray, List.set_cons_succ, List.set_cons_zero]
        refine takeH (i := 3) (oi := _) (v := ?vk3) 39 #[true, false, true, true, false, false, false, false, false, false, false, false, false, false, false, false, false, false, false, false] rfl (by kernel_rfl) (by kernel_rfl) (by kernel_rfl) rfl (by kernel_rfl) (fun _ _ _ h => h) (Or.inl ⟨by rfl, ?yk3⟩) (by assumption) ?rk3
        case yk3 => (intro w' hSw; obtain ⟨cx, tx, g1⟩ := hSw; go_simp; try with_reducible rfl)
        simp only [Act.put, List.setIfInBounds_toArray, List.set_cons_succ, List.set_cons_zero]
        refine takeH (i := 4) (oi := _) (v := ?vk4) 40 #[true, false, true, true, true, false, false, false, false, false, false, false, false, false, false, false, false, false, false, false] rfl (by kernel_rfl) (by kernel_rfl) (by kernel_rfl) rfl (by kernel_rfl) (fun _ _ _ h => h) (Or.inl ⟨by rfl, ?yk4⟩) (by assumption) ?rk4
        case yk4 => (intro w' hSw; obtain ⟨cx, tx, g1⟩ := hSw; go_simp; try with_reducible rfl)
        simp only [Act.put, List.setIfInBounds_toArray, List.set_cons_succ, List.set_cons_zero]
        refine takeH (i := 5) (oi := _) (v := ?vk5) 41 #[true, false, true, true, true, true, false, false, false, false, false, false, false, false, false, false, false, false, false, false] rfl (by kernel_rfl) (by kernel_rfl) (by kernel_rfl) rfl (by kernel_rfl) (fun _ _ _ h => h) (Or.inl ⟨by rfl, ?yk5⟩) (by assumption) ?rk5
        case yk5 => (intro w' hSw; obtain ⟨cx, tx, g1⟩ := hSw; go_simp; try with_reducible rfl)
        simp only [Act.put, List.setIfInBounds_toArray, List.set_cons_succ, List.set_cons_zero]
        refine takeH (i := 6) (oi := _) (v := ?vk6) 42 #[true, false, true, true, true, true, true, false, false, false, false, false, false, false, false, false, false, false, false, false] rfl (by kernel_rfl) (by kernel_rfl) (by kernel_rfl) rfl (by kernel_rfl) (fun _ _ _ h => h) (Or.inl ⟨by rfl, ?yk6⟩) (by assumption) ?rk6
        case yk6 => (intro w' hSw; obtain ⟨cx, tx, g1⟩ := hSw; go_simp; try with_reducible rfl)
        simp only [Act.put, List.setIfInBounds_toArray, List.set_cons_succ, List.set_cons_zero]
        refine takeH (i := 7) (oi := _) (v := ?vk7) 43 #[true, false, true, true, true, true, true, true, false, false, false, false, false, false, false, false, false, false, false, false] rfl (by kernel_rfl) (by kernel_rfl) (by kernel_rfl) rfl (by kernel_rfl) (fun _ _ _ h => h) (Or.inl ⟨by rfl, ?yk7⟩) (by assumption) ?rk7
        case yk7 => (intro w' hSw; obtain ⟨cx, tx, g1⟩ := hSw; go_simp; try with_reducible rfl)
        simp only [Act.put, List.setIfInBounds_toArray, List.set_cons_succ, List.set_cons_zero]
        refine takeH (i := 8) (oi := _) (v := ?vk8) 44 #[true, false, true, true, true, true, true, true, true, false, false, false, false, false, false, false, false, false, false, false] rfl (by kernel_rfl) (by kernel_rfl) (by kernel_rfl) rfl (by kernel_rfl) (fun _ _ _ h => h) (Or.inl ⟨by rfl, ?yk8⟩) (by assumption) ?rk8
        case yk8 => (intro w' hSw; obtain ⟨cx, tx, g1⟩ := hSw; go_simp; try with_reducible rfl)
        simp only [Act.put, List.setIfInBounds_toArray, List.set_cons_succ, List.set_cons_zero]
        refine takeH (i := 9) (oi := _) (v := ?vk9) 45 #[true, false, true, true, true, true, true, true, true, true, false, false, false, false, false, false, false, false, false, false] rfl (by kernel_rfl) (by kernel_rfl) (by kernel_rfl) rfl (by kernel_rfl) (fun _ _ _ h => h) (Or.inl ⟨by rfl, ?yk9⟩) (by assumption) ?rk9
        case yk9 => (intro w' hSw; obtain ⟨cx, tx, g1⟩ := hSw; go_simp; try with_reducible rfl)
        simp only [Act.put, List.setIfInBounds_toArray, List.set_cons_succ, List.set_cons_zero]
        refine takeH (i := 10) (oi := _) (v := ?vk10) 46 #[true, false, true, true, true, true, true, true, true, true, true, false, false, false, false, false, false, false, false, false] rfl (by kernel_rfl) (by kernel_rfl) (by kernel_rfl) rfl (by kernel_rfl) (fun _ _ _ h => h) (Or.inl ⟨by rfl, ?yk10⟩) (by assumption) ?rk10
        case yk10 => (intro w' hSw; obtain ⟨cx, tx, g1⟩ := hSw; go_simp; try with_reducible rfl)
        simp only [Act.put, List.setIfInBounds_toArray, List.set_cons_succ, List.set_cons_zero]
        refine takeH (i := 11) (oi := _) (v := ?vk11) 47 #[true, false, true, true, true, true, true, true, true, true, true, true, false, false, false, false, false, false, false, false] rfl (by kernel_rfl) (by kernel_rfl) (by kernel_rfl) rfl (by kernel_rfl) (fun _ _ _ h => h) (Or.inl ⟨by rfl, ?yk11⟩) (by assumption) ?rk11
        case yk11 => (intro w' hSw; obtain ⟨cx, tx, g1⟩ := hSw; go_simp; try with_reducible rfl)
        simp only [Act.put, List.setIfInBounds_toArray, List.set_cons_succ, List.set_cons_zero]
        refine takeH (i := 12) (oi := _) (v := ?vk12) 48 #[true, false, true, true, true, true, true, true, true, true, true, true, true, false, false, false, false, false, false, false] rfl (by kernel_rfl) (by kernel_rfl) (by kernel_rfl) rfl (by kernel_rfl) (fun _ _ _ h => h) (Or.inl ⟨by rfl, ?yk12⟩) (by assumption) ?rk12
        case yk12 => (intro w' hSw; obtain ⟨cx, tx, g1⟩ := hSw; go_simp; try with_reducible rfl)
        simp only [Act.put, List.setIfInBounds_toArray, List.set_cons_succ, List.set_cons_zero]
        refine takeH (i := 13) (oi := _) (v := ?vk13) 49 #[true, false, true, true, true, true, true, true, true, true, true, true, true, true, false, false, false, false, false, false] rfl (by kernel_rfl) (by kernel_rfl) (by kernel_rfl) rfl (by kernel_rfl) (fun _ _ _ h => h) (Or.inl ⟨by rfl, ?yk13⟩) (by assumption) ?rk13
        case yk13 => (intro w' hSw; obtain ⟨cx, tx, g1⟩ := hSw; go_simp; try with_reducible rfl)
        simp only [Act.put, List.setIfInBounds_toArray, List.set_cons_succ, List.set_cons_zero]
        refine takeH (i := 14) (oi := _) (v := ?vk14) 50 #[true, false, true, true, true, true, true, true, true, true, true, true, true, true, true, false, false, false, false, false] rfl (by kernel_rfl) (by kernel_rfl) (by kernel_rfl) rfl (by kernel_rfl) (fun _ _ _ h => h) (Or.inl ⟨by rfl, ?yk14⟩) (by assumption) ?rk14
        case yk14 => (intro w' hSw; obtain ⟨cx, tx, g1⟩ := hSw; go_simp; try with_reducible rfl)
        simp only [Act.put, List.setIfInBounds_toArray, List.set_cons_succ, List.set_cons_zero]
        refine takeH (i := 15) (oi := _) (v := ?vk15) 51 #[true, false, true, true, true, true, true, true, true, true, true, true, true, true, true, true, false, false, false, false] rfl (by kernel_rfl) (by kernel_rfl) (by kernel_rfl) rfl (by kernel_rfl) (fun _ _ _ h => h) (Or.inl ⟨by rfl, ?yk15⟩) (by assumption) ?rk15
        case yk15 => (intro w' hSw; obtain ⟨cx, tx, g1⟩ := hSw; go_simp; try with_reducible rfl)
        simp only [Act.put, List.setIfInBounds_toArray, List.set_cons_succ, List.set_cons_zero]
        refine wpAnyH_ready (rs := [1, 16]) (by kernel_rfl) (by simp) ?_
        refine AllReadyH.cons (o := _) rfl (fun K hK => ?_) (AllReadyH.cons (o := _) rfl (fun K hK => ?_) AllReadyH.nil)
        · have c2 := hrow.cell (i := 2) (by omega)
          simp only [zrow] at c2
          go_simp
          refine hK.out _ _ (⟨by rw [hQ.cell (by simp <;> omega) (by simp <;> omega)]; exact cx5, by rw [hQ.cell (by simp <;> omega) (by simp <;> omega)]; exact t5, by rw [hQ.cell (by simp <;> omega) (by simp <;> omega)]; exact g5⟩) (fun hHeld => ?_)
          clear hK K
          simp only [List.setIfInBounds_toArray, List.set_cons_succ, List.set_cons_zero]
          refine listH (l2 := #[true, true, true, true, true, true, true, true, true, true, true, true, true, true, true, true, false, false, false, false]) (by kernel_rfl) ?_
          refine wpAnyH_ready (rs := [16]) (by kernel_rfl) (by simp) ?_
          refine AllReadyH.cons (o := _) rfl (fun K hK => ?_) AllReadyH.nil
          refine st_buildB _ 52 51 ⟨(x : Int), o.ver⟩ rfl ?_
          intro q16 V16 hq16 hb16 hnw
          clear hq16
          have hQ := hQ.next (by have := hQ.below.size; omega) hb16
          have hrow := hrow.of_block (hb16.block _ hrow.lt)
          have hown := hown.next hb16
          refine hK.out _ _ (⟨by rw [hQ.cell (by simp <;> omega) (by simp <;> omega)]; exact cx5, by rw [hQ.cell (by simp <;> omega) (by simp <;> omega)]; exact t5, by rw [hQ.cell (by simp <;> omega) (by simp <;> omega)]; exact g5⟩) (fun hHeld => ?_)
          clear hK K
          simp only [Act.put, List.setIfInBounds_toArray, List.set_cons_succ, List.set_cons_zero]
          refine listH (l2 := #[true, true, true, true, true, true, true, true, true, true, true, true, true, true, true, true, true, false, false, false]) (by kernel_rfl) ?_
          refine wpAnyH_ready (rs := [17]) (by kernel_rfl) (by simp) ?_
          refine AllReadyH.cons (o := _) rfl (fun K hK => ?_) AllReadyH.nil
          refine st_appB _ 53 37 52 W5.heap.size _ (basesL os (ids.take j)) ⟨(x : Int), o.ver⟩ hown ⟨q16, 0, none⟩ rfl rfl hnw (by omega) (by have := hQ.below.size; omega) ?_
          intro v17 V17 hE
          have hrow := hrow.of_block (hE.grown.block _ hrow.lt (fun e => by have := (hown.lt _ e.symm).1; omega))
          have hQ : But (w.heap.size + 2) W5 V17 := hQ.andGrown hE.grown (fun k e => (hown.lt k e).1)
          have hown : OwnBases V17 W5.heap.size v17 (basesL os (ids.take (j + 1))) := by rw [HV.out]; exact hE.own
          obtain ⟨a17, c17, hv17⟩ := hown.form
          subst hv17
          clear hE hnw
          refine hK.out _ _ (⟨by rw [hQ.cell (by simp <;> omega) (by simp <;> omega)]; exact cx5, by rw [hQ.cell (by simp <;> omega) (by simp <;> omega)]; exact t5, by rw [hQ.cell (by simp <;> omega) (by simp <;> omega)]; exact g5⟩) (fun hHeld => ?_)
          clear hK K
          simp only [Act.put, List.setIfInBounds_toArray, List.set_cons_succ, List.set_cons_zero]
          refine listH (l2 := #[true, true, true, true, true, true, true, true, true, true, true, true, true, true, true, true, true, true, false, false]) (by kernel_rfl) ?_
          refine takeH (i := 18) (oi := _) (v := ?vk16) 54 #[true, true, true, true, true, true, true, true, true, true, true, true, true, true, true, true, true, true, true, false] rfl (by kernel_rfl) (by kernel_rfl) (by kernel_rfl) rfl (by kernel_rfl) (fun _ _ _ h => h) (Or.inl ⟨by rfl, ?yk16⟩) (by assumption) ?rk16
          case yk16 => (intro w' hSw; obtain ⟨cx, tx, g1⟩ := hSw; go_simp; try with_reducible rfl)
          simp only [Act.put, List.setIfInBounds_toArray, List.set_cons_succ, List.set_cons_zero]
          refine wpAnyH_ready (rs := [19]) (by kernel_rfl) (by simp) ?_
          refine AllReadyH.cons (o := _) rfl (fun K hK => ?_) AllReadyH.nil
          have c2 := hrow.cell (i := 2) (by omega)
          simp only [zrow] at c2
          have z2 := hrow.frozen 2
          have hrow2 := hrow.set 2 (.slice a17 (basesL os (ids.take (j + 1))).length c17)
          have hown := hown.setLow ⟨w.heap.size + 2, 2, none⟩ (.slice a17 (basesL os (ids.take (j + 1))).length c17) (by simp; omega)
          have hQ := hQ.set 2 (.slice a17 (basesL os (ids.take (j + 1))).length c17)
          go_simp
          refine hK.out _ _ (⟨by rw [hQ.cell (by simp <;> omega) (by simp <;> omega)]; exact cx5, by rw [hQ.cell (by simp <;> omega) (by simp <;> omega)]; exact t5, by rw [hQ.cell (by simp <;> omega) (by simp <;> omega)]; exact g5⟩) (fun hHeld => ?_)
          clear hK K
          try simp only [Act.put]
          refine wpAnyH_done (by kernel_rfl) ?_ _
          go_wp2_with fail
          go_meet
          exact ⟨a17, _, c17, hrow2.congr (fun i hi => by rcases i with _ | _ | _ | _ | i <;> first | rfl | omega), hown, hQ⟩
        · refine st_buildB _ 52 51 ⟨(x : Int), o.ver⟩ rfl ?_
          intro q16 V16 hq16 hb16 hnw
          clear hq16
          have hQ := hQ.next (by have := hQ.below.size; omega) hb16
          have hrow := hrow.of_block (hb16.block _ hrow.lt)
          have hown := hown.next hb16
          refine hK.out _ _ (⟨by rw [hQ.cell (by simp <;> omega) (by simp <;> omega)]; exact cx5, by rw [hQ.cell (by simp <;> omega) (by simp <;> omega)]; exact t5, by rw [hQ.cell (by simp <;> omega) (by simp <;> omega)]; exact g5⟩) (fun hHeld => ?_)
          clear hK K
          simp only [Act.put, List.setIfInBounds_toArray, List.set_cons_succ, List.set_cons_zero]
          refine listH (l2 := #[true, false, true, true, true, true, true, true, true, true, true, true, true, true, true, true, true, false, false, false]) (by kernel_rfl) ?_
          refine wpAnyH_ready (rs := [1]) (by kernel_rfl) (by simp) ?_
          refine AllReadyH.cons (o := _) rfl (fun K hK => ?_) AllReadyH.nil
          have c2 := hrow.cell (i := 2) (by omega)
          simp only [zrow] at c2
          go_simp
          refine hK.out _ _ (⟨by rw [hQ.cell (by simp <;> omega) (by simp <;> omega)]; exact cx5, by rw [hQ.cell (by simp <;> omega) (by simp <;> omega)]; exact t5, by rw [hQ.cell (by simp <;> omega) (by simp <;> omega)]; exact g5⟩) (fun hHeld => ?_)
          clear hK K
          simp only [List.setIfInBounds_toArray, List.set_cons_succ, List.set_cons_zero]
          refine listH (l2 := #[true, true, true, true, true, true, true, true, true, true, true, true, true, true, true, true, true, false, false, false]) (by kernel_rfl) ?_
          refine wpAnyH_ready (rs := [17]) (by kernel_rfl) (by simp) ?_
          refine AllReadyH.cons (o := _) rfl (fun K hK => ?_) AllReadyH.nil
          refine st_appB _ 53 37 52 W5.heap.size _ (basesL os (ids.take j)) ⟨(x : Int), o.ver⟩ hown ⟨q16, 0, none⟩ rfl rfl hnw (by omega) (by have := hQ.below.size; omega) ?_
          intro v17 V17 hE
          have hrow := hrow.of_block (hE.grown.block _ hrow.lt (fun e => by have := (hown.lt _ e.symm).1; omega))
          have hQ : But (w.heap.size + 2) W5 V17 := hQ.andGrown hE.grown (fun k e => (hown.lt k e).1)
          have hown : OwnBases V17 W5.heap.size v17 (basesL os (ids.take (j + 1))) := by rw [HV.out]; exact hE.own
          obtain ⟨a17, c17, hv17⟩ := hown.form
          subst hv17
          clear hE hnw
          refine hK.out _ _ (⟨by rw [hQ.cell (by simp <;> omega) (by simp <;> omega)]; exact cx5, by rw [hQ.cell (by simp <;> omega) (by simp <;> omega)]; exact t5, by rw [hQ.cell (by simp <;> omega) (by simp <;> omega)]; exact g5⟩) (fun hHeld => ?_)
          clear hK K
          simp only [Act.put, List.setIfInBounds_toArray, List.set_cons_succ, List.set_cons_zero]
          refine listH (l2 := #[true, true, true, true, true, true, true, true, true, true, true, true, true, true, true, true, true, true, false, false]) (by kernel_rfl) ?_
          refine takeH (i := 18) (oi := _) (v := ?vk17) 54 #[true, true, true, true, true, true, true, true, true, true, true, true, true, true, true, true, true, true, true, false] rfl (by kernel_rfl) (by kernel_rfl) (by kernel_rfl) rfl (by kernel_rfl) (fun _ _ _ h => h) (Or.inl ⟨by rfl, ?yk17⟩) (by assumption) ?rk17
          case yk17 => (intro w' hSw; obtain ⟨cx, tx, g1⟩ := hSw; go_simp; try with_reducible rfl)
          simp only [Act.put, List.setIfInBounds_toArray, List.set_cons_succ, List.set_cons_zero]
          refine wpAnyH_ready (rs := [19]) (by kernel_rfl) (by simp) ?_
          refine AllReadyH.cons (o := _) rfl (fun K hK => ?_) AllReadyH.nil
          have c2 := hrow.cell (i := 2) (by omega)
          simp only [zrow] at c2
          have z2 := hrow.frozen 2
          have hrow2 := hrow.set 2 (.slice a17 (basesL os (ids.take (j + 1))).length c17)
          have hown := hown.setLow ⟨w.heap.size + 2, 2, none⟩ (.slice a17 (basesL os (ids.take (j + 1))).length c17) (by simp; omega)
          have hQ := hQ.set 2 (.slice a17 (basesL os (ids.take (j + 1))).length c17)
          go_simp
          refine hK.out _ _ (⟨by rw [hQ.cell (by simp <;> omega) (by simp <;> omega)]; exact cx5, by rw [hQ.cell (by simp <;> omega) (by simp <;> omega)]; exact t5, by rw [hQ.cell (by simp <;> omega) (by simp <;> omega)]; exact g5⟩) (fun hHeld => ?_)
          clear hK K
          try simp only [Act.put]
          refine wpAnyH_done (by kernel_rfl) ?_ _
          go_wp2_with fail
          go_meet
          exact ⟨a17, _, c17, hrow2.congr (fun i hi => by rcases i with _ | _ | _ | _ | i <;> first | rfl | omega), hown, hQ⟩
      obtain ⟨a2, n2, c2, hrow2, hown2, hQ2⟩ := hcut
      rw [hlst] at hrow2
      have HR2 : Hid (wc.rowIs (w.heap.size + 2) 29 4 (zrow #[.int .i64 q, .int .i64 s, .slice a2 n2 c2, .slice a3 ops.length c3])) := hrow2
      have HO2 : Hid (OwnBases wc W5.heap.size (.slice a2 n2 c2) (basesL os (ids.take (j + 1)))) := hown2
      clear hrow2 hown2 hown0 hrow0 hlst cx g1 t1
      go_wp2_with fail
      go_roundg (ids.length - (j + 1))
      case measure => have := hk.out; omega
      case rel => exact ⟨j + 1, by omega, rfl, by go_num, ⟨a2, n2, c2, HR2.out, HO2.out⟩, hQ2⟩
    · have hlt' : ¬ (j : Int) < (ids.length : Int) := by omega
      have HE : Hid (ids.take j = ids) := by show _ = _; rw [List.take_of_length_le (by omega)]
      have x0 := (HX5.out.of_block (hQ0.block _ (by omega) (by omega))).cell (i := 0) (by omega)
      have x1 := (HX5.out.of_block (hQ0.block _ (by omega) (by omega))).cell (i := 1) (by omega)
      have x2 := (HX5.out.of_block (hQ0.block _ (by omega) (by omega))).cell (i := 2) (by omega)
      have x3 := (HX5.out.of_block (hQ0.block _ (by omega) (by omega))).cell (i := 3) (by omega)
      have xf : ∀ o, wr.frozen? ⟨w.heap.size + 1, o, none⟩ = false := fun o => (HX5.out.of_block (hQ0.block _ (by omega) (by omega))).frozen o
      have y0 := hrow0.out.cell (i := 0) (by omega)
      have y1 := hrow0.out.cell (i := 1) (by omega)
      have y2 := hrow0.out.cell (i := 2) (by omega)
      have y3 := hrow0.out.cell (i := 3) (by omega)
      simp [zrow] at x0 x1 x2 x3 y0 y1 y2 y3
      have hO9 : OwnOps wr w2.heap.size (.slice a3 ops.length c3) ops := HO5.out.keepBut hQ0 (by omega)
      have hV9 := hown0.out
      rw [HE.out, HIDS.out] at hV9
      have hB9 : Below w.heap.size w wr := hB5.trans (hQ0.below.mono (by omega))
      clear HX5 HY5 HO5 hrow0 hown0
      go_wp2_with fail
      refine bodyPost_ret (v := .agg #[.int .i64 q, .int .i64 s, .slice a1 n1 c1, .slice a3 ops.length c3]) (by simp [results, Try.results21, go_sem, x0, x1, x2, x3]) rfl ?_
      rw [HV0.out]
      refine ⟨⟨_, _, rfl, OwnBases.base (B := W5.heap.size) ?_ (by omega), OwnOps.base (B := w2.heap.size) ?_ (by omega)⟩, ?_⟩
      · repeat (first | exact hV9 | refine OwnBases.setLow ?_ _ _ (by simp <;> omega))
      · repeat (first | exact hO9 | refine OwnOps.setLow ?_ _ _ (by simp <;> omega))
      · repeat (first | exact hB9 | refine Below.setCell ?_ (by simp <;> omega) _)
end Go.Proofs.Ytdjffkiiglilnaa
