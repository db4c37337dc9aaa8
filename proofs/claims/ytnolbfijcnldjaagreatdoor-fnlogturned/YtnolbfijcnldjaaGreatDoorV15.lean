/- Lemmas that the proofs of this seat share: LogN, LogP, LogS. -/
import Derived.Test.YtnolbfijcnldjaaGreatDoorV14
import Derived.Deep.CutBlock
import Derived.Test.YtnolbfijcnldjaaGreatDoorV12
/- Logs: made by the specification. -/
namespace Go.Proofs.YtnolbfijcnldjaaGreatDoor
open Go.RowKit

theorem OwnOps.keepBut {w w' : World} {B b : Nat} {v : Value} {l : List LOp} (h : OwnOps w B v l) (hb : But b w w') (hlt : b < B) : OwnOps w' B v l := by
  refine ⟨h.1, ?_⟩
  rcases h.2 with hn | ⟨g, cap, cur, rfl, hB, hgg, rest⟩
  · exact .inl hn
  · refine .inr ⟨g, cap, cur, rfl, hB, ?_, rest⟩
    rw [hb.block g (by omega) (Array.getElem?_eq_some_iff.1 hgg).1]
    exact hgg
theorem But.andGrown {q : Nat} {W V V' : World} {row : Option Nat} (h : But q W V) (hg : V.grownBy V' row) (hr : ∀ k, row = some k → W.heap.size ≤ k) (hq : q < W.heap.size := by omega) : But q W V' :=
  ⟨h.below.trans (below_grown (Below.refl _ _) hg (fun k e => by have := hr k e; omega) (by have := h.below.size; omega)), fun i hi hlt => (hg.block i (by have := h.below.size; omega) (fun e => by have := hr i e.symm; omega)).trans (h.block i hi hlt)⟩
section
variable {ops : Array Oper} {ac : Act} {K : Act → World → Prop} {Q : Exit → Act → World → Prop} {E : Prop} {ty : TypeId} {ps : String} {af : Array Edge}
theorem st_buildB (W : World) (d t : Nat) (e : LBase) (hx : ac.tmps[t]?.getD undef = .agg #[.int .i64 e.id, .int .i64 e.ver])
    (h : ∀ q W', q = W.heap.size → Below W.heap.size W W' → (∀ j u, (baseCells [e])[j]? = some u → W'.cell? ((⟨q, 0, none⟩ : Addr).add j) = some u) → K (ac.put (some d) (.slice (some ⟨q, 0, none⟩) 1 1)) W') :
    if Region.wanted { dst := some d, op := .buildSlice 56 1 #[(0, .tmp t)], type := ty, pos := ps, after := af, guard := none } (yielded ops ac.tmps) = true then Oper.wp Tryz.prog { dst := some d, op := .buildSlice 56 1 #[(0, .tmp t)], type := ty, pos := ps, after := af, guard := none } ac W K Q else E := by
  rw [if_pos (by simp [Region.wanted])]
  have := h W.heap.size (W.alloc (.cells #[.int .i64 e.id, .int .i64 e.ver] 121)) rfl ((Below.refl _ _).alloc (Nat.le_refl _) _) (fun j u hj => base_at hj rfl)
  unfold Oper.wp
  go_simp
  exact this
theorem st_appB (W : World) (d ts tx B : Nat) (u : Value) (l : List LBase) (e : LBase) (hown : OwnBases W B u l) (ad : Addr) (hs' : ac.eval (.tmp ts) = u) (hx' : ac.eval (.tmp tx) = .slice (some ad) 1 1)
    (hnews : ∀ j u, (baseCells [e])[j]? = some u → W.cell? (ad.add j) = some u) (hbd : l.length + 1 ≤ 1000000) (hB : B ≤ W.heap.size)
    (h : ∀ v W', AppBEnd W W' B u v (l ++ [e]) → K (ac.put (some d) v) W') :
    if Region.wanted { dst := some d, op := .call { callee := .builtin .append, args := #[.tmp ts, .tmp tx], argTypes := #[56, 56] }, type := ty, pos := ps, after := af, guard := none } (yielded ops ac.tmps) = true then Oper.wp Tryz.prog { dst := some d, op := .call { callee := .builtin .append, args := #[.tmp ts, .tmp tx], argTypes := #[56, 56] }, type := ty, pos := ps, after := af, guard := none } ac W K Q else E := by
  rw [if_pos (by simp [Region.wanted])]
  obtain ⟨v', w', hr, h2⟩ := run_app_base W ty B u l e hown ad hnews hbd hB
  unfold Oper.wp execOp
  simp only [resolve, invoke, builtin, Sem.run_bind, Sem.run_pure, Result.andThen_ok, List.map_toArray, List.map_cons, List.map_nil, hs', hx', hr]
  exact h v' w' h2
end

set_option maxHeartbeats 2000000 in
set_option maxRecDepth 20000 in
theorem specLogMake (ta : Option Addr) (tn tc : Nat) (os : List LObj) (TL TU : Nat) (q s : Int) (a : Option Addr) (n c : Nat) (ops : List LOp) (L U : Nat) (w : World) (hT : TU ≤ w.heap.size) (hU : U ≤ w.heap.size) (hSz : Sizes os 1048576) (HT : ObjsAt w TL TU ta tn os) (H : OpsAt w L U a n ops) :
    Calls Tryz.prog 153 #[.agg #[.slice ta tn tc], .int .i64 q, .int .i64 s, .slice a n c] w (MakeEnd w (logMake os q s ops)) := by
  obtain ⟨w0, hw0⟩ : ∃ W : World, W = ((w.alloc (Obj.cells #[.slice ta tn tc] 25)).alloc (Obj.cells #[.int .i64 0, .int .i64 0, .slice none 0 0, .slice none 0 0] 58)).alloc (Obj.cells #[.int .i64 q, .int .i64 s, .slice none 0 0, .slice none 0 0] 58) := ⟨_, rfl⟩
  have hA : Below w.heap.size w w0 := by rw [hw0]; exact (((Below.refl _ _).alloc (Nat.le_refl _) _).alloc (by simp) _).alloc (by simp; omega) _
  have t0 : w0.cell? ⟨w.heap.size, 0, none⟩ = some (.slice ta tn tc) := by rw [hw0]; simp [go_sem]
  have HX : Hid (w0.rowIs (w.heap.size + 1) 58 4 (zrow #[.int .i64 0, .int .i64 0, .slice none 0 0, .slice none 0 0])) := by
    have := (zrow_new (w.alloc (Obj.cells #[.slice ta tn tc] 25)) #[.int .i64 0, .int .i64 0, .slice none 0 0, .slice none 0 0] 58).alloc (Obj.cells #[.int .i64 q, .int .i64 s, .slice none 0 0, .slice none 0 0] 58)
    show World.rowIs _ _ _ _ _
    rw [hw0]
    simpa using this
  have HY : Hid (w0.rowIs (w.heap.size + 2) 58 4 (zrow #[.int .i64 q, .int .i64 s, .slice none 0 0, .slice none 0 0])) := by
    have := zrow_new ((w.alloc (Obj.cells #[.slice ta tn tc] 25)).alloc (Obj.cells #[.int .i64 0, .int .i64 0, .slice none 0 0, .slice none 0 0] 58)) #[.int .i64 q, .int .i64 s, .slice none 0 0, .slice none 0 0] 58
    show World.rowIs _ _ _ _ _
    rw [hw0]
    simpa using this
  have hz0 : w0.heap.size = w.heap.size + 3 := by rw [hw0]; simp
  go_enter Tryz.func153, Tryz.ntmps153
  go_upto_region 2 with fail
  rw [← hw0]
  clear hw0
  go_wp2_with fail
  refine (specTreeOk _ _ _ os TL TU _ hSz (by omega) (HT.below hA hT)).mono ?_
  rintro e w1 ⟨rfl, hb1⟩
  have hz1 := hb1.size
  have hB1 : Below w.heap.size w w1 := hA.trans (hb1.mono hA.size)
  rcases ho : specOk os with _ | _
  · have HV : Hid (logMake os q s ops = ⟨0, 0, [], []⟩) := by show _ = _; simp [logMake, ho]
    have hr := HX.out.of_block (hb1.block _ (by omega))
    have e0 := hr.cell (i := 0) (by omega)
    have e1 := hr.cell (i := 1) (by omega)
    have e2 := hr.cell (i := 2) (by omega)
    have e3 := hr.cell (i := 3) (by omega)
    simp [zrow] at e0 e1 e2 e3
    have f1 : ∀ o, w1.frozen? ⟨w.heap.size + 1, o, none⟩ = false := fun o => hr.frozen o
    clear HX HY hr
    go_wp2_with fail
    refine bodyPost_ret (v := .agg #[.int .i64 0, .int .i64 0, .slice none 0 0, .slice none 0 0]) (by simp [results, Tryz.results153, go_sem, e0, e1, e2, e3]) rfl ?_
    rw [HV.out]
    exact ⟨⟨_, _, rfl, OwnBases.bare _ _, OwnOps.nil_ _ _⟩, by repeat (first | exact hB1 | refine Below.setCell ?_ (by simp <;> omega) _)⟩
  go_wp2_with fail
  refine (forms_any _ _ _ ops L U _ (by omega) (H.below hB1 hU)).mono ?_
  rintro e w2 ⟨rfl, hb2⟩
  have hz2 := hb2.size
  have hB2 : Below w.heap.size w w2 := hB1.trans (hb2.mono hB1.size)
  have hb02 : Below w0.heap.size w0 w2 := hb1.trans (hb2.mono hz1)
  rcases hf : formsB ops with _ | _
  · have HV : Hid (logMake os q s ops = ⟨0, 0, [], []⟩) := by show _ = _; simp [logMake, hf]
    have hr := HX.out.of_block (hb02.block _ (by omega))
    have e0 := hr.cell (i := 0) (by omega)
    have e1 := hr.cell (i := 1) (by omega)
    have e2 := hr.cell (i := 2) (by omega)
    have e3 := hr.cell (i := 3) (by omega)
    simp [zrow] at e0 e1 e2 e3
    have f1 : ∀ o, w2.frozen? ⟨w.heap.size + 1, o, none⟩ = false := fun o => hr.frozen o
    clear HX HY hr
    go_wp2_with fail
    refine bodyPost_ret (v := .agg #[.int .i64 0, .int .i64 0, .slice none 0 0, .slice none 0 0]) (by simp [results, Tryz.results153, go_sem, e0, e1, e2, e3]) rfl ?_
    rw [HV.out]
    exact ⟨⟨_, _, rfl, OwnBases.bare _ _, OwnOps.nil_ _ _⟩, by repeat (first | exact hB2 | refine Below.setCell ?_ (by simp <;> omega) _)⟩
  have HV0 : Hid (logMake os q s ops = ⟨q, s, basesL os (logIds ops), ops⟩) := by show _ = _; simp [logMake, ho, hf]
  have hn60 : n ≤ 60 := by rw [H.len]; exact formsB_len hf
  have h32 : tn = 32 := by rw [HT.len, specOk_32 ho]
  have t2 : w2.cell? ⟨w.heap.size, 0, none⟩ = some (.slice ta tn tc) := by rw [hb02.cell (by simp; omega)]; exact t0
  have HX2 : Hid (w2.rowIs (w.heap.size + 1) 58 4 (zrow #[.int .i64 0, .int .i64 0, .slice none 0 0, .slice none 0 0])) := HX.out.of_block (hb02.block _ (by omega))
  have HY2 : Hid (w2.rowIs (w.heap.size + 2) 58 4 (zrow #[.int .i64 q, .int .i64 s, .slice none 0 0, .slice none 0 0])) := HY.out.of_block (hb02.block _ (by omega))
  have e3 : w2.cell? ⟨w.heap.size + 2, 3, none⟩ = some (.slice none 0 0) := by rw [HY2.out.cell (by omega)]; rfl
  have f3 : w2.frozen? ⟨w.heap.size + 2, 3, none⟩ = false := HY2.out.frozen 3
  clear hb1 hb2 ho hf t0 hB1 HX HY hb02
  subst h32
  have hE0 : OwnOps (w2.alloc (Obj.cells #[] 27)) w2.heap.size (.slice (some ⟨w2.heap.size, 0, none⟩) 0 0) [] := OwnOps.empty w2 _ (Nat.le_refl _)
  have hA2 : Below w.heap.size w (w2.alloc (Obj.cells #[] 27)) := hB2.alloc hB2.size _
  go_wp2_with (first
    | (at_builtin; refine wpList_app_all _ rfl (.tmp 24) (.tmp 25) rfl w2.heap.size _ [] ops hE0 a n c L U (H.below hA2 hU) rfl rfl ?c2 ?c3 ?_)
    | go_in)
  case c2 => simp; omega
  case c3 => simp
  intro v3 w3 hE3
  obtain ⟨a3, c3, hv3⟩ := OwnOps.formS hE3.own
  subst hv3
  have hlt2 : w.heap.size + 2 < w2.heap.size := by omega
  have hgr : ∀ b, b < w2.heap.size → w3.heap[b]? = w2.heap[b]? := fun b hb => by
    rw [hE3.grown.block b (by simp; omega) (by simp [Value.ownBlock]; omega)]
    exact ((Below.refl w2.heap.size w2).alloc (Nat.le_refl _) _).block b hb
  have HX3 := HX2.out.of_block (hgr _ (by omega))
  have HY3 := HY2.out.of_block (hgr _ hlt2)
  have hB3 : Below w.heap.size w w3 := below_grown hA2 hE3.grown (fun k e => by simp [Value.ownBlock] at e; omega) (by simp; omega)
  have g3 : w3.cell? ⟨w.heap.size + 2, 3, none⟩ = some (.slice none 0 0) := by rw [HY3.cell (by omega)]; rfl
  have gf3 : w3.frozen? ⟨w.heap.size + 2, 3, none⟩ = false := HY3.frozen 3
  have hz3 : w2.heap.size ≤ w3.heap.size := by have h9 := hE3.grown.size; simp only [World.alloc] at h9; simp at h9; omega
  have HO3 : Hid (OwnOps w3 w2.heap.size (.slice a3 ops.length c3) ops) := hE3.own
  have t3 : w3.cell? ⟨w.heap.size, 0, none⟩ = some (.slice ta 32 tc) := by rw [World.cell?_of_block (w := w2) (hgr w.heap.size (by omega))]; exact t2
  obtain ⟨W4, hW4⟩ : ∃ W : World, W = w3.setCell ⟨w.heap.size + 2, 3, none⟩ (.slice a3 ops.length c3) := ⟨_, rfl⟩
  have HX4 : Hid (W4.rowIs (w.heap.size + 1) 58 4 (zrow #[.int .i64 0, .int .i64 0, .slice none 0 0, .slice none 0 0])) := by
    show World.rowIs _ _ _ _ _
    rw [hW4]
    exact HX3.of_block (Below.heap_setCell w3 _ _ _ (by simp))
  have HY4 : Hid (W4.rowIs (w.heap.size + 2) 58 4 (zrow #[.int .i64 q, .int .i64 s, .slice none 0 0, .slice a3 ops.length c3])) := by
    show World.rowIs _ _ _ _ _
    rw [hW4]
    exact (HY3.set 3 _).congr (fun i hi => by rcases i with _ | _ | _ | _ | i <;> first | rfl | omega)
  have HO4 : Hid (OwnOps W4 w2.heap.size (.slice a3 ops.length c3) ops) := by
    show OwnOps _ _ _ _
    rw [hW4]
    exact HO3.out.setLow _ _ (by simpa using hlt2)
  have hB4 : Below w.heap.size w W4 := by rw [hW4]; exact hB3.setCell (by simp) _
  have hz4 : W4.heap.size = w3.heap.size := by rw [hW4]; simp
  have t4 : W4.cell? ⟨w.heap.size, 0, none⟩ = some (.slice ta 32 tc) := by rw [hW4, World.cell?_of_block (w := w3) (Below.heap_setCell w3 _ _ _ (by simp))]; exact t3
  clear hE3 HX3 HY3 HO3 hgr hB3 hE0 hA2 HX2 HY2 t2 t3 e3 f3
  go_wp2_with fail
  rw [← hW4]
  clear hW4 g3 gf3
  refine (specLogIds _ _ _ ops L U _ (by omega) (H.below hB4 hU)).mono ?_
  rintro e W5 ⟨⟨v5, rfl, hv5⟩, hb5⟩
  obtain ⟨ai, ci, rfl, hI⟩ := hv5.out.at_
  have hle := logIds_le ops
  have hbd32 := logIds_bd ops
  obtain ⟨ids, hids⟩ : ∃ ids, ids = logIds ops := ⟨_, rfl⟩
  rw [← hids] at hI hle hbd32 ⊢
  have HBD : Hid (∀ i ∈ ids, i < 32) := hbd32
  have HI : Hid (IntsAt W5 W4.heap.size W5.heap.size ai ids.length ids) := hI
  have HIDS : Hid (ids = logIds ops) := hids
  have HX5 : Hid (W5.rowIs (w.heap.size + 1) 58 4 (zrow #[.int .i64 0, .int .i64 0, .slice none 0 0, .slice none 0 0])) := HX4.out.of_block (hb5.block _ (by omega))
  have HY5 : Hid (W5.rowIs (w.heap.size + 2) 58 4 (zrow #[.int .i64 q, .int .i64 s, .slice none 0 0, .slice a3 ops.length c3])) := HY4.out.of_block (hb5.block _ (by omega))
  have HO5 : Hid (OwnOps W5 w2.heap.size (.slice a3 ops.length c3) ops) := HO4.out.next hb5
  have t5 : W5.cell? ⟨w.heap.size, 0, none⟩ = some (.slice ta 32 tc) := by rw [hb5.cell (by simp; omega)]; exact t4
  have hB5 : Below w.heap.size w W5 := hB4.trans (hb5.mono hB4.size)
  have hz5 := hb5.size
  clear hv5 hb5 hI hids hbd32 HX4 HY4 HO4 t4 hB4
  obtain ⟨tb, toff, rfl, hTL, hTU, htc⟩ := HT.at_ (by omega)
  go_wp2_with fail
  go_loopg [11] ids.length (fun g i wr => ∃ j : Nat, j ≤ ids.length ∧ Hid (g = ids.length - j) ∧ i = .int .i64 j ∧ (∃ a1 n1 c1, Hid (wr.rowIs (w.heap.size + 2) 58 4 (zrow #[.int .i64 q, .int .i64 s, .slice a1 n1 c1, .slice a3 ops.length c3])) ∧ Hid (OwnBases wr W5.heap.size (.slice a1 n1 c1) (basesL os (ids.take j)))) ∧ But (w.heap.size + 2) W5 wr)
  case atStart => exact ⟨0, Nat.zero_le _, rfl, rfl, ⟨none, 0, 0, HY5.out, OwnBases.bare _ _⟩, But.refl _ _⟩
  case round =>
    obtain ⟨j, hj, hk, rfl, ⟨a1, n1, c1, hrow0, hown0⟩, hQ0⟩ := hrel
    have hzr := hQ0.below.size
    by_cases hlt : j < ids.length
    · obtain ⟨gi, x, rfl, hg1, hg2, hx, cx⟩ := HI.out.2 j hlt
      have hx32 : x < 32 := HBD.out x (List.mem_of_getElem? hx)
      obtain ⟨o, ka, kn, kc, hoi, _, _, g1, _⟩ := htc x (by omega)
      have HV : Hid (basesL os (ids.take (j + 1)) = basesL os (ids.take j) ++ [⟨(x : Int), o.ver⟩]) := by
        show _ = _
        rw [basesL_snoc hx]
        simp [verAt, hoi]
      rw [← hB5.cell (by simp; omega)] at g1
      have g5 := g1
      have cx5 := cx
      rw [← hQ0.cell (by simp; omega) (by simp; omega)] at g1
      rw [← hQ0.cell (by simp; omega) (by simpa using hg2)] at cx
      have t1 : wr.cell? ⟨w.heap.size, 0, none⟩ = some (.slice (some ⟨tb, toff, none⟩) 32 tc) := by rw [hQ0.cell (by simp) (by simp; omega)]; exact t5
      have hlt' : (j : Int) < (ids.length : Int) := by omega
      have hx32' : (x : Int) < 32 := by omega
      have hlen : (basesL os (ids.take j)).length ≤ 32 := by rw [basesL_len]; simp; omega
      obtain ⟨lst, hlst⟩ : ∃ v : Value, v = .slice a3 ops.length c3 := ⟨_, rfl⟩
      rw [← hlst] at hrow0
      clear hx hoi
      go_upto_block 1 with fail
      go_cut [] (fun wx => ∃ a1 n1 c1, wx.rowIs (w.heap.size + 2) 58 4 (zrow #[.int .i64 q, .int .i64 s, .slice a1 n1 c1, lst]) ∧ OwnBases wx W5.heap.size (.slice a1 n1 c1) (basesL os (ids.take (j + 1))) ∧ But (w.heap.size + 2) W5 wx)
      case first =>
        go_upto_region 9 with fail
        refine wp_region_held_drew (S := (fun W => W.cell? ⟨gi, j, none⟩ = some (.int .i64 (x : Int)) ∧ W.cell? ⟨w.heap.size, 0, none⟩ = some (.slice (some ⟨tb, toff, none⟩) 32 tc) ∧ W.cell? ⟨tb, toff + x * 4 + 1, none⟩ = some (.int .i64 o.ver))) (by kernel_rfl) ?_ (fun hHeld => ?_)
        · exact ⟨cx, t1, g1⟩
        refine listH (l2 := #[false, false, false, false, false, false, false, false, false, false, false, false, false, false, false, false, false, false, false, false]) (by kernel_rfl) ?_
        have hQ : But (w.heap.size + 2) W5 wr.drew := hQ0.next (by have := hQ0.below.size; omega) (Below.refl _ _).drew
        have hrow : wr.drew.rowIs (w.heap.size + 2) 58 4 (zrow #[.int .i64 q, .int .i64 s, .slice a1 n1 c1, lst]) := hrow0.out
        have hown : OwnBases wr.drew W5.heap.size (.slice a1 n1 c1) (basesL os (ids.take j)) := hown0.out
        refine takeH (i := 0) (oi := _) (v := ?vk1) 36 #[true, false, false, false, false, false, false, false, false, false, false, false, false, false, false, false, false, false, false, false] rfl (by kernel_rfl) (by kernel_rfl) (by kernel_rfl) rfl (by kernel_rfl) (fun _ _ _ h => h) (Or.inl ⟨by rfl, ?yk1⟩) (by assumption) ?rk1
        case yk1 => (intro w' hSw; obtain ⟨cx, tx, g1⟩ := hSw; go_simp; try with_reducible rfl)
        simp only [Act.put, List.setIfInBounds_toArray, List.set_cons_succ, List.set_cons_zero]
        refine takeH (i := 2) (oi := _) (v := ?vk2) 38 #[true, false, true, false, false, false, false, false, false, false, false, false, false, false, false, false, false, false, false, false] rfl (by kernel_rfl) (by kernel_rfl) (by kernel_rfl) rfl (by kernel_rfl) (fun _ _ _ h => h) (Or.inl ⟨by rfl, ?yk2⟩) (by assumption) ?rk2
        case yk2 => (intro w' hSw; obtain ⟨cx, tx, g1⟩ := hSw; go_simp; try with_reducible rfl)
        simp only [Act.put, List.setIfInBounds_toArray, List.set_cons_succ, List.set_cons_zero]
        refine takeH (i := 3) (oi := _) (v := ?vk3) 39 #[true, false, true, true, false, false, false, false, false, false, false, false, false, false, false, false, false, false, false, false] rfl (by kernel_rfl) (by kernel_rfl) (by kernel_rfl) rfl (by kernel_rfl) (fun _ _ _ h => h) (Or.inl ⟨by rfl, ?yk3⟩) (by assumption) ?rk3
        case yk3 => (intro w' hSw; obtain ⟨cx, tx, g1⟩ := hSw; go_simp; try with_reducible rfl)
        simp only [Act.put, List.setIfInBounds_toArray, List.set_cons_succ, List.set_cons_zero]
        refine takeH (i := 4) (oi := _) (v := ?vk4) 40 #[true, false, true, true, true, false, false, false, false, false, false, false, false, false, false, false, false, false, false, false] rfl (by kernel_rfl) (by kernel_rfl) (by kernel_rfl) rfl (by kernel_rfl) (fun _ _ _ h => h) (Or.inl ⟨by rfl, ?yk4⟩) (by assumption) ?rk4
        case yk4 => (intro w' hSw; obtain ⟨cx, tx, g1⟩ := hSw; go_simp; try with_reducible rfl)
        simp only [Act.put, List.setIfInBounds_toArray, List.set_cons_succ, List.set_cons_zero]
        refine takeH (i := 5) (oi := _) (v := ?vk5) 41 #[true, false, true, true, true, true, false, false, false, false, false, false, false, false, false, false, false, false, false, false] rfl (by kernel_rfl) (by kernel_rfl) (by kernel_rfl) rfl (by kernel_rfl) (fun _ _ _ h => h) (Or.inl ⟨by rfl, ?yk5⟩) (by assumption) ?rk5
        case yk5 => (intro w' hSw; obtain ⟨cx, tx, g1⟩ := hSw; go_simp; try with_reducible rfl)
        simp only [Act.put, List.setIfInBounds_toArray, List.set_cons_succ, List.set_cons_zero]
        refine takeH (i := 6) (oi := _) (v := ?vk6) 42 #[true, false, true, true, true, true, true, false, false, false, false, false, false, false, false, false, false, false, false, false] rfl (by kernel_rfl) (by kernel_rfl) (by kernel_rfl) rfl (by kernel_rfl) (fun _ _ _ h => h) (Or.inl ⟨by rfl, ?yk6⟩) (by assumption) ?rk6
        case yk6 => (intro w' hSw; obtain ⟨cx, tx, g1⟩ := hSw; go_simp; try with_reducible rfl)
        simp only [Act.put, List.setIfInBounds_toArray, List.set_cons_succ, List.set_cons_zero]
        refine takeH (i := 7) (oi := _) (v := ?vk7) 43 #[true, false, true, true, true, true, true, true, false, false, false, false, false, false, false, false, false, false, false, false] rfl (by kernel_rfl) (by kernel_rfl) (by kernel_rfl) rfl (by kernel_rfl) (fun _ _ _ h => h) (Or.inl ⟨by rfl, ?yk7⟩) (by assumption) ?rk7
        case yk7 => (intro w' hSw; obtain ⟨cx, tx, g1⟩ := hSw; go_simp; try with_reducible rfl)
        simp only [Act.put, List.setIfInBounds_toArray, List.set_cons_succ, List.set_cons_zero]
        refine takeH (i := 8) (oi := _) (v := ?vk8) 44 #[true, false, true, true, true, true, true, true, true, false, false, false, false, false, false, false, false, false, false, false] rfl (by kernel_rfl) (by kernel_rfl) (by kernel_rfl) rfl (by kernel_rfl) (fun _ _ _ h => h) (Or.inl ⟨by rfl, ?yk8⟩) (by assumption) ?rk8
        case yk8 => (intro w' hSw; obtain ⟨cx, tx, g1⟩ := hSw; go_simp; try with_reducible rfl)
        simp only [Act.put, List.setIfInBounds_toArray, List.set_cons_succ, List.set_cons_zero]
        refine takeH (i := 9) (oi := _) (v := ?vk9) 45 #[true, false, true, true, true, true, true, true, true, true, false, false, false, false, false, false, false, false, false, false] rfl (by kernel_rfl) (by kernel_rfl) (by kernel_rfl) rfl (by kernel_rfl) (fun _ _ _ h => h) (Or.inl ⟨by rfl, ?yk9⟩) (by assumption) ?rk9
        case yk9 => (intro w' hSw; obtain ⟨cx, tx, g1⟩ := hSw; go_simp; try with_reducible rfl)
        simp only [Act.put, List.setIfInBounds_toArray, List.set_cons_succ, List.set_cons_zero]
        refine takeH (i := 10) (oi := _) (v := ?vk10) 46 #[true, false, true, true, true, true, true, true, true, true, true, false, false, false, false, false, false, false, false, false] rfl (by kernel_rfl) (by kernel_rfl) (by kernel_rfl) rfl (by kernel_rfl) (fun _ _ _ h => h) (Or.inl ⟨by rfl, ?yk10⟩) (by assumption) ?rk10
        case yk10 => (intro w' hSw; obtain ⟨cx, tx, g1⟩ := hSw; go_simp; try with_reducible rfl)
        simp only [Act.put, List.setIfInBounds_toArray, List.set_cons_succ, List.set_cons_zero]
        refine takeH (i := 11) (oi := _) (v := ?vk11) 47 #[true, false, true, true, true, true, true, true, true, true, true, true, false, false, false, false, false, false, false, false] rfl (by kernel_rfl) (by kernel_rfl) (by kernel_rfl) rfl (by kernel_rfl) (fun _ _ _ h => h) (Or.inl ⟨by rfl, ?yk11⟩) (by assumption) ?rk11
        case yk11 => (intro w' hSw; obtain ⟨cx, tx, g1⟩ := hSw; go_simp; try with_reducible rfl)
        simp only [Act.put, List.setIfInBounds_toArray, List.set_cons_succ, List.set_cons_zero]
        refine takeH (i := 12) (oi := _) (v := ?vk12) 48 #[true, false, true, true, true, true, true, true, true, true, true, true, true, false, false, false, false, false, false, false] rfl (by kernel_rfl) (by kernel_rfl) (by kernel_rfl) rfl (by kernel_rfl) (fun _ _ _ h => h) (Or.inl ⟨by rfl, ?yk12⟩) (by assumption) ?rk12
        case yk12 => (intro w' hSw; obtain ⟨cx, tx, g1⟩ := hSw; go_simp; try with_reducible rfl)
        simp only [Act.put, List.setIfInBounds_toArray, List.set_cons_succ, List.set_cons_zero]
        refine takeH (i := 13) (oi := _) (v := ?vk13) 49 #[true, false, true, true, true, true, true, true, true, true, true, true, true, true, false, false, false, false, false, false] rfl (by kernel_rfl) (by kernel_rfl) (by kernel_rfl) rfl (by kernel_rfl) (fun _ _ _ h => h) (Or.inl ⟨by rfl, ?yk13⟩) (by assumption) ?rk13
        case yk13 => (intro w' hSw; obtain ⟨cx, tx, g1⟩ := hSw; go_simp; try with_reducible rfl)
        simp only [Act.put, List.setIfInBounds_toArray, List.set_cons_succ, List.set_cons_zero]
        refine takeH (i := 14) (oi := _) (v := ?vk14) 50 #[true, false, true, true, true, true, true, true, true, true, true, true, true, true, true, false, false, false, false, false] rfl (by kernel_rfl) (by kernel_rfl) (by kernel_rfl) rfl (by kernel_rfl) (fun _ _ _ h => h) (Or.inl ⟨by rfl, ?yk14⟩) (by assumption) ?rk14
        case yk14 => (intro w' hSw; obtain ⟨cx, tx, g1⟩ := hSw; go_simp; try with_reducible rfl)
        simp only [Act.put, List.setIfInBounds_toArray, List.set_cons_succ, List.set_cons_zero]
        refine takeH (i := 15) (oi := _) (v := ?vk15) 51 #[true, false, true, true, true, true, true, true, true, true, true, true, true, true, true, true, false, false, false, false] rfl (by kernel_rfl) (by kernel_rfl) (by kernel_rfl) rfl (by kernel_rfl) (fun _ _ _ h => h) (Or.inl ⟨by rfl, ?yk15⟩) (by assumption) ?rk15
        case yk15 => (intro w' hSw; obtain ⟨cx, tx, g1⟩ := hSw; go_simp; try with_reducible rfl)
        simp only [Act.put, List.setIfInBounds_toArray, List.set_cons_succ, List.set_cons_zero]
        refine wpAnyH_ready (rs := [1, 16]) (by kernel_rfl) (by simp) ?_
        refine AllReadyH.cons (o := _) rfl (fun K hK => ?_) (AllReadyH.cons (o := _) rfl (fun K hK => ?_) AllReadyH.nil)
        · have c2 := hrow.cell (i := 2) (by omega)
          simp only [zrow] at c2
          go_simp
          refine hK.out _ _ (⟨by rw [hQ.cell (by simp <;> omega) (by simp <;> omega)]; exact cx5, by rw [hQ.cell (by simp <;> omega) (by simp <;> omega)]; exact t5, by rw [hQ.cell (by simp <;> omega) (by simp <;> omega)]; exact g5⟩) (fun hHeld => ?_)
          clear hK K
          simp only [List.setIfInBounds_toArray, List.set_cons_succ, List.set_cons_zero]
          refine listH (l2 := #[true, true, true, true, true, true, true, true, true, true, true, true, true, true, true, true, false, false, false, false]) (by kernel_rfl) ?_
          refine wpAnyH_ready (rs := [16]) (by kernel_rfl) (by simp) ?_
          refine AllReadyH.cons (o := _) rfl (fun K hK => ?_) AllReadyH.nil
          refine st_buildB _ 52 51 ⟨(x : Int), o.ver⟩ rfl ?_
          intro q16 V16 hq16 hb16 hnw
          clear hq16
          have hQ := hQ.next (by have := hQ.below.size; omega) hb16
          have hrow := hrow.of_block (hb16.block _ hrow.lt)
          have hown := hown.next hb16
          refine hK.out _ _ (⟨by rw [hQ.cell (by simp <;> omega) (by simp <;> omega)]; exact cx5, by rw [hQ.cell (by simp <;> omega) (by simp <;> omega)]; exact t5, by rw [hQ.cell (by simp <;> omega) (by simp <;> omega)]; exact g5⟩) (fun hHeld => ?_)
          clear hK K
          simp only [Act.put, List.setIfInBounds_toArray, List.set_cons_succ, List.set_cons_zero]
          refine listH (l2 := #[true, true, true, true, true, true, true, true, true, true, true, true, true, true, true, true, true, false, false, false]) (by kernel_rfl) ?_
          refine wpAnyH_ready (rs := [17]) (by kernel_rfl) (by simp) ?_
          refine AllReadyH.cons (o := _) rfl (fun K hK => ?_) AllReadyH.nil
          refine st_appB _ 53 37 52 W5.heap.size _ (basesL os (ids.take j)) ⟨(x : Int), o.ver⟩ hown ⟨q16, 0, none⟩ rfl rfl hnw (by omega) (by have := hQ.below.size; omega) ?_
          intro v17 V17 hE
          have hrow := hrow.of_block (hE.grown.block _ hrow.lt (fun e => by have := (hown.lt _ e.symm).1; omega))
          have hQ : But (w.heap.size + 2) W5 V17 := hQ.andGrown hE.grown (fun k e => (hown.lt k e).1)
          have hown : OwnBases V17 W5.heap.size v17 (basesL os (ids.take (j + 1))) := by rw [HV.out]; exact hE.own
          obtain ⟨a17, c17, hv17⟩ := hown.form
          subst hv17
          clear hE hnw
          refine hK.out _ _ (⟨by rw [hQ.cell (by simp <;> omega) (by simp <;> omega)]; exact cx5, by rw [hQ.cell (by simp <;> omega) (by simp <;> omega)]; exact t5, by rw [hQ.cell (by simp <;> omega) (by simp <;> omega)]; exact g5⟩) (fun hHeld => ?_)
          clear hK K
          simp only [Act.put, List.setIfInBounds_toArray, List.set_cons_succ, List.set_cons_zero]
          refine listH (l2 := #[true, true, true, true, true, true, true, true, true, true, true, true, true, true, true, true, true, true, false, false]) (by kernel_rfl) ?_
          refine takeH (i := 18) (oi := _) (v := ?vk16) 54 #[true, true, true, true, true, true, true, true, true, true, true, true, true, true, true, true, true, true, true, false] rfl (by kernel_rfl) (by kernel_rfl) (by kernel_rfl) rfl (by kernel_rfl) (fun _ _ _ h => h) (Or.inl ⟨by rfl, ?yk16⟩) (by assumption) ?rk16
          case yk16 => (intro w' hSw; obtain ⟨cx, tx, g1⟩ := hSw; go_simp; try with_reducible rfl)
          simp only [Act.put, List.setIfInBounds_toArray, List.set_cons_succ, List.set_cons_zero]
          refine wpAnyH_ready (rs := [19]) (by kernel_rfl) (by simp) ?_
          refine AllReadyH.cons (o := _) rfl (fun K hK => ?_) AllReadyH.nil
          have c2 := hrow.cell (i := 2) (by omega)
          simp only [zrow] at c2
          have z2 := hrow.frozen 2
          have hrow2 := hrow.set 2 (.slice a17 (basesL os (ids.take (j + 1))).length c17)
          have hown := hown.setLow ⟨w.heap.size + 2, 2, none⟩ (.slice a17 (basesL os (ids.take (j + 1))).length c17) (by simp; omega)
          have hQ := hQ.set 2 (.slice a17 (basesL os (ids.take (j + 1))).length c17)
          go_simp
          refine hK.out _ _ (⟨by rw [hQ.cell (by simp <;> omega) (by simp <;> omega)]; exact cx5, by rw [hQ.cell (by simp <;> omega) (by simp <;> omega)]; exact t5, by rw [hQ.cell (by simp <;> omega) (by simp <;> omega)]; exact g5⟩) (fun hHeld => ?_)
          clear hK K
          try simp only [Act.put]
          refine wpAnyH_done (by kernel_rfl) ?_ _
          go_wp2_with fail
          go_meet
          exact ⟨a17, _, c17, hrow2.congr (fun i hi => by rcases i with _ | _ | _ | _ | i <;> first | rfl | omega), hown, hQ⟩
        · refine st_buildB _ 52 51 ⟨(x : Int), o.ver⟩ rfl ?_
          intro q16 V16 hq16 hb16 hnw
          clear hq16
          have hQ := hQ.next (by have := hQ.below.size; omega) hb16
          have hrow := hrow.of_block (hb16.block _ hrow.lt)
          have hown := hown.next hb16
          refine hK.out _ _ (⟨by rw [hQ.cell (by simp <;> omega) (by simp <;> omega)]; exact cx5, by rw [hQ.cell (by simp <;> omega) (by simp <;> omega)]; exact t5, by rw [hQ.cell (by simp <;> omega) (by simp <;> omega)]; exact g5⟩) (fun hHeld => ?_)
          clear hK K
          simp only [Act.put, List.setIfInBounds_toArray, List.set_cons_succ, List.set_cons_zero]
          refine listH (l2 := #[true, false, true, true, true, true, true, true, true, true, true, true, true, true, true, true, true, false, false, false]) (by kernel_rfl) ?_
          refine wpAnyH_ready (rs := [1]) (by kernel_rfl) (by simp) ?_
          refine AllReadyH.cons (o := _) rfl (fun K hK => ?_) AllReadyH.nil
          have c2 := hrow.cell (i := 2) (by omega)
          simp only [zrow] at c2
          go_simp
          refine hK.out _ _ (⟨by rw [hQ.cell (by simp <;> omega) (by simp <;> omega)]; exact cx5, by rw [hQ.cell (by simp <;> omega) (by simp <;> omega)]; exact t5, by rw [hQ.cell (by simp <;> omega) (by simp <;> omega)]; exact g5⟩) (fun hHeld => ?_)
          clear hK K
          simp only [List.setIfInBounds_toArray, List.set_cons_succ, List.set_cons_zero]
          refine listH (l2 := #[true, true, true, true, true, true, true, true, true, true, true, true, true, true, true, true, true, false, false, false]) (by kernel_rfl) ?_
          refine wpAnyH_ready (rs := [17]) (by kernel_rfl) (by simp) ?_
          refine AllReadyH.cons (o := _) rfl (fun K hK => ?_) AllReadyH.nil
          refine st_appB _ 53 37 52 W5.heap.size _ (basesL os (ids.take j)) ⟨(x : Int), o.ver⟩ hown ⟨q16, 0, none⟩ rfl rfl hnw (by omega) (by have := hQ.below.size; omega) ?_
          intro v17 V17 hE
          have hrow := hrow.of_block (hE.grown.block _ hrow.lt (fun e => by have := (hown.lt _ e.symm).1; omega))
          have hQ : But (w.heap.size + 2) W5 V17 := hQ.andGrown hE.grown (fun k e => (hown.lt k e).1)
          have hown : OwnBases V17 W5.heap.size v17 (basesL os (ids.take (j + 1))) := by rw [HV.out]; exact hE.own
          obtain ⟨a17, c17, hv17⟩ := hown.form
          subst hv17
          clear hE hnw
          refine hK.out _ _ (⟨by rw [hQ.cell (by simp <;> omega) (by simp <;> omega)]; exact cx5, by rw [hQ.cell (by simp <;> omega) (by simp <;> omega)]; exact t5, by rw [hQ.cell (by simp <;> omega) (by simp <;> omega)]; exact g5⟩) (fun hHeld => ?_)
          clear hK K
          simp only [Act.put, List.setIfInBounds_toArray, List.set_cons_succ, List.set_cons_zero]
          refine listH (l2 := #[true, true, true, true, true, true, true, true, true, true, true, true, true, true, true, true, true, true, false, false]) (by kernel_rfl) ?_
          refine takeH (i := 18) (oi := _) (v := ?vk17) 54 #[true, true, true, true, true, true, true, true, true, true, true, true, true, true, true, true, true, true, true, false] rfl (by kernel_rfl) (by kernel_rfl) (by kernel_rfl) rfl (by kernel_rfl) (fun _ _ _ h => h) (Or.inl ⟨by rfl, ?yk17⟩) (by assumption) ?rk17
          case yk17 => (intro w' hSw; obtain ⟨cx, tx, g1⟩ := hSw; go_simp; try with_reducible rfl)
          simp only [Act.put, List.setIfInBounds_toArray, List.set_cons_succ, List.set_cons_zero]
          refine wpAnyH_ready (rs := [19]) (by kernel_rfl) (by simp) ?_
          refine AllReadyH.cons (o := _) rfl (fun K hK => ?_) AllReadyH.nil
          have c2 := hrow.cell (i := 2) (by omega)
          simp only [zrow] at c2
          have z2 := hrow.frozen 2
          have hrow2 := hrow.set 2 (.slice a17 (basesL os (ids.take (j + 1))).length c17)
          have hown := hown.setLow ⟨w.heap.size + 2, 2, none⟩ (.slice a17 (basesL os (ids.take (j + 1))).length c17) (by simp; omega)
          have hQ := hQ.set 2 (.slice a17 (basesL os (ids.take (j + 1))).length c17)
          go_simp
          refine hK.out _ _ (⟨by rw [hQ.cell (by simp <;> omega) (by simp <;> omega)]; exact cx5, by rw [hQ.cell (by simp <;> omega) (by simp <;> omega)]; exact t5, by rw [hQ.cell (by simp <;> omega) (by simp <;> omega)]; exact g5⟩) (fun hHeld => ?_)
          clear hK K
          try simp only [Act.put]
          refine wpAnyH_done (by kernel_rfl) ?_ _
          go_wp2_with fail
          go_meet
          exact ⟨a17, _, c17, hrow2.congr (fun i hi => by rcases i with _ | _ | _ | _ | i <;> first | rfl | omega), hown, hQ⟩
      obtain ⟨a2, n2, c2, hrow2, hown2, hQ2⟩ := hcut
      rw [hlst] at hrow2
      have HR2 : Hid (wc.rowIs (w.heap.size + 2) 58 4 (zrow #[.int .i64 q, .int .i64 s, .slice a2 n2 c2, .slice a3 ops.length c3])) := hrow2
      have HO2 : Hid (OwnBases wc W5.heap.size (.slice a2 n2 c2) (basesL os (ids.take (j + 1)))) := hown2
      clear hrow2 hown2 hown0 hrow0 hlst cx g1 t1
      go_wp2_with fail
      go_roundg (ids.length - (j + 1))
      case measure => have := hk.out; omega
      case rel => exact ⟨j + 1, by omega, rfl, by go_num, ⟨a2, n2, c2, HR2.out, HO2.out⟩, hQ2⟩
    · have hlt' : ¬ (j : Int) < (ids.length : Int) := by omega
      have HE : Hid (ids.take j = ids) := by show _ = _; rw [List.take_of_length_le (by omega)]
      have x0 := (HX5.out.of_block (hQ0.block _ (by omega) (by omega))).cell (i := 0) (by omega)
      have x1 := (HX5.out.of_block (hQ0.block _ (by omega) (by omega))).cell (i := 1) (by omega)
      have x2 := (HX5.out.of_block (hQ0.block _ (by omega) (by omega))).cell (i := 2) (by omega)
      have x3 := (HX5.out.of_block (hQ0.block _ (by omega) (by omega))).cell (i := 3) (by omega)
      have xf : ∀ o, wr.frozen? ⟨w.heap.size + 1, o, none⟩ = false := fun o => (HX5.out.of_block (hQ0.block _ (by omega) (by omega))).frozen o
      have y0 := hrow0.out.cell (i := 0) (by omega)
      have y1 := hrow0.out.cell (i := 1) (by omega)
      have y2 := hrow0.out.cell (i := 2) (by omega)
      have y3 := hrow0.out.cell (i := 3) (by omega)
      simp [zrow] at x0 x1 x2 x3 y0 y1 y2 y3
      have hO9 : OwnOps wr w2.heap.size (.slice a3 ops.length c3) ops := HO5.out.keepBut hQ0 (by omega)
      have hV9 := hown0.out
      rw [HE.out, HIDS.out] at hV9
      have hB9 : Below w.heap.size w wr := hB5.trans (hQ0.below.mono (by omega))
      clear HX5 HY5 HO5 hrow0 hown0
      go_wp2_with fail
      refine bodyPost_ret (v := .agg #[.int .i64 q, .int .i64 s, .slice a1 n1 c1, .slice a3 ops.length c3]) (by simp [results, Tryz.results153, go_sem, x0, x1, x2, x3]) rfl ?_
      rw [HV0.out]
      refine ⟨⟨_, _, rfl, OwnBases.base (B := W5.heap.size) ?_ (by omega), OwnOps.base (B := w2.heap.size) ?_ (by omega)⟩, ?_⟩
      · repeat (first | exact hV9 | refine OwnBases.setLow ?_ _ _ (by simp <;> omega))
      · repeat (first | exact hO9 | refine OwnOps.setLow ?_ _ _ (by simp <;> omega))
      · repeat (first | exact hB9 | refine Below.setCell ?_ (by simp <;> omega) _)
end Go.Proofs.YtnolbfijcnldjaaGreatDoor

/- Logs: marked and held. -/
namespace Go.Proofs.YtnolbfijcnldjaaGreatDoor
open Go.RowKit


/-! Bases: marked from 1 on, and held. -/
theorem OwnBases.row {w : World} {B : Nat} {v : Value} {l : List LBase} (h : OwnBases w B v l) : ∃ a c g cap f, v = .slice a l.length c ∧ B ≤ g ∧ BaseRow w B a l.length g cap f ∧ baseF f l := by
  rcases h.2 with ⟨rfl, h0⟩ | ⟨g, cap, cur, rfl, hb, hg, hnc, hcm, hcs, htake⟩
  · exact ⟨none, 0, B, 0, fun _ => default, by rw [h0], Nat.le_refl _, fun hn => absurd h0 hn, fun i e he => by have := (List.getElem?_eq_some_iff.1 he).1; omega⟩
  · refine ⟨_, cap, g, cap * 2, fun i => cur[i]?.getD default, rfl, hb, fun _ => ⟨rfl, hb, by omega, ⟨cur, hg, by omega, fun i hi => by simp [Array.getElem?_eq_getElem (show i < cur.size by omega)]⟩⟩, fun i e he => ?_⟩
    have hlt := (List.getElem?_eq_some_iff.1 he).1
    obtain ⟨k0, k1⟩ := baseCells_at l i e he
    have h0 : (cur.toList.take (l.length * 2))[i * 2]? = some (.int .i64 e.id) := by rw [htake]; exact k0
    have h1 : (cur.toList.take (l.length * 2))[i * 2 + 1]? = some (.int .i64 e.ver) := by rw [htake]; exact k1
    rw [List.getElem?_take_of_lt (by omega)] at h0 h1
    simp at h0 h1
    simp [h0, h1]
end Go.Proofs.YtnolbfijcnldjaaGreatDoor

/- A log as it is drawn (l5Log). -/
namespace Go.Proofs.YtnolbfijcnldjaaGreatDoor
open Go.RowKit

section
variable {ops : Array Oper} {ac : Act} {K : Act → World → Prop} {Q : Exit → Act → World → Prop} {E : Prop} {ty : TypeId} {ps : String} {af : Array Edge}
theorem st_build3 (W : World) (d : Nat) (x y z : Int)
    (h : ∀ q W', q = W.heap.size → Below W.heap.size W W' → (∀ i, i < 3 → ∃ k : Int, W'.cell? ⟨q, i, none⟩ = some (.int .i64 k) ∧ (k = x ∨ k = y ∨ k = z)) → K (ac.put (some d) (.slice (some ⟨q, 0, none⟩) 3 3)) W') :
    if Region.wanted { dst := some d, op := .buildSlice 34 3 #[(0, .const (.int .i64 x)), (1, .const (.int .i64 y)), (2, .const (.int .i64 z))], type := ty, pos := ps, after := af, guard := none } (yielded ops ac.tmps) = true then Oper.wp Tryz.prog { dst := some d, op := .buildSlice 34 3 #[(0, .const (.int .i64 x)), (1, .const (.int .i64 y)), (2, .const (.int .i64 z))], type := ty, pos := ps, after := af, guard := none } ac W K Q else E := by
  rw [if_pos (by simp [Region.wanted])]
  have := h W.heap.size (W.alloc (.cells #[.int .i64 x, .int .i64 y, .int .i64 z] 3)) rfl ((Below.refl _ _).alloc (Nat.le_refl _) _) (fun i hi => by
    match i, hi with
    | 0, _ => exact ⟨x, by simp [go_sem], .inl rfl⟩
    | 1, _ => exact ⟨y, by simp [go_sem], .inr (.inl rfl)⟩
    | 2, _ => exact ⟨z, by simp [go_sem], .inr (.inr rfl)⟩)
  unfold Oper.wp
  go_simp
  exact this
theorem st_alloc29 (W : World) (d : Nat)
    (h : ∀ q W', q = W.heap.size → Below W.heap.size W W' → W'.rowIs q 58 4 (zrow #[.int .i64 0, .int .i64 0, .slice none 0 0, .slice none 0 0]) → K (ac.put (some d) (.pointer (some ⟨q, 0, none⟩))) W') :
    if Region.wanted { dst := some d, op := .alloc 58, type := ty, pos := ps, after := af, guard := none } (yielded ops ac.tmps) = true then Oper.wp Tryz.prog { dst := some d, op := .alloc 58, type := ty, pos := ps, after := af, guard := none } ac W K Q else E := by
  rw [if_pos (by simp [Region.wanted])]
  have := h W.heap.size (W.alloc (.cells #[.int .i64 0, .int .i64 0, .slice none 0 0, .slice none 0 0] 58)) rfl ((Below.refl _ _).alloc (Nat.le_refl _) _) (zrow_new W _ 58)
  unfold Oper.wp
  go_simp
  exact this
/-- A row of four cells that are of a log's sorts. -/
def LogCells (W : World) (q : Nat) : Prop := ∃ x y a n c a' n' c', LogBox W q x y a n c a' n' c'
theorem st_store29 (W : World) (tp tv : Nat) (q : Nat) (x y : Int) (a : Option Addr) (n c : Nat) (a' : Option Addr) (n' c' : Nat) (f : Nat → Value) (hp : ac.tmps[tp]?.getD undef = .pointer (some ⟨q, 0, none⟩)) (hv : ac.tmps[tv]?.getD undef = .agg #[.int .i64 x, .int .i64 y, .slice a n c, .slice a' n' c']) (hr : W.rowIs q 58 4 f) (hl : LogCells W q)
    (h : ∀ W', But q W W' → LogBox W' q x y a n c a' n' c' → (∃ f', W'.rowIs q 58 4 f') → W'.heap.size = W.heap.size → K ac W') :
    if Region.wanted { dst := none, op := .store 58 (.tmp tp) (.tmp tv), type := ty, pos := ps, after := af, guard := none } (yielded ops ac.tmps) = true then Oper.wp Tryz.prog { dst := none, op := .store 58 (.tmp tp) (.tmp tv), type := ty, pos := ps, after := af, guard := none } ac W K Q else E := by
  rw [if_pos (by simp [Region.wanted])]
  obtain ⟨x0, y0, a0, n0, c0', a0', n0', c0'', c0, c1, c2, c3⟩ := hl
  have z0 : W.frozen? ⟨q, 0, none⟩ = false := hr.frozen _
  have z1 : W.frozen? ⟨q, 1, none⟩ = false := hr.frozen _
  have z2 : W.frozen? ⟨q, 2, none⟩ = false := hr.frozen _
  have z3 : W.frozen? ⟨q, 3, none⟩ = false := hr.frozen _
  have hw := (((hr.set 0 (.int .i64 x)).set 1 (.int .i64 y)).set 2 (.slice a n c)).set 3 (.slice a' n' c')
  have := h ((((W.setCell ⟨q, 0, none⟩ (.int .i64 x)).setCell ⟨q, 1, none⟩ (.int .i64 y)).setCell ⟨q, 2, none⟩ (.slice a n c)).setCell ⟨q, 3, none⟩ (.slice a' n' c')) ((((But.refl q W).set _ _).set _ _).set _ _ |>.set _ _)
    ⟨by rw [hw.cell (by omega)]; rfl, by rw [hw.cell (by omega)]; rfl, by rw [hw.cell (by omega)]; rfl, by rw [hw.cell (by omega)]; rfl⟩ ⟨_, hw⟩ (by simp)
  clear h hr hw
  unfold Oper.wp
  go_simp
  exact this
end

/-- In the midst of drawing: the reader, the boxes of the answer, the tree in its box. -/
structure L5 (w W : World) (rb P q2 q3 q4 b c : Nat) (os : List LObj) (vs : Nat → Value) : Prop where
  lo : rb < w.heap.size
  but : But rb w W
  rd : RdTo W rb P
  r2 : W.rowIs q2 25 1 (fun _ => .slice none 0 0)
  r3 : W.rowIs q3 58 4 (zrow #[.int .i64 0, .int .i64 0, .slice none 0 0, .slice none 0 0])
  r4 : W.rowIs q4 25 1 (fun _ => .slice (some ⟨b, 0, none⟩) 32 c)
  l2 : w.heap.size ≤ q2
  l3 : w.heap.size ≤ q3
  l4 : w.heap.size ≤ q4
  n24 : q2 ≠ q4
  tree : OwnT W w.heap.size b c os vs
  len : os.length = 32
  sm : Sm os 60
section
variable {w W W' : World} {rb P P' q2 q3 q4 b c : Nat} {os : List LObj} {vs : Nat → Value}
theorem L5.next (h : L5 w W rb P q2 q3 q4 b c os vs) (hb : But rb W W') (hr : RdTo W' rb P') : L5 w W' rb P' q2 q3 q4 b c os vs := by
  have hlo := h.lo
  have a2 := h.l2
  have a3 := h.l3
  have a4 := h.l4
  exact ⟨h.lo, h.but.trans hb, hr, h.r2.of_block (hb.block _ (by omega) h.r2.lt), h.r3.of_block (hb.block _ (by omega) h.r3.lt), h.r4.of_block (hb.block _ (by omega) h.r4.lt), h.l2, h.l3, h.l4, h.n24, h.tree.but hb h.lo, h.len, h.sm⟩
theorem L5.size (h : L5 w W rb P q2 q3 q4 b c os vs) : w.heap.size < W.heap.size := by have := h.r4.lt; have := h.l4; omega
theorem L5.on (h : L5 w W rb P q2 q3 q4 b c os vs) (hP : P ≤ P') : L5 w W rb P' q2 q3 q4 b c os vs := by
  obtain ⟨q, hq, R⟩ := h.rd
  exact ⟨h.lo, h.but, ⟨q, by omega, R⟩, h.r2, h.r3, h.r4, h.l2, h.l3, h.l4, h.n24, h.tree, h.len, h.sm⟩
end
theorem OwnOps.but_ {W W' : World} {B rb : Nat} {v : Value} {l : List LOp} (h : OwnOps W B v l) (hb : But rb W W') (hr : rb < B) : OwnOps W' B v l := World.ownsRow.kept h hb.grown (.inr fun e => by have := (h.lt rb e).1; omega)
theorem OwnBases.but_ {W W' : World} {B rb : Nat} {v : Value} {l : List LBase} (h : OwnBases W B v l) (hb : But rb W W') (hr : rb < B) : OwnBases W' B v l := World.ownsRow.kept h hb.grown (.inr fun e => by have := (World.ownsRow.lt h rb e).1; omega)
theorem OwnOps.at2 {w : World} {B : Nat} {a : Option Addr} {n c : Nat} {l : List LOp} (h : OwnOps w B (.slice a n c) l) (hz : ∀ o ∈ l, OpSz o) : OpsAt w B w.heap.size a n l := by
  obtain ⟨a1, c1, e, h1⟩ := h.at_ hz
  simp only [Value.slice.injEq] at e
  obtain ⟨rfl, rfl, _⟩ := e
  exact h1
theorem LogCells.zero {W : World} {q : Nat} (h : W.rowIs q 58 4 (zrow #[.int .i64 0, .int .i64 0, .slice none 0 0, .slice none 0 0])) : LogCells W q := ⟨0, 0, none, 0, 0, none, 0, 0, by rw [h.cell (by omega)]; rfl, by rw [h.cell (by omega)]; rfl, by rw [h.cell (by omega)]; rfl, by rw [h.cell (by omega)]; rfl⟩
theorem But.both {W3 V F : World} {rb q : Nat} (h : But rb W3 V) (hb : But q V F) (hq : W3.heap.size ≤ q) (hr : rb ≤ q) : But rb W3 F := ⟨h.below.trans (hb.below.mono hr), fun i hi hl => (hb.block i (by omega) (by have := h.below.size; omega)).trans (h.block i hi hl)⟩
theorem RdTo.both {V F : World} {rb q P : Nat} (h : RdTo V rb P) (hb : But q V F) (hr : rb < q) : RdTo F rb P := by
  obtain ⟨p, hp, R⟩ := h
  exact ⟨p, hp, R.below hb.below hr⟩
theorem RdTo.on {V : World} {rb P P' : Nat} (h : RdTo V rb P) (hP : P ≤ P') : RdTo V rb P' := by
  obtain ⟨p, hp, R⟩ := h
  exact ⟨p, by omega, R⟩
theorem DoneOp.sz {o : LOp} (h : DoneOp o) : OpSz o := h.1.sz
theorem MakeEnd.parts {w w' : World} {l : LLog} {e : Ending} (h : MakeEnd w l e w') : ∃ a c a' c', e = .returned (.agg #[.int .i64 l.who, .int .i64 l.seq, .slice a l.bases.length c, .slice a' l.list.length c']) ∧ OwnBases w' w.heap.size (.slice a l.bases.length c) l.bases ∧ OwnOps w' w.heap.size (.slice a' l.list.length c') l.list ∧ Below w.heap.size w w' := by
  obtain ⟨⟨v1, v2, rfl, h1, h2⟩, hB⟩ := h
  obtain ⟨a, c, rfl⟩ := h1.form
  obtain ⟨a', c', g, cap, f, rfl, _⟩ := h2.row
  exact ⟨a, c, a', c', rfl, h1, h2, hB⟩
theorem logMake_few (os : List LObj) (q s : Int) (ops : List LOp) (hz : ∀ o ∈ ops, OpSz o) : (logMake os q s ops).bases.length ≤ 32 ∧ ∀ o ∈ (logMake os q s ops).list, OpSz o := by
  unfold logMake
  split
  · exact ⟨by rw [basesL_len]; exact logIds_le _, hz⟩
  · exact ⟨by simp, fun o ho => by cases ho⟩
/-- A row of another type is no part of a list of bases. -/
theorem OwnBases.ne_row {W : World} {B q t k : Nat} {v : Value} {l : List LBase} {f : Nat → Value} (h : OwnBases W B v l) (hr : W.rowIs q t k f) (ht : t ≠ 121) : v.ownBlock ≠ some q := fun e => by
  rcases h.2 with ⟨hn, _⟩ | ⟨g, cap, cur, hn, _, hgg, _⟩
  · rw [hn] at e; simp [Value.ownBlock] at e
  · rw [hn] at e
    simp [Value.ownBlock] at e
    subst e
    obtain ⟨cs, h1, _⟩ := hr
    rw [hgg] at h1
    simp at h1
    exact ht h1.2.symm
theorem OwnOps.ne_row {W : World} {B q t k : Nat} {v : Value} {l : List LOp} {f : Nat → Value} (h : OwnOps W B v l) (hr : W.rowIs q t k f) (ht : t ≠ 27) : v.ownBlock ≠ some q := fun e => by
  rcases h.2 with ⟨hn, _⟩ | ⟨g, cap, cur, hn, _, hgg, _⟩
  · rw [hn] at e; simp [Value.ownBlock] at e
  · rw [hn] at e
    simp [Value.ownBlock] at e
    subst e
    obtain ⟨cs, h1, _⟩ := hr
    rw [hgg] at h1
    simp at h1
    exact ht h1.2.symm
theorem OwnBases.rowOf_ {W : World} {B g : Nat} {v : Value} {l : List LBase} (h : OwnBases W B v l) (e : v.ownBlock = some g) : ∃ k f, W.rowIs g 121 k f := by
  rcases h.2 with ⟨hn, _⟩ | ⟨g', cap, cur, hn, _, hgg, _⟩
  · rw [hn] at e; simp [Value.ownBlock] at e
  · rw [hn] at e
    simp [Value.ownBlock] at e
    subst e
    exact ⟨cur.size, fun i => cur[i]?.getD default, ⟨cur, hgg, rfl, fun i hi => by simp [Array.getElem?_eq_getElem hi]⟩⟩

/-- Behind the making of the log: what is new, its box, its lists. -/
structure L5b (W3 W : World) (rb P q8 : Nat) (x y : Int) (a : Option Addr) (k : Nat) (a' : Option Addr) (k' : Nat) (l : LLog) : Prop where
  but : But rb W3 W
  rd : RdTo W rb P
  box : LogBox W q8 x y a l.bases.length k a' l.list.length k'
  row : ∃ f, W.rowIs q8 58 4 f
  lo : W3.heap.size ≤ q8
  who : x = l.who
  seq : y = l.seq
  bases : OwnBases W W3.heap.size (.slice a l.bases.length k) l.bases
  list : OwnOps W W3.heap.size (.slice a' l.list.length k') l.list
  few : l.bases.length ≤ 40
  sz : ∀ o ∈ l.list, OpSz o
theorem L5b.next {W3 W W' : World} {rb P P' q8 : Nat} {x y : Int} {a : Option Addr} {k : Nat} {a' : Option Addr} {k' : Nat} {l : LLog} (h : L5b W3 W rb P q8 x y a k a' k' l) (hr3 : rb < W3.heap.size) (hb : But rb W W') (hr : RdTo W' rb P') : L5b W3 W' rb P' q8 x y a k a' k' l := by
  obtain ⟨f, hf⟩ := h.row
  have hlo := h.lo
  have hk := hb.block q8 (by omega) hf.lt
  exact ⟨h.but.trans hb, hr, h.box.of hk, ⟨f, hf.of_block hk⟩, h.lo, h.who, h.seq, h.bases.but_ hb hr3, h.list.but_ hb hr3, h.few, h.sz⟩
theorem L5b.on {W3 W : World} {rb P P' q8 : Nat} {x y : Int} {a : Option Addr} {k : Nat} {a' : Option Addr} {k' : Nat} {l : LLog} (h : L5b W3 W rb P q8 x y a k a' k' l) (hP : P ≤ P') : L5b W3 W rb P' q8 x y a k a' k' l := by
  obtain ⟨q, hq, R⟩ := h.rd
  exact ⟨h.but, ⟨q, by omega, R⟩, h.box, h.row, h.lo, h.who, h.seq, h.bases, h.list, h.few, h.sz⟩
/-- A cell of the box is written. -/
theorem L5b.put {W3 W : World} {rb P q8 : Nat} {x y x' y' : Int} {a : Option Addr} {k : Nat} {a' : Option Addr} {k' : Nat} {l : LLog} (h : L5b W3 W rb P q8 x y a k a' k' l) (hr3 : rb < W3.heap.size) (W' : World) (hb : But q8 W W') (hf : ∃ f, W'.rowIs q8 58 4 f) (hx : LogBox W' q8 x' y' a l.bases.length k a' l.list.length k') : L5b W3 W' rb P q8 x' y' a k a' k' { l with who := x', seq := y' } := by
  obtain ⟨f, hf0⟩ := h.row
  have hlo := h.lo
  obtain ⟨p, hp, R⟩ := h.rd
  have hg : W.grownBy W' (some q8) := hb.grown
  exact ⟨⟨h.but.below.trans (hb.below.mono (by omega)), fun i hi hl => (hb.block i (by omega) (by have := h.but.below.size; omega)).trans (h.but.block i hi hl)⟩, ⟨p, hp, R.below hb.below (by omega)⟩, hx, hf, h.lo, rfl, rfl, World.ownsRow.kept h.bases hg (.inr (h.bases.ne_row hf0 (by decide))), World.ownsRow.kept h.list hg (.inr (h.list.ne_row hf0 (by decide))), h.few, h.sz⟩

theorem drewL5b {W3 W : World} {rb P q8 : Nat} {x y : Int} {a : Option Addr} {k : Nat} {a' : Option Addr} {k' : Nat} {l : LLog} (hr3 : rb < W3.heap.size) (h : L5b W3 W rb P q8 x y a k a' k' l) : L5b W3 W.drew rb P q8 x y a k a' k' l := by
  obtain ⟨f, hf⟩ := h.row
  obtain ⟨q, hq, R⟩ := h.rd
  have hb : Below W.heap.size W W.drew := (Below.refl _ _).drew
  have hlt := hf.lt
  exact ⟨⟨h.but.below.trans (hb.mono (by have := h.but.below.size; have := h.lo; omega)), fun i hi hl => (hb.block i (by have := h.but.below.size; omega)).trans (h.but.block i hi hl)⟩, ⟨q, hq, R.below hb (by have := h.lo; omega)⟩, h.box.of (hb.block _ hlt), ⟨f, hf.of_block (hb.block _ hlt)⟩, h.lo, h.who, h.seq, h.bases.next hb, h.list.next hb, h.few, h.sz⟩
theorem LogBox.set0 {W : World} {q : Nat} {x y : Int} {a : Option Addr} {n c : Nat} {a' : Option Addr} {n' c' : Nat} (h : LogBox W q x y a n c a' n' c') (v : Int) : LogBox (W.setCell ⟨q, 0, none⟩ (.int .i64 v)) q v y a n c a' n' c' := ⟨by simp [go_sem, h.c0], by simp [go_sem, h.c1], by simp [go_sem, h.c2], by simp [go_sem, h.c3]⟩
theorem LogBox.set1 {W : World} {q : Nat} {x y : Int} {a : Option Addr} {n c : Nat} {a' : Option Addr} {n' c' : Nat} (h : LogBox W q x y a n c a' n' c') (v : Int) : LogBox (W.setCell ⟨q, 1, none⟩ (.int .i64 v)) q x v a n c a' n' c' := ⟨by simp [go_sem, h.c0], by simp [go_sem, h.c1], by simp [go_sem, h.c2], by simp [go_sem, h.c3]⟩
theorem LogBox.set2 {W : World} {q : Nat} {x y : Int} {a : Option Addr} {n c : Nat} {a' : Option Addr} {n' c' : Nat} (h : LogBox W q x y a n c a' n' c') (b : Option Addr) (m d : Nat) : LogBox (W.setCell ⟨q, 2, none⟩ (.slice b m d)) q x y b m d a' n' c' := ⟨by simp [go_sem, h.c0], by simp [go_sem, h.c1], by simp [go_sem, h.c2], by simp [go_sem, h.c3]⟩
theorem ownNe {W : World} {B B' : Nat} {u v : Value} {bs : List LBase} {ops : List LOp} (h : OwnBases W B u bs) (h' : OwnOps W B' v ops) : v.ownBlock = none ∨ v.ownBlock ≠ u.ownBlock := by
  rcases e : v.ownBlock with _ | g
  · exact .inl rfl
  · refine .inr fun e2 => ?_
    obtain ⟨k, f, hr⟩ := h.rowOf_ e2.symm
    exact h'.ne_row hr (by decide) e
/-- One base more. -/
theorem L5b.app {W3 W W' : World} {rb P q8 : Nat} {x y : Int} {a : Option Addr} {k : Nat} {a' : Option Addr} {k' : Nat} {l : LLog} {v : Value} {e : LBase} (h : L5b W3 W rb P q8 x y a k a' k' l) (hr3 : rb < W3.heap.size) (hE : AppBEnd W W' W3.heap.size (.slice a l.bases.length k) v (l.bases ++ [e])) (hn : l.bases.length ≤ 32) :
    ∃ a2 k2, v = .slice a2 (l.bases ++ [e]).length k2 ∧ W'.cell? ⟨q8, 2, none⟩ = some (.slice a l.bases.length k) ∧ W'.frozen? ⟨q8, 2, none⟩ = false ∧ L5b W3 (W'.setCell ⟨q8, 2, none⟩ v) rb P q8 x y a2 k2 a' k' { l with bases := l.bases ++ [e] } := by
  obtain ⟨f, hf⟩ := h.row
  have hlo := h.lo
  obtain ⟨p, hp, R⟩ := h.rd
  have hsz := h.but.below.size
  have hA0 : Below W3.heap.size W W' := below_grown (Below.refl _ _) hE.grown (fun i e => (World.ownsRow.lt h.bases i e).1) hsz
  have hq : W'.heap[q8]? = W.heap[q8]? := hE.grown.block q8 hf.lt (fun e => h.bases.ne_row hf (by decide) e.symm)
  have hf' := hf.of_block hq
  have hx := h.box.of hq
  obtain ⟨a2, k2, hv⟩ := hE.own.form
  subst hv
  have hs := (But.refl q8 W').set 2 (.slice a2 (l.bases ++ [e]).length k2)
  have hl' := World.ownsRow.kept h.list hE.grown (ownNe h.bases h.list)
  refine ⟨a2, k2, rfl, hx.c2, hf'.frozen 2, ⟨?_, ?_⟩, ⟨p, hp, (R.below hA0 hr3).below hs.below (by omega)⟩, hx.set2 _ _ _, ⟨_, hf'.set 2 _⟩, h.lo, h.who, h.seq, World.ownsRow.kept hE.own hs.grown (.inr (hE.own.ne_row hf' (by decide))), World.ownsRow.kept hl' hs.grown (.inr (OwnOps.ne_row hl' hf' (by decide))), by simp; omega, h.sz⟩
  · exact (h.but.below.trans (hA0.mono (by omega))).trans (hs.below.mono (by omega))
  · exact fun i hi hl => (hs.block i (by omega) (by have := hA0.size; omega)).trans ((hA0.block i hl).trans (h.but.block i hi hl))
/-- The first Ver is another one. -/
theorem L5b.ver {W3 W : World} {rb P q8 : Nat} {x y : Int} {a : Option Addr} {k : Nat} {a' : Option Addr} {k' : Nat} {l : LLog} (h : L5b W3 W rb P q8 x y a k a' k' l) (hr3 : rb < W3.heap.size) (hn : 0 < l.bases.length) :
    ∃ g z, a = some ⟨g, 0, none⟩ ∧ g < W.heap.size ∧ q8 ≠ g ∧ W.cell? ⟨g, 1, none⟩ = some (.int .i64 z) ∧ W.frozen? ⟨g, 1, none⟩ = false ∧ ∀ v : Int, ∃ l', l'.bases.length = l.bases.length ∧ l'.list.length = l.list.length ∧ L5b W3 (W.setCell ⟨g, 1, none⟩ (.int .i64 v)) rb P q8 x y a k a' k' l' := by
  obtain ⟨f, hf⟩ := h.row
  have hlo := h.lo
  obtain ⟨p, hp, R⟩ := h.rd
  obtain ⟨e, es, hes⟩ : ∃ e es, l.bases = e :: es := by
    match hb : l.bases, hn with
    | e :: es, _ => exact ⟨e, es, rfl⟩
  have hB := h.bases
  rcases hB.2 with ⟨_, h0⟩ | ⟨g, cap, cur, hv, hg, hgg, hnc, hcm, hcs, htake⟩
  · omega
  simp only [Value.slice.injEq] at hv
  obtain ⟨rfl, _, rfl⟩ := hv
  have hglt : g < W.heap.size := (Array.getElem?_eq_some_iff.1 hgg).1
  have hrow : W.rowIs g 121 cur.size (fun i => cur[i]?.getD default) := ⟨cur, hgg, rfl, fun i hi => by simp [Array.getElem?_eq_getElem hi]⟩
  have hne : q8 ≠ g := fun e => by
    have := hB.ne_row hf (by decide)
    rw [e] at this
    exact this rfl
  have hcur : cur.toList.take (l.bases.length * 2) = baseCells l.bases := htake
  have h1 : cur[1]? = some (.int .i64 e.ver) := by
    have h2 : (cur.toList.take (l.bases.length * 2))[1]? = (baseCells l.bases)[1]? := by rw [hcur]
    rw [hes] at h2
    rw [List.getElem?_take_of_lt (by simp; omega)] at h2
    simpa [baseCells] using h2
  have hlt1 : 1 < cur.size := (Array.getElem?_eq_some_iff.1 h1).1
  refine ⟨g, e.ver, rfl, hglt, hne, by rw [hrow.cell hlt1]; simp [h1], hrow.frozen 1, fun v => ?_⟩
  have hs := (But.refl g W).set 1 (.int .i64 v)
  refine ⟨{ l with bases := { e with ver := v } :: es }, by simp [hes], rfl, ⟨?_, ?_⟩, ⟨p, hp, R.below hs.below (by omega)⟩, ?_, ⟨f, hf.of_block (hs.block _ hne hf.lt)⟩, h.lo, h.who, h.seq, ?_, ?_, by have := h.few; simp [hes] at this ⊢; omega, h.sz⟩
  · exact h.but.below.trans (hs.below.mono (by omega))
  · exact fun i hi hl => (hs.block i (by omega) (by have := h.but.below.size; omega)).trans (h.but.block i hi hl)
  · have := h.box.of (hs.block q8 hne hf.lt)
    simpa [hes] using this
  · have hlen : ({ e with ver := v } :: es : List LBase).length = l.bases.length := by simp [hes]
    obtain ⟨cs, hc1, hc2, hc3⟩ := hrow.set 1 (.int .i64 v)
    have hcs2 : cs.toList = cur.toList.set 1 (.int .i64 v) := by
      refine List.ext_getElem? fun i => ?_
      by_cases hi : i < cur.size
      · have h3 := hc3 i hi
        rw [Array.getElem?_toList, h3, List.getElem?_set]
        by_cases hi1 : i = 1
        · subst hi1; simp [hi]
        · dsimp only
          rw [if_neg hi1, if_neg (fun e => hi1 e.symm)]
          simp [Array.getElem?_eq_getElem hi]
      · rw [List.getElem?_eq_none (by simp; omega), List.getElem?_eq_none (by simp; omega)]
    have hnew : cs.toList.take (l.bases.length * 2) = baseCells ({ e with ver := v } :: es) := by
      rw [hcs2, List.take_set, hcur, hes]
      simp [baseCells]
    unfold OwnBases
    rw [← hlen] at hnc hnew
    exact ⟨by simp [baseCells_len], .inr ⟨g, k, cs, by rw [hlen], hg, hc1, hnc, hcm, by rw [hc2]; exact hcs, hnew⟩⟩
  · exact World.ownsRow.kept h.list hs.grown (.inr fun e2 => OwnOps.ne_row h.list hrow (by decide) e2)

theorem OwnT.other {W W' : World} {B b c q t k : Nat} {os : List LObj} {vs : Nat → Value} {f : Nat → Value} (h : OwnT W B b c os vs) (hb : But q W W') (hq' : W.rowIs q t k f) (h1 : t ≠ 38) (h2 : t ≠ 53) : OwnT W' B b c os vs := by
  obtain ⟨cs, hq, _⟩ := hq'
  obtain ⟨cur, hr, _⟩ := h.row
  refine h.grown hb.grown ?_ fun i hi => ?_
  · intro e
    simp at e
    subst e
    rw [hr] at hq
    simp at hq
    exact h1 hq.2.symm
  · have ho : os[i]? = some os[i] := by simp [hi]
    obtain ⟨_, _, _, _, _, h6, _⟩ := h.at_ i _ ho
    rcases h6.2 with ⟨hn, _⟩ | ⟨g, cap, cur', hn, _, hg, _⟩
    · left; rw [hn]; rfl
    · right
      rw [hn]
      intro e
      simp [Value.ownBlock] at e
      subst e
      rw [hg] at hq
      simp at hq
      exact h2 hq.2.symm
theorem OwnBases.at3 {w : World} {B : Nat} {a : Option Addr} {n c : Nat} {l : List LBase} (h : OwnBases w B (.slice a n c) l) (hl : l.length ≤ 1000) : BasesAt w B w.heap.size a n l := by
  obtain ⟨a1, c1, g, cap, f, e, _, hr, hf⟩ := h.row
  simp only [Value.slice.injEq] at e
  obtain ⟨rfl, rfl, rfl⟩ := e
  exact hr.at_ hf rfl (by unfold maxLen; omega)
theorem OwnOps.capM3 {w : World} {B : Nat} {a : Option Addr} {n c : Nat} {l : List LOp} (h : OwnOps w B (.slice a n c) l) : n ≤ c ∧ c ≤ maxLen := by
  rcases h.2 with ⟨e, h0⟩ | ⟨g, cap, cur, e, _, _, h1, h2, _⟩
  · cases e; exact ⟨by omega, Nat.zero_le _⟩
  · cases e; exact ⟨h1, h2⟩
/-- A tree and a log of one's own. -/
structure Fin5 (w W : World) (rb P b c : Nat) (os : List LObj) (vs : Nat → Value) (a : Option Addr) (k : Nat) (a' : Option Addr) (k' : Nat) (l : LLog) : Prop where
  lo : rb < w.heap.size
  but : But rb w W
  rd : RdTo W rb P
  tree : OwnT W w.heap.size b c os vs
  bases : OwnBases W w.heap.size (.slice a l.bases.length k) l.bases
  list : OwnOps W w.heap.size (.slice a' l.list.length k') l.list
theorem Fin5.step {w W W' : World} {rb P b c q t m : Nat} {os : List LObj} {vs : Nat → Value} {a : Option Addr} {k : Nat} {a' : Option Addr} {k' : Nat} {l : LLog} {f : Nat → Value} (h : Fin5 w W rb P b c os vs a k a' k' l) (hb : But q W W') (hq : w.heap.size ≤ q) (hr : W.rowIs q t m f) (ht : t = 25 ∨ t = 58) : Fin5 w W' rb P b c os vs a k a' k' l := by
  have hlo := h.lo
  exact ⟨h.lo, h.but.both hb hq (by omega), h.rd.both hb (by omega), h.tree.other hb hr (by omega) (by omega), World.ownsRow.kept h.bases hb.grown (.inr (h.bases.ne_row hr (by omega))), World.ownsRow.kept h.list hb.grown (.inr (h.list.ne_row hr (by omega)))⟩
theorem L5b.fin {w W3 W : World} {rb P P' q2 q3 q4 b c q8 : Nat} {os : List LObj} {vs : Nat → Value} {x y : Int} {a : Option Addr} {k : Nat} {a' : Option Addr} {k' : Nat} {l : LLog} (h : L5b W3 W rb P q8 x y a k a' k' l) (h3 : L5 w W3 rb P' q2 q3 q4 b c os vs) : Fin5 w W rb P b c os vs a k a' k' l := by
  have h5 := h3.next h.but h.rd
  have hs := h3.size
  exact ⟨h5.lo, h5.but, h5.rd, h5.tree, h.bases.base (by omega), h.list.base (by omega)⟩
end Go.Proofs.YtnolbfijcnldjaaGreatDoor
