import Derived.Test.YtkllejaamnojpaaSlimS3
import Derived.Deep.RegionHeld
import Derived.OrdersHeld
/- Lists that are made shorter: the specification, what is moved on, again and again. -/
namespace Go.Proofs.Ytkllejaamnojpaa
open Go.RowKit

theorem OwnOps.form_ {w : World} {B : Nat} {v : Value} {l : List LOp} (h : OwnOps w B v l) (hn : 0 < l.length) : ∃ g cap, v = .slice (some ⟨g, 0, none⟩) l.length cap ∧ B ≤ g ∧ g < w.heap.size ∧ l.length ≤ cap := by
  rcases h.2 with ⟨_, h0⟩ | ⟨g, cap, cur, rfl, hb, hg, hnc, _⟩
  · omega
  · exact ⟨g, cap, rfl, hb, (Array.getElem?_eq_some_iff.1 hg).1, hnc⟩
theorem step_app_at (w : World) {ops : Array Oper} {o : Oper} {ac : Act} {K : Act → World → Prop} {Q : Exit → Act → World → Prop} {E : Prop} (hgd : o.guard = none) (s x : Operand)
    (ho : o.op = .call { callee := .builtin .append, args := #[s, x], argTypes := #[23, 23] }) (d : Nat) (hd : o.dst = some d) (B : Nat) (u : Value) (l news : List LOp) (hown : OwnOps w B u l) (a : Option Addr) (m c L U : Nat) (H : OpsAt w L U a m news)
    (hs : ac.eval s = u) (hx : ac.eval x = .slice a m c) (hbd : l.length + m ≤ 1000000) (hB : B ≤ w.heap.size)
    (h : ∀ v w', AppOEnd w w' B u v (l ++ news) → K (ac.put (some d) v) w') :
    if Region.wanted o (yielded ops ac.tmps) = true then Oper.wp Try.prog o ac w K Q else E :=
  step_app_all w hgd s x ho B u l news hown a m c L U H hs hx hbd hB fun v w' hE => by rw [hd]; exact h v w' hE

set_option maxHeartbeats 4000000 in
set_option maxRecDepth 20000 in
theorem l4moves_any (a : Option Addr) (n c : Nat) (ops : List LOp) (L U : Nat) (w : World) (hn : n ≤ 1000) (hU : U ≤ w.heap.size) (H : OpsAt w L U a n ops) :
    Calls Try.prog 73 #[.slice a n c] w (SlimEnd w (movesL ops)) := by
  have hlen : Hid (n = ops.length) := H.len
  have HSZ := H.sz
  go_enter Try.func73, Try.ntmps73
  go_wp2_with (first
    | (at_builtin; refine wpList_app_all _ rfl (.tmp 6) (.tmp 7) rfl w.heap.size _ [] ops (OwnOps.empty w _ (Nat.le_refl _)) a n c L U (H.below ((Below.refl _ _).alloc (Nat.le_refl _) _) hU) rfl rfl ?c2 ?c3 ?_)
    | go_in)
  case c2 => simp; omega
  case c3 => simp
  intro v1 w1 hE1
  have hown1 : OwnOps w1 w.heap.size v1 ops := by simpa using hE1.own
  have hb1 : Below w.heap.size w w1 := hE1.belowW (OwnOps.empty w _ (Nat.le_refl _)) ((Below.refl _ _).alloc (Nat.le_refl _) _) (by simp)
  clear hE1
  go_wp2_with fail
  go_loopg [3, 4] (n * (n + 1) + n) (fun g v q wr => ∃ (j : Nat) (cur : List LOp), q = .int .i64 j ∧ j ≤ cur.length ∧ cur.length ≤ n ∧ Hid (g = cur.length * (n + 1) + (cur.length - j)) ∧ Hid (OwnOps wr w.heap.size v cur) ∧ Hid (movesL cur = movesL ops) ∧ Hid (∀ t, t < j → joinsAt cur t = false) ∧ Hid (∀ o ∈ cur, OpSz o) ∧ Below w.heap.size w wr)
  case atStart => exact ⟨0, ops, rfl, Nat.zero_le _, by have := hlen.out; omega, by show _ = _; rw [← hlen.out]; rfl, hown1, rfl, fun t ht => by omega, HSZ, hb1⟩
  case round =>
    obtain ⟨j, cur, rfl, hj, hcn, hk, hown, hfx, hno, hsz, hb⟩ := hrel
    by_cases hlt : j + 1 < cur.length
    · obtain ⟨g, cap, rfl, hg, hgl, hcap⟩ := hown.out.form_ (by omega)
      have HA : OpsAt wr w.heap.size wr.heap.size (some ⟨g, 0, none⟩) cur.length cur := by
        obtain ⟨va, vc, h, HA⟩ := hown.out.at_ hsz.out
        simp at h
        rw [h.1]; exact HA
      have hlt2 : (j : Int) < (cur.length : Int) := by omega
      have hlt' : (j : Int) + 1 < (cur.length : Int) := by omega
      obtain ⟨j1, HJ1⟩ : ∃ j1, Hid (j1 = j + 1) := ⟨_, rfl⟩
      have hlt3 : (j1 : Int) < (cur.length : Int) := by have := HJ1.out; omega
      have hlt4 : j1 < cur.length := by omega
      obtain ⟨g', off', hgg, _, _, hc⟩ := HA.at_ (by omega)
      simp only [Option.some.injEq, Addr.mk.injEq, and_true] at hgg
      obtain ⟨rfl, rfl⟩ := hgg
      obtain ⟨x, hex, hsx, hatx⟩ := hc j (by omega)
      obtain ⟨y, hey, hsy, haty⟩ := hc (j + 1) (by omega)
      rw [Nat.zero_add] at hatx haty
      have HX : Hid (OpAt wr g (j * 7) x) := hatx
      rw [← HJ1.out] at haty
      have HY : Hid (OpAt wr g (j1 * 7) y) := haty
      have HE : Hid (cur[j]? = some x ∧ cur[j + 1]? = some y) := ⟨hex, hey⟩
      have HJ := joins_any x y
      simp only [LOp.val] at HJ
      obtain ⟨c0, c1, c2, c3, c4, c5, c6⟩ := hatx
      obtain ⟨d0, d1, d2, d3, d4, d5, d6⟩ := haty
      clear hex hey hc hlt
      go_upto_region 5 with fail
      go_cut [25] (fun s wx => s = .bool (joinsB x y) ∧ Below wr.heap.size wr wx)
      case first =>
        clear c0 c1 c2 c3 c4 c5 c6 d0 d1 d2 d3 d4 d5 d6
        refine wp_region_held_drew (S := (fun w' => OpAt w' g (j * 7) x ∧ OpAt w' g (j1 * 7) y)) (by kernel_rfl) ?_ (fun hHeld => ?_)
        · exact ⟨HX.out.of_block rfl, HY.out.of_block rfl⟩
        refine wpAnyH_take (i := 0) (oi := _) (v := ?v0) rfl (by kernel_rfl) (by kernel_rfl) (by kernel_rfl) (fun _ _ _ h => h) (Or.inl ⟨by rfl, ?y0⟩) (by assumption) ?r0
        case y0 => (intro w' hSw; obtain ⟨⟨c0, c1, c2, c3, c4, c5, c6⟩, d0, d1, d2, d3, d4, d5, d6⟩ := hSw; go_simp; try with_reducible rfl)
        try simp only [Act.put]
        refine wpAnyH_take (i := 1) (oi := _) (v := ?v1) rfl (by kernel_rfl) (by kernel_rfl) (by kernel_rfl) (fun _ _ _ h => h) (Or.inl ⟨by rfl, ?y1⟩) (by assumption) ?r1
        case y1 => (intro w' hSw; obtain ⟨⟨c0, c1, c2, c3, c4, c5, c6⟩, d0, d1, d2, d3, d4, d5, d6⟩ := hSw; go_simp; try with_reducible rfl)
        try simp only [Act.put]
        refine wpAnyH_take (i := 2) (oi := _) (v := ?v2) rfl (by kernel_rfl) (by kernel_rfl) (by kernel_rfl) (fun _ _ _ h => h) (Or.inl ⟨by rfl, ?y2⟩) (by assumption) ?r2
        case y2 => (intro w' hSw; obtain ⟨⟨c0, c1, c2, c3, c4, c5, c6⟩, d0, d1, d2, d3, d4, d5, d6⟩ := hSw; go_simp; try with_reducible rfl)
        try simp only [Act.put]
        refine wpAnyH_take (i := 3) (oi := _) (v := ?v3) rfl (by kernel_rfl) (by kernel_rfl) (by kernel_rfl) (fun _ _ _ h => h) (Or.inl ⟨by rfl, ?y3⟩) (by assumption) ?r3
        case y3 => (intro w' hSw; obtain ⟨⟨c0, c1, c2, c3, c4, c5, c6⟩, d0, d1, d2, d3, d4, d5, d6⟩ := hSw; go_simp; try with_reducible rfl)
        try simp only [Act.put]
        refine wpAnyH_take (i := 4) (oi := _) (v := ?v4) rfl (by kernel_rfl) (by kernel_rfl) (by kernel_rfl) (fun _ _ _ h => h) (Or.inl ⟨by rfl, ?y4⟩) (by assumption) ?r4
        case y4 => (intro w' hSw; obtain ⟨⟨c0, c1, c2, c3, c4, c5, c6⟩, d0, d1, d2, d3, d4, d5, d6⟩ := hSw; go_simp; try with_reducible rfl)
        try simp only [Act.put]
        refine wpAnyH_take (i := 5) (oi := _) (v := ?v5) rfl (by kernel_rfl) (by kernel_rfl) (by kernel_rfl) (fun _ _ _ h => h) (Or.inl ⟨by rfl, ?y5⟩) (by assumption) ?r5
        case y5 => (intro w' hSw; obtain ⟨⟨c0, c1, c2, c3, c4, c5, c6⟩, d0, d1, d2, d3, d4, d5, d6⟩ := hSw; go_simp; try with_reducible rfl)
        try simp only [Act.put]
        refine wpAnyH_take (i := 6) (oi := _) (v := .int .i64 (j1 : Int)) rfl (by kernel_rfl) (by kernel_rfl) (by kernel_rfl) (fun _ _ _ h => h) (Or.inl ⟨by rfl, ?y6⟩) (by assumption) ?r6
        case y6 => (intro w' hSw; obtain ⟨⟨c0, c1, c2, c3, c4, c5, c6⟩, d0, d1, d2, d3, d4, d5, d6⟩ := hSw; go_simp; simp only [IntKind.wrap_i64]; have := HJ1.out; omega)
        try simp only [Act.put]
        refine wpAnyH_take (i := 7) (oi := _) (v := ?v7) rfl (by kernel_rfl) (by kernel_rfl) (by kernel_rfl) (fun _ _ _ h => h) (Or.inl ⟨by rfl, ?y7⟩) (by assumption) ?r7
        case y7 => (intro w' hSw; obtain ⟨⟨c0, c1, c2, c3, c4, c5, c6⟩, d0, d1, d2, d3, d4, d5, d6⟩ := hSw; go_simp; try with_reducible rfl)
        try simp only [Act.put]
        refine wpAnyH_take (i := 8) (oi := _) (v := ?v8) rfl (by kernel_rfl) (by kernel_rfl) (by kernel_rfl) (fun _ _ _ h => h) (Or.inl ⟨by rfl, ?y8⟩) (by assumption) ?r8
        case y8 => (intro w' hSw; obtain ⟨⟨c0, c1, c2, c3, c4, c5, c6⟩, d0, d1, d2, d3, d4, d5, d6⟩ := hSw; go_simp; try with_reducible rfl)
        try simp only [Act.put]
        refine wpAnyH_ready (rs := [9]) (by kernel_rfl) (by simp) ?_
        refine AllReadyH.cons (o := _) rfl (fun K hK => ?_) AllReadyH.nil
        go_simp
        refine (HJ _).mono ?_
        rintro e w2 ⟨rfl, hw2⟩
        have HBW : Below wr.heap.size wr w2 := by rw [hw2]; exact ((((Below.refl _ _).alloc (Nat.le_refl _) _).alloc (by simp) _)).drew
        clear hw2
        go_wp2_with fail
        refine hK.out _ _ ?_ (fun hHeld => ?_)
        · exact ⟨HX.out.of_block (HBW.block g hgl), HY.out.of_block (HBW.block g hgl)⟩
        clear hK K
        try simp only [Act.put]
        refine wpAnyH_done (by kernel_rfl) ?_ _
        go_wp2_with fail
        go_meet
        exact ⟨rfl, HBW⟩
      obtain ⟨rfl, hb2⟩ := hcut
      have hlt : j + 1 < cur.length := by have := HJ1.out; omega
      have hbb := hb.trans (hb2.mono hb.size)
      have HOC : Hid (OwnOps wc w.heap.size (.slice (some ⟨g, 0, none⟩) cur.length cap) cur) := hown.out.next hb2
      have hsw := hb2.size
      rcases hjn : joinsB x y with _ | _
      · have HG : Hid (∀ t, t < j + 1 → joinsAt cur t = false) := fun t ht => by
          by_cases e : t = j
          · subst e; rw [joinsAt_of HE.out.1 HE.out.2]; exact hjn
          · exact hno.out t (by omega)
        clear hjn hno hown HX HY c0 c1 c2 c3 c4 c5 c6 d0 d1 d2 d3 d4 d5 d6 HJ HA
        go_wp2_with fail
        go_roundg (cur.length * (n + 1) + (cur.length - (j + 1)))
        case measure => have := hk.out; omega
        case rel => exact ⟨j + 1, cur, by go_num, by omega, hcn, rfl, HOC.out, hfx.out, HG.out, hsz.out, hbb⟩
      · have HST : Hid (moveStep cur = some (cur.take j ++ joinL x y ++ cur.drop (j + 2))) := fix_join HE.out.1 HE.out.2 hjn hno.out
        have HJT : Hid (joinsB x y = true) := hjn
        clear hjn hno hown c0 c1 c2 c3 c4 c5 c6 d0 d1 d2 d3 d4 d5 d6 HJ
        obtain ⟨W5, rfl⟩ : ∃ W5, W5 = wc := ⟨_, rfl⟩
        have HAC := HA.below hb2 (Nat.le_refl _)
        have HX1 : Hid (OpAt W5 g (j * 7) x) := HX.out.of_block (hb2.block g hgl)
        have HY1 : Hid (OpAt W5 g (j1 * 7) y) := HY.out.of_block (hb2.block g hgl)
        have HJN := join_any x y
        simp only [LOp.val] at HJN
        have HZJ : Hid (∀ o ∈ joinL x y, OpSz o) := by
          intro o ho
          unfold joinL at ho
          split at ho
          · cases ho
          · simp at ho; subst ho; exact sz_keeps x y hsx hsy HJT.out
        have hle2 : j + 2 ≤ cur.length := by omega
        have HAW : ∀ o1, OpsAt (W5.alloc o1) w.heap.size wr.heap.size (some ⟨g, 0, none⟩) cur.length cur := fun o1 => HAC.below ((Below.refl _ _).alloc (Nat.le_refl _) _) hsw
        clear HA hlt' hlt2 hlt3 hlt4 HX HY
        go_upto_region 6 with fail
        go_cut [5] (fun s wx => Hid (OwnOps wx W5.heap.size s (cur.drop (j + 2))) ∧ Below W5.heap.size W5 wx)
        case first =>
          by_cases hcj : j + 2 = cap
          · subst hcj
            have hz : cur.drop (j + 2) = [] := List.drop_of_length_le (by omega)
            go_wp2_with (first
              | (at_builtin; refine wpList_app_all _ rfl (.tmp 26) (.tmp 30) rfl W5.heap.size _ [] (cur.drop (j + 2)) (OwnOps.empty W5 _ (Nat.le_refl _)) _ _ _ W5.heap.size W5.heap.size ?c1 rfl rfl ?c2 ?c3 ?_)
              | go_in)
            case c1 => have h0 : cur.length - (j + 2) = 0 := by omega
                       rw [hz, h0]; exact OpsAt.none_ _ _ _ _
            case c2 => simp; omega
            case c3 => simp
            intro v5 w5 hE5
            have HO5 : Hid (OwnOps w5 W5.heap.size v5 (cur.drop (j + 2))) := by show OwnOps _ _ _ _; first | exact hE5.own | (rw [hz]; exact hE5.own)
            have hb5 : Below W5.heap.size W5 w5 := hE5.belowW (OwnOps.empty W5 _ (Nat.le_refl _)) ((Below.refl _ _).alloc (Nat.le_refl _) _) (by simp)
            clear hE5
            go_wp2_with fail
            go_meet
            exact ⟨HO5, hb5⟩
          · go_wp2_with (first
              | (at_builtin; refine wpList_app_all _ rfl (.tmp 26) (.tmp 30) rfl W5.heap.size _ [] (cur.drop (j + 2)) (OwnOps.empty W5 _ (Nat.le_refl _)) _ _ _ w.heap.size wr.heap.size ?c1 rfl rfl ?c2 ?c3 ?_)
              | go_in)
            case c1 => have := (HAW (Obj.cells #[] 30)).drop_ (k := j + 2) hle2
                       rw [Nat.zero_add] at this; exact this
            case c2 => simp; omega
            case c3 => simp
            intro v5 w5 hE5
            have HO5 : Hid (OwnOps w5 W5.heap.size v5 (cur.drop (j + 2))) := by show OwnOps _ _ _ _; first | exact hE5.own | (rw [hz]; exact hE5.own)
            have hb5 : Below W5.heap.size W5 w5 := hE5.belowW (OwnOps.empty W5 _ (Nat.le_refl _)) ((Below.refl _ _).alloc (Nat.le_refl _) _) (by simp)
            clear hE5
            go_wp2_with fail
            go_meet
            exact ⟨HO5, hb5⟩
        obtain ⟨HO6, hb6'⟩ := hcut
        obtain ⟨at5, c5, hv5, HT5⟩ := HO6.out.at_ (fun o ho => hsz.out o (List.mem_of_mem_drop ho))
        rw [List.length_drop] at hv5 HT5
        subst hv5
        obtain ⟨w6, rfl⟩ : ∃ w6, w6 = wc := ⟨_, rfl⟩
        have hb6 : Below w.heap.size w w6 := hbb.trans (hb6'.mono hbb.size)
        have HT : Hid (OpsAt w6 W5.heap.size w6.heap.size at5 (cur.length - (j + 2)) (cur.drop (j + 2))) := HT5
        have HL : Hid (OwnOps w6 w.heap.size (.slice (some ⟨g, 0, none⟩) j cap) (cur.take j)) := (HOC.out.next hb6').cut rfl (by omega)
        have hjl : (joinL x y).length ≤ 1 := by unfold joinL; split <;> simp
        have hsw6 := hb6'.size
        have hlt2 : (j : Int) < (cur.length : Int) := by omega
        have hlt3 : (j1 : Int) < (cur.length : Int) := by have := HJ1.out; omega
        have hjc : j ≤ cap := by omega
        have hjcI : (j : Int) ≤ (cap : Int) := by omega
        obtain ⟨c0, c1, c2, c3, c4, c5', c6⟩ := HX1.out.of_block (hb6'.block g (by omega))
        obtain ⟨d0, d1, d2, d3, d4, d5, d6⟩ := HY1.out.of_block (hb6'.block g (by omega))
        clear HT5 HO6 HAC HAW HX1 HY1
        go_upto_region 7 with fail
        go_cut [3] (fun s wx => Hid (OwnOps wx w.heap.size s (cur.take j ++ joinL x y ++ cur.drop (j + 2))) ∧ Below w.heap.size w wx)
        case first =>
          refine wp_region_held_drew (S := fun _ => True) (by kernel_rfl) trivial (fun hHeld => ?_)
          refine wpAnyH_take (i := 0) (oi := _) (v := ?va0) rfl (by kernel_rfl) (by kernel_rfl) (by kernel_rfl) (fun _ _ _ h => h) (Or.inl ⟨by rfl, ?ya0⟩) (by assumption) ?ra0
          case ya0 => (intro w' _; go_simp; try with_reducible rfl)
          try simp only [Act.put]
          refine wpAnyH_take (i := 1) (oi := _) (v := ?va1) rfl (by kernel_rfl) (by kernel_rfl) (by kernel_rfl) (fun _ _ _ h => h) (Or.inl ⟨by rfl, ?ya1⟩) (by assumption) ?ra1
          case ya1 => (intro w' _; go_simp; try with_reducible rfl)
          try simp only [Act.put]
          refine wpAnyH_take (i := 2) (oi := _) (v := ?va2) rfl (by kernel_rfl) (by kernel_rfl) (by kernel_rfl) (fun _ _ _ h => h) (Or.inl ⟨by rfl, ?ya2⟩) (by assumption) ?ra2
          case ya2 => (intro w' _; go_simp; try with_reducible rfl)
          try simp only [Act.put]
          refine wpAnyH_take (i := 3) (oi := _) (v := ?va3) rfl (by kernel_rfl) (by kernel_rfl) (by kernel_rfl) (fun _ _ _ h => h) (Or.inl ⟨by rfl, ?ya3⟩) (by assumption) ?ra3
          case ya3 => (intro w' _; go_simp; try with_reducible rfl)
          try simp only [Act.put]
          refine wpAnyH_take (i := 4) (oi := _) (v := ?va4) rfl (by kernel_rfl) (by kernel_rfl) (by kernel_rfl) (fun _ _ _ h => h) (Or.inl ⟨by rfl, ?ya4⟩) (by assumption) ?ra4
          case ya4 => (intro w' _; go_simp; try with_reducible rfl)
          try simp only [Act.put]
          refine wpAnyH_take (i := 5) (oi := _) (v := ?va5) rfl (by kernel_rfl) (by kernel_rfl) (by kernel_rfl) (fun _ _ _ h => h) (Or.inl ⟨by rfl, ?ya5⟩) (by assumption) ?ra5
          case ya5 => (intro w' _; go_simp; try with_reducible rfl)
          try simp only [Act.put]
          refine wpAnyH_take (i := 7) (oi := _) (v := ?va7) rfl (by kernel_rfl) (by kernel_rfl) (by kernel_rfl) (fun _ _ _ h => h) (Or.inl ⟨by rfl, ?ya7⟩) (by assumption) ?ra7
          case ya7 => (intro w' _; go_simp; try with_reducible rfl)
          try simp only [Act.put]
          refine wpAnyH_take (i := 8) (oi := _) (v := ?va8) rfl (by kernel_rfl) (by kernel_rfl) (by kernel_rfl) (fun _ _ _ h => h) (Or.inl ⟨by rfl, ?ya8⟩) (by assumption) ?ra8
          case ya8 => (intro w' _; go_simp; try with_reducible rfl)
          try simp only [Act.put]
          refine wpAnyH_take (i := 9) (oi := _) (v := .int .i64 (j1 : Int)) rfl (by kernel_rfl) (by kernel_rfl) (by kernel_rfl) (fun _ _ _ h => h) (Or.inl ⟨by rfl, ?ya9⟩) (by assumption) ?ra9
          case ya9 => (intro w' _; go_simp; simp only [IntKind.wrap_i64]; have := HJ1.out; omega)
          try simp only [Act.put]
          refine wpAnyH_take (i := 10) (oi := _) (v := ?va10) rfl (by kernel_rfl) (by kernel_rfl) (by kernel_rfl) (fun _ _ _ h => h) (Or.inl ⟨by rfl, ?ya10⟩) (by assumption) ?ra10
          case ya10 => (intro w' _; go_simp; try with_reducible rfl)
          try simp only [Act.put]
          refine wpAnyH_take (i := 14) (oi := _) (v := ?va14) rfl (by kernel_rfl) (by kernel_rfl) (by kernel_rfl) (fun _ _ _ h => h) (Or.inl ⟨by rfl, ?ya14⟩) (by assumption) ?ra14
          case ya14 => (intro w' _; go_simp; try with_reducible rfl)
          try simp only [Act.put]
          refine wpAnyH_ready (rs := [6, 11]) (by kernel_rfl) (by simp) ?_
          refine AllReadyH.cons (o := _) rfl (fun K hK => ?_) (AllReadyH.cons (o := _) rfl (fun K hK => ?_) AllReadyH.nil)
          · go_simp
            refine hK.out _ _ trivial (fun _ => ?_)
            clear hK K
            try simp only [Act.put]
            refine wpAnyH_ready (rs := [11]) (by kernel_rfl) (by simp) ?_
            refine AllReadyH.cons (o := _) rfl (fun K hK => ?_) AllReadyH.nil
            go_simp
            refine hK.out _ _ trivial (fun _ => ?_)
            clear hK K
            try simp only [Act.put]
            refine wpAnyH_ready (rs := [12]) (by kernel_rfl) (by simp) ?_
            refine AllReadyH.cons (o := _) rfl (fun K hK => ?_) AllReadyH.nil
            go_simp
            refine (HJN _).mono ?_
            rintro e w7 ⟨⟨vj, rfl, hoj⟩, hbj⟩
            obtain ⟨aj, cj, rfl, HAJ⟩ := hoj.at_ HZJ.out
            have Hbj : Below w6.heap.size w6 w7 := ((Below.refl _ _).drew.trans (hbj.mono (by simp)))
            have HAJ2 : Hid (OpsAt w7 w6.heap.size w7.heap.size aj (joinL x y).length (joinL x y)) := HAJ.wide (by simp) (Nat.le_refl _)
            clear hoj hbj HAJ
            go_wp2_with fail
            refine hK.out _ _ trivial (fun _ => ?_)
            clear hK K
            try simp only [Act.put]
            refine wpAnyH_ready (rs := [13]) (by kernel_rfl) (by simp) ?_
            refine AllReadyH.cons (o := _) rfl (fun K hK => ?_) AllReadyH.nil
            refine step_app_at _ rfl (.tmp 34) (.tmp 44) rfl 45 rfl w.heap.size _ (cur.take j) (joinL x y) ((HL.out.next Hbj)) aj _ cj _ _ HAJ2.out (by simp [Act.eval]) (by simp [Act.eval]) (by simp; omega) (by have := Hbj.size; omega) ?_
            intro v8 w8 hE8
            refine hK.out _ _ trivial (fun _ => ?_)
            clear hK K
            try simp only [Act.put]
            refine wpAnyH_ready (rs := [15]) (by kernel_rfl) (by simp) ?_
            refine AllReadyH.cons (o := _) rfl (fun K hK => ?_) AllReadyH.nil
            refine step_app_at _ rfl (.tmp 45) (.tmp 46) rfl 47 rfl w.heap.size _ (cur.take j ++ joinL x y) (cur.drop (j + 2)) hE8.own at5 _ c5 W5.heap.size w6.heap.size ((HT.out.below Hbj (Nat.le_refl _)).grown hE8.grown (fun k hk => by simp [Value.ownBlock] at hk; omega) Hbj.size) (by simp [Act.eval]) (by simp [Act.eval]) (by simp; omega) (by have := Hbj.size; have := hE8.grown.size; omega) ?_
            intro v9 w9 hE9
            refine hK.out _ _ trivial (fun _ => ?_)
            clear hK K
            try simp only [Act.put]
            refine wpAnyH_ready (rs := [16]) (by kernel_rfl) (by simp) ?_
            refine AllReadyH.cons (o := _) rfl (fun K hK => ?_) AllReadyH.nil
            go_simp
            refine hK.out _ _ trivial (fun _ => ?_)
            clear hK K
            try simp only [Act.put]
            refine wpAnyH_done (by kernel_rfl) ?_ _
            have HB9 : Below w.heap.size w w9 := hE9.belowW hE8.own (hE8.belowW (HL.out.next Hbj) (hb6.trans (Hbj.mono hb6.size)) (by have := Hbj.size; omega)) (by have := Hbj.size; have := hE8.grown.size; omega)
            go_wp2_with fail
            go_meet
            exact ⟨hE9.own, HB9⟩
          · go_simp
            refine hK.out _ _ trivial (fun _ => ?_)
            clear hK K
            try simp only [Act.put]
            refine wpAnyH_ready (rs := [6]) (by kernel_rfl) (by simp) ?_
            refine AllReadyH.cons (o := _) rfl (fun K hK => ?_) AllReadyH.nil
            go_simp
            refine hK.out _ _ trivial (fun _ => ?_)
            clear hK K
            try simp only [Act.put]
            refine wpAnyH_ready (rs := [12]) (by kernel_rfl) (by simp) ?_
            refine AllReadyH.cons (o := _) rfl (fun K hK => ?_) AllReadyH.nil
            go_simp
            refine (HJN _).mono ?_
            rintro e w7 ⟨⟨vj, rfl, hoj⟩, hbj⟩
            obtain ⟨aj, cj, rfl, HAJ⟩ := hoj.at_ HZJ.out
            have Hbj : Below w6.heap.size w6 w7 := ((Below.refl _ _).drew.trans (hbj.mono (by simp)))
            have HAJ2 : Hid (OpsAt w7 w6.heap.size w7.heap.size aj (joinL x y).length (joinL x y)) := HAJ.wide (by simp) (Nat.le_refl _)
            clear hoj hbj HAJ
            go_wp2_with fail
            refine hK.out _ _ trivial (fun _ => ?_)
            clear hK K
            try simp only [Act.put]
            refine wpAnyH_ready (rs := [13]) (by kernel_rfl) (by simp) ?_
            refine AllReadyH.cons (o := _) rfl (fun K hK => ?_) AllReadyH.nil
            refine step_app_at _ rfl (.tmp 34) (.tmp 44) rfl 45 rfl w.heap.size _ (cur.take j) (joinL x y) ((HL.out.next Hbj)) aj _ cj _ _ HAJ2.out (by simp [Act.eval]) (by simp [Act.eval]) (by simp; omega) (by have := Hbj.size; omega) ?_
            intro v8 w8 hE8
            refine hK.out _ _ trivial (fun _ => ?_)
            clear hK K
            try simp only [Act.put]
            refine wpAnyH_ready (rs := [15]) (by kernel_rfl) (by simp) ?_
            refine AllReadyH.cons (o := _) rfl (fun K hK => ?_) AllReadyH.nil
            refine step_app_at _ rfl (.tmp 45) (.tmp 46) rfl 47 rfl w.heap.size _ (cur.take j ++ joinL x y) (cur.drop (j + 2)) hE8.own at5 _ c5 W5.heap.size w6.heap.size ((HT.out.below Hbj (Nat.le_refl _)).grown hE8.grown (fun k hk => by simp [Value.ownBlock] at hk; omega) Hbj.size) (by simp [Act.eval]) (by simp [Act.eval]) (by simp; omega) (by have := Hbj.size; have := hE8.grown.size; omega) ?_
            intro v9 w9 hE9
            refine hK.out _ _ trivial (fun _ => ?_)
            clear hK K
            try simp only [Act.put]
            refine wpAnyH_ready (rs := [16]) (by kernel_rfl) (by simp) ?_
            refine AllReadyH.cons (o := _) rfl (fun K hK => ?_) AllReadyH.nil
            go_simp
            refine hK.out _ _ trivial (fun _ => ?_)
            clear hK K
            try simp only [Act.put]
            refine wpAnyH_done (by kernel_rfl) ?_ _
            have HB9 : Below w.heap.size w w9 := hE9.belowW hE8.own (hE8.belowW (HL.out.next Hbj) (hb6.trans (Hbj.mono hb6.size)) (by have := Hbj.size; omega)) (by have := Hbj.size; have := hE8.grown.size; omega)
            go_wp2_with fail
            go_meet
            exact ⟨hE9.own, HB9⟩
        obtain ⟨HO9, hb9⟩ := hcut
        have hlt2 := moves_shrink _ _ HST.out
        have HF : Hid (movesL (cur.take j ++ joinL x y ++ cur.drop (j + 2)) = movesL ops) := by
          show _ = _
          rw [← hfx.out]
          exact (fixL_some moves_shrink HST.out).symm
        have HZ : Hid (∀ o ∈ cur.take j ++ joinL x y ++ cur.drop (j + 2), OpSz o) := fun o ho => (moveStep_all sz_keeps HST.out ⟨hsz.out, Nat.le_refl _⟩).1 o ho
        generalize cur.take j ++ joinL x y ++ cur.drop (j + 2) = nx at *
        clear HST hfx hsz
        go_wp2_with fail
        go_roundg (nx.length * (n + 1) + (nx.length - 0))
        case measure =>
          have := hk.out
          have h1 : (nx.length + 1) * (n + 1) ≤ cur.length * (n + 1) := Nat.mul_le_mul_right _ hlt2
          rw [Nat.add_mul] at h1
          omega
        case rel => exact ⟨0, nx, by go_num, Nat.zero_le _, by omega, rfl, HO9.out, HF.out, fun t ht => by omega, HZ.out, hb9⟩
    · have hown' := hown.out
      have : moveStep cur = none := fix_nojoin (by omega) hno.out
      have HR : Hid (movesL ops = cur) := by show _ = _; rw [← hfx.out]; exact fixL_none this
      have hlt' : ¬ (j : Int) + 1 < (cur.length : Int) := by omega
      obtain ⟨va, vc, rfl, HA⟩ := hown.out.at_ hsz.out
      go_wp2_with fail
      go_ret
      exact ⟨⟨_, rfl, by rw [HR.out]; exact hown'⟩, hb⟩
end Go.Proofs.Ytkllejaamnojpaa
