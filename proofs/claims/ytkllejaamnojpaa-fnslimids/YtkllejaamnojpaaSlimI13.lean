import Derived.Test.YtkllejaamnojpaaSlimI12
/- Lists that are made shorter: the program: what moves on, again and again. -/
namespace Go.Proofs.Ytkllejaamnojpaa
open Go.RowKit

set_option maxHeartbeats 4000000 in
set_option maxRecDepth 20000 in
theorem joinFirst_any (a : Option Addr) (n c : Nat) (ops : List LOp) (L U : Nat) (w : World) (hn : n ≤ 1000) (hU : U ≤ w.heap.size) (H : OpsAt w L U a n ops) :
    Calls Try.prog 72 #[.slice a n c] w (SlimEnd w (orSame moveStep ops)) := by
  have hlen : Hid (n = ops.length) := H.len
  go_enter Try.func72, Try.ntmps72
  go_wp2_with fail
  go_loopg [3] n (fun g k wr => ∃ j j1 : Nat, Hid (j1 = j + 1) ∧ j ≤ n ∧ Hid (g = n - j) ∧ k = .int .i64 (j1 : Nat) ∧ Hid (∀ t, t < j → joinsAt ops t = false) ∧ Below w.heap.size w wr)
  case atStart => exact ⟨0, 1, rfl, Nat.zero_le _, rfl, rfl, fun t ht => by omega, Below.refl _ _⟩
  case round =>
    obtain ⟨j, j1, HJ1, hj, hk, rfl, hno, hb⟩ := hrel
    by_cases hlt : j + 1 < n
    · obtain ⟨b, off, ha, hL, hbU, hc⟩ := H.at_ (by omega)
      subst ha
      obtain ⟨x, hx, hsx, hatx⟩ := hc j (by omega)
      obtain ⟨y, hy, hsy, haty⟩ := hc (j + 1) (by omega)
      rw [← HJ1.out] at haty
      have hsz := hb.size
      have hbl : b < wr.heap.size := by omega
      have HXA : Hid (OpAt wr b (off + j * 7) x) := hatx.of_block (hb.block b (by omega))
      have HYA : Hid (OpAt wr b (off + j1 * 7) y) := haty.of_block (hb.block b (by omega))
      have HE : Hid (ops[j]? = some x ∧ ops[j + 1]? = some y) := ⟨hx, hy⟩
      have hltj : (j : Int) < (n : Int) := by omega
      have hlt1 : (j1 : Int) < (n : Int) := by have := HJ1.out; omega
      have HMO := movesOn_any x y
      simp only [LOp.val] at HMO
      clear hc hx hy hatx haty
      go_upto_region 4 with fail
      go_cut [19] (fun s wx => s = .bool (joinsB x y) ∧ Below wr.heap.size wr wx)
      case first =>
        refine wp_region_held_drew (S := (fun W => OpAt W b (off + j * 7) x ∧ OpAt W b (off + j1 * 7) y)) (by kernel_rfl) ?_ (fun hHeld => ?_)
        · exact ⟨HXA.out.of_block rfl, HYA.out.of_block rfl⟩
        refine listH (l2 := #[false, false, false, false, false, false, false, false, false, false]) (by kernel_rfl) ?_
        refine takeH (i := 0) (oi := _) (v := ?vz0) 10 #[true, false, false, false, false, false, false, false, false, false] rfl (by kernel_rfl) (by kernel_rfl) (by kernel_rfl) rfl (by kernel_rfl) (fun _ _ _ h => h) (Or.inl ⟨by rfl, ?yz0⟩) (by assumption) ?rz0
        case yz0 => (intro w' hSw; obtain ⟨⟨c0, c1, c2, c3, c4, c5, c6⟩, d0, d1, d2, d3, d4, d5, d6⟩ := hSw; go_simp; try with_reducible rfl)
        simp only [Act.put, List.setIfInBounds_toArray, List.set_cons_succ, List.set_cons_zero]
        refine takeH (i := 1) (oi := _) (v := ?vz1) 11 #[true, true, false, false, false, false, false, false, false, false] rfl (by kernel_rfl) (by kernel_rfl) (by kernel_rfl) rfl (by kernel_rfl) (fun _ _ _ h => h) (Or.inl ⟨by rfl, ?yz1⟩) (by assumption) ?rz1
        case yz1 => (intro w' hSw; obtain ⟨⟨c0, c1, c2, c3, c4, c5, c6⟩, d0, d1, d2, d3, d4, d5, d6⟩ := hSw; go_simp; try with_reducible rfl)
        simp only [Act.put, List.setIfInBounds_toArray, List.set_cons_succ, List.set_cons_zero]
        refine takeH (i := 2) (oi := _) (v := (.int .i64 (j : Int))) 12 #[true, true, true, false, false, false, false, false, false, false] rfl (by kernel_rfl) (by kernel_rfl) (by kernel_rfl) rfl (by kernel_rfl) (fun _ _ _ h => h) (Or.inl ⟨by rfl, ?yz2⟩) (by assumption) ?rz2
        case yz2 => (intro w' hSw; obtain ⟨⟨c0, c1, c2, c3, c4, c5, c6⟩, d0, d1, d2, d3, d4, d5, d6⟩ := hSw; go_simp; simp only [IntKind.wrap_i64]; have := HJ1.out; omega)
        simp only [Act.put, List.setIfInBounds_toArray, List.set_cons_succ, List.set_cons_zero]
        refine takeH (i := 3) (oi := _) (v := ?vz3) 13 #[true, true, true, true, false, false, false, false, false, false] rfl (by kernel_rfl) (by kernel_rfl) (by kernel_rfl) rfl (by kernel_rfl) (fun _ _ _ h => h) (Or.inl ⟨by rfl, ?yz3⟩) (by assumption) ?rz3
        case yz3 => (intro w' hSw; obtain ⟨⟨c0, c1, c2, c3, c4, c5, c6⟩, d0, d1, d2, d3, d4, d5, d6⟩ := hSw; go_simp; try with_reducible rfl)
        simp only [Act.put, List.setIfInBounds_toArray, List.set_cons_succ, List.set_cons_zero]
        refine takeH (i := 4) (oi := _) (v := ?vz4) 14 #[true, true, true, true, true, false, false, false, false, false] rfl (by kernel_rfl) (by kernel_rfl) (by kernel_rfl) rfl (by kernel_rfl) (fun _ _ _ h => h) (Or.inl ⟨by rfl, ?yz4⟩) (by assumption) ?rz4
        case yz4 => (intro w' hSw; obtain ⟨⟨c0, c1, c2, c3, c4, c5, c6⟩, d0, d1, d2, d3, d4, d5, d6⟩ := hSw; go_simp; try with_reducible rfl)
        simp only [Act.put, List.setIfInBounds_toArray, List.set_cons_succ, List.set_cons_zero]
        refine takeH (i := 5) (oi := _) (v := ?vz5) 15 #[true, true, true, true, true, true, false, false, false, false] rfl (by kernel_rfl) (by kernel_rfl) (by kernel_rfl) rfl (by kernel_rfl) (fun _ _ _ h => h) (Or.inl ⟨by rfl, ?yz5⟩) (by assumption) ?rz5
        case yz5 => (intro w' hSw; obtain ⟨⟨c0, c1, c2, c3, c4, c5, c6⟩, d0, d1, d2, d3, d4, d5, d6⟩ := hSw; go_simp; try with_reducible rfl)
        simp only [Act.put, List.setIfInBounds_toArray, List.set_cons_succ, List.set_cons_zero]
        refine takeH (i := 6) (oi := _) (v := ?vz6) 16 #[true, true, true, true, true, true, true, false, false, false] rfl (by kernel_rfl) (by kernel_rfl) (by kernel_rfl) rfl (by kernel_rfl) (fun _ _ _ h => h) (Or.inl ⟨by rfl, ?yz6⟩) (by assumption) ?rz6
        case yz6 => (intro w' hSw; obtain ⟨⟨c0, c1, c2, c3, c4, c5, c6⟩, d0, d1, d2, d3, d4, d5, d6⟩ := hSw; go_simp; try with_reducible rfl)
        simp only [Act.put, List.setIfInBounds_toArray, List.set_cons_succ, List.set_cons_zero]
        refine takeH (i := 7) (oi := _) (v := ?vz7) 17 #[true, true, true, true, true, true, true, true, false, false] rfl (by kernel_rfl) (by kernel_rfl) (by kernel_rfl) rfl (by kernel_rfl) (fun _ _ _ h => h) (Or.inl ⟨by rfl, ?yz7⟩) (by assumption) ?rz7
        case yz7 => (intro w' hSw; obtain ⟨⟨c0, c1, c2, c3, c4, c5, c6⟩, d0, d1, d2, d3, d4, d5, d6⟩ := hSw; go_simp; try with_reducible rfl)
        simp only [Act.put, List.setIfInBounds_toArray, List.set_cons_succ, List.set_cons_zero]
        refine takeH (i := 8) (oi := _) (v := ?vz8) 18 #[true, true, true, true, true, true, true, true, true, false] rfl (by kernel_rfl) (by kernel_rfl) (by kernel_rfl) rfl (by kernel_rfl) (fun _ _ _ h => h) (Or.inl ⟨by rfl, ?yz8⟩) (by assumption) ?rz8
        case yz8 => (intro w' hSw; obtain ⟨⟨c0, c1, c2, c3, c4, c5, c6⟩, d0, d1, d2, d3, d4, d5, d6⟩ := hSw; go_simp; try with_reducible rfl)
        simp only [Act.put, List.setIfInBounds_toArray, List.set_cons_succ, List.set_cons_zero]
        refine wpAnyH_ready (rs := [9]) (by kernel_rfl) (by simp) ?_
        refine AllReadyH.cons (o := _) rfl (fun K hK => ?_) AllReadyH.nil
        go_simp
        refine (HMO _).mono ?_
        rintro e V9 ⟨rfl, hb9⟩
        have HBW : Below wr.heap.size wr V9 := (Below.refl _ _).drew.trans (hb9.mono (by simp))
        go_wp2_with fail
        refine hK.out _ _ ?_ (fun hHeld => ?_)
        · exact ⟨HXA.out.of_block (HBW.block b hbl), HYA.out.of_block (HBW.block b hbl)⟩
        clear hK K
        try simp only [Act.put]
        refine listH (l2 := #[true, true, true, true, true, true, true, true, true, true]) (by kernel_rfl) ?_
        refine wpAnyH_done (by kernel_rfl) ?_ _
        go_wp2_with fail
        go_meet
        exact ⟨rfl, HBW⟩
      obtain ⟨rfl, hb2⟩ := hcut
      have hbb := hb.trans (hb2.mono hb.size)
      rcases hjn : joinsB x y with _ | _
      · have HN : Hid (∀ t, t < j + 1 → joinsAt ops t = false) := fun t ht => by
          by_cases e : t = j
          · subst e; rw [joinsAt_of HE.out.1 HE.out.2]; exact hjn
          · exact hno.out t (by omega)
        clear hjn hno HXA HYA HMO
        go_wp2_with fail
        go_roundg (n - (j + 1))
        case measure => have := hk.out; omega
        case rel => exact ⟨j + 1, j1 + 1, by show _ = _; rw [HJ1.out], by omega, rfl, by go_num, HN.out, hbb⟩
      · have HR : Hid (orSame moveStep ops = ops.take j ++ joinL x y ++ ops.drop (j + 2)) := by show _ = _; unfold orSame; rw [fix_join HE.out.1 HE.out.2 hjn hno.out]; rfl
        have HJA := joinAt_any (some ⟨b, off, none⟩) n c ops L U j j1 x y wc HJ1.out hn (by have := hbb.size; omega) (H.below hbb hU) hlt HE.out.1 HE.out.2 hjn
        clear hjn hno HXA HYA HMO
        go_wp2_with fail
        refine HJA.mono ?_
        rintro e w2 hE
        obtain ⟨⟨v, rfl, ho⟩, hb3⟩ := hE.later hbb
        clear HJA
        go_wp2_with fail
        go_ret
        exact ⟨⟨_, rfl, by rw [HR.out]; exact ho⟩, hb3⟩
    · have HR : Hid (orSame moveStep ops = ops) := by show _ = _; unfold orSame; rw [fix_nojoin (j := j) (by have := hlen.out; omega) hno.out]; rfl
      have hlt1 : ¬ (j1 : Int) < (n : Int) := by have := HJ1.out; omega
      clear hno
      go_wp2_with fail
      refine (copy_list a n c ops L U _ hn (H.below hb hU)).mono ?_
      rintro e w2 hE
      obtain ⟨⟨v, rfl, ho⟩, hb2⟩ := hE.later hb
      go_wp2_with fail
      go_ret
      exact ⟨⟨_, rfl, by rw [HR.out]; exact ho⟩, hb2⟩

set_option maxHeartbeats 1000000 in
theorem byOne41 (a : Option Addr) (n c : Nat) (ops : List LOp) (L U : Nat) (w : World) (hU : U ≤ w.heap.size) (H : OpsAt w L U a n ops) :
    Calls Try.prog 69 #[.slice a n c, .func (.func 72) #[] #[]] w (SlimEnd w (ifOk movesL ops)) := by
  have hlen : Hid (n = ops.length) := H.len
  go_enter Try.func69, Try.ntmps69
  go_wp2_with fail
  refine (listOk_any a n c ops L U _ hU H).mono ?_
  rintro e w1 ⟨rfl, hb1⟩
  rcases hf : formsB ops with _ | _
  · have HR : Hid (ifOk movesL ops = []) := ifOk_no hf
    clear hf
    go_wp2_with fail
    go_ret
    exact ⟨⟨_, rfl, by rw [HR.out]; exact OwnOps.nil_ _ _⟩, hb1⟩
  · have HR : Hid (ifOk movesL ops = movesL ops) := ifOk_yes hf
    have hl : n ≤ 60 := by have := formsB_len hf; have := hlen.out; omega
    clear hf
    go_wp2_with fail
    go_loopg [0] n (fun g v wr => ∃ (a' : Option Addr) (n' c' : Nat) (cur : List LOp), v = .slice a' n' c' ∧ n' ≤ n ∧ Hid (g = n') ∧ Hid (OpsAt wr 0 wr.heap.size a' n' cur) ∧ Hid (movesL cur = movesL ops) ∧ Below w.heap.size w wr)
    case atStart => exact ⟨a, n, c, ops, rfl, Nat.le_refl _, rfl, (H.below hb1 hU).wide (Nat.zero_le _) (by have := hb1.size; omega), rfl, hb1⟩
    case round =>
      obtain ⟨a', n', c', cur, rfl, hcn, hk, HA, hfx, hb⟩ := hrel
      have HL : Hid (n' = cur.length) := HA.out.len
      have HSZ : Hid (∀ o ∈ cur, OpSz o) := HA.out.sz
      go_wp2_with fail
      refine (joinFirst_any a' n' c' cur _ _ _ (by omega) (Nat.le_refl _) HA.out).mono ?_
      rintro e w2 ⟨⟨v2, rfl, ho2⟩, hb2⟩
      have hbb : Below w.heap.size w w2 := hb.trans (hb2.mono hb.size)
      have HO2 : Hid (OwnOps w2 w.heap.size v2 (orSame moveStep cur)) := ho2.base hb.size
      clear ho2 hb2
      cases hs : moveStep cur with
      | none =>
        have e1 : orSame moveStep cur = cur := by unfold orSame; rw [hs]; rfl
        have HF : Hid (movesL ops = cur) := by show _ = _; rw [← hfx.out]; exact fixL_none hs
        have HO3 : Hid (OwnOps w2 w.heap.size v2 cur) := by rw [← e1]; exact HO2.out
        obtain ⟨a3, c3, rfl, HA3⟩ := HO3.out.at_ HSZ.out
        have t0 : ((cur.length : Int) == (n' : Int)) = true := by have := HL.out; simp; omega
        clear hs e1 HO2
        go_wp2_with fail
        go_ret
        exact ⟨⟨_, rfl, by rw [HR.out, HF.out]; exact HO3.out⟩, hbb⟩
      | some y =>
        have e1 : orSame moveStep cur = y := by unfold orSame; rw [hs]; rfl
        have hlt := moves_shrink _ _ hs
        have HF : Hid (movesL y = movesL ops) := by show _ = _; rw [← hfx.out]; exact (fixL_some moves_shrink hs).symm
        have HO3 : Hid (OwnOps w2 w.heap.size v2 y) := by rw [← e1]; exact HO2.out
        have HZ := (moveStep_all sz_keeps hs ⟨HSZ.out, Nat.le_refl _⟩).1
        obtain ⟨a3, c3, rfl, HA3⟩ := HO3.out.at_ HZ
        have hlt2 : y.length < n' := by have := HL.out; omega
        have t0 : ((y.length : Int) == (n' : Int)) = false := by simp; omega
        have HA3' : Hid (OpsAt w2 0 w2.heap.size a3 y.length y) := HA3.wide (Nat.zero_le _) (Nat.le_refl _)
        clear hs e1 HO2 HZ HA3 hlt
        go_wp2_with fail
        go_roundg y.length
        case measure => have := hk.out; omega
        case rel => exact ⟨a3, y.length, c3, y, rfl, by omega, rfl, HA3'.out, HF.out, hbb⟩

theorem implSlimMoves (a : Option Addr) (n c : Nat) (ops : List LOp) (L U : Nat) (w : World) (hU : U ≤ w.heap.size) (H : OpsAt w L U a n ops) :
    Calls Try.prog 23 #[.slice a n c] w (SlimEnd w (ifOk movesL ops)) := by
  go_enter Try.func23, Try.ntmps23
  go_wp2_with fail
  refine (byOne41 a n c ops L U w hU H).mono ?_
  rintro e w1 ⟨⟨v, rfl, ho⟩, hb⟩
  go_wp2_with fail
  go_ret
  exact ⟨⟨_, rfl, ho⟩, hb⟩
end Go.Proofs.Ytkllejaamnojpaa
