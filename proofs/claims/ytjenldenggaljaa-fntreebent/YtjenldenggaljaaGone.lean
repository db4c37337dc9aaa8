/- What is done, of a tree of one's own: something goes. -/
import Derived.Test.YtjenldenggaljaaNew
import Derived.Deep.RegionHeld
import Derived.BigRegion
namespace Go.Proofs.Ytjenldenggaljaa
open Go.RowKit

def actGone (os : List LObj) (o : LOp) : List LObj × Int :=
  match os[o.dir.toNat]?, os[o.id.toNat]? with
  | some d, some x =>
    if d.kind ≠ 2 then (os, 1)
    else if findV d.kids o.name ≠ o.id then (os, 2)
    else if 0 < x.kids.length then (os, 4)
    else ((os.set o.dir.toNat { d with kids := outL o.name d.kids, ver := d.ver + 1 }).set o.id.toNat ⟨0, x.ver + 1, ⟨#[]⟩, []⟩, 0)
  | _, _ => (os, 8)
theorem findV_nil (name : ByteArray) : findV [] name = -1 := rfl

set_option maxHeartbeats 2000000 in
set_option maxRecDepth 20000 in
theorem gone_any (B b c n i j : Nat) (o : LOp) (os : List LObj) (vs : Nat → Value) (w : World) (hid : o.id = i) (hdir : o.dir = j) (hn : n = os.length) (hi : i < n) (hj : j < n) (hB : B ≤ w.heap.size)
    (hv : ∀ x ∈ os, 0 ≤ x.ver ∧ x.ver ≤ 1000000 ∧ x.kids.length ≤ 1000000) (hnm : o.name.size ≤ maxLen) (H : OwnT w B b c os vs) :
    Calls Try.prog 152 #[.agg #[.slice (some ⟨b, 0, none⟩) n c], .agg o.val] w fun e w' => DoEnd w B b c n vs (actGone os o) e w' := by
  obtain ⟨d, hd⟩ : ∃ d, os[j]? = some d := ⟨os[j]'(by omega), by simp⟩
  obtain ⟨x, hx⟩ : ∃ x, os[i]? = some x := ⟨os[i]'(by omega), by simp⟩
  obtain ⟨k, dd, nm, l, nm2, ii, tx⟩ := o
  simp only [LOp.val] at *
  subst hid hdir
  have HV : Hid (actGone os ⟨k, j, nm, l, nm2, i, tx⟩ = if d.kind ≠ 2 then (os, 1)
    else if findV d.kids nm ≠ i then (os, 2)
    else if 0 < x.kids.length then (os, 4)
    else ((os.set j { d with kids := outL nm d.kids, ver := d.ver + 1 }).set i ⟨0, x.ver + 1, ⟨#[]⟩, []⟩, 0)) := by
    show _ = _
    simp only [actGone, Int.toNat_natCast, hd, hx]
  have HOB := H.to_objs
  rw [← hn] at HOB
  have hbA : b < w.heap.size := H.lt
  have hBb : B ≤ b := H.lo
  have HVJ : Hid (∀ g, (vs j).ownBlock = some g → B ≤ g ∧ g < w.heap.size) := fun g hg => (H.at_ j d hd).2.2.2.2.2.1.lt g hg
  have HNM : Hid (nm.size ≤ maxLen) := hnm
  have HN : Hid (n = os.length) := hn
  have HD : Hid (os[j]? = some d) := hd
  have HX : Hid (os[i]? = some x) := hx
  have hj' : (j : Int) < (n : Int) := by omega
  have hi' : (i : Int) < (n : Int) := by omega
  have hv1 := hv d (List.mem_of_getElem? hd)
  have HKB : Hid (d.kids.length ≤ 1000000 ∧ 0 ≤ d.ver ∧ d.ver ≤ 1000000) := ⟨hv1.2.2, hv1.1, hv1.2.1⟩
  have hv2 := hv x (List.mem_of_getElem? hx)
  have HKX : Hid (0 ≤ x.ver ∧ x.ver ≤ 1000000) := ⟨hv2.1, hv2.2.1⟩
  have HF0 := Fr.start w b c n ⟨k, j, nm, l, nm2, i, tx⟩ (.slice none 0 0)
  have hA : ∀ o1 o2 o3, Below w.heap.size w (((w.alloc o1).alloc o2).alloc o3) := fun o1 o2 o3 => (((Below.refl _ _).alloc (Nat.le_refl _) _).alloc (by simp) _).alloc (by simp; omega) _
  clear hv hn hd hx hv1 hv2
  go_enter Try.func152, Try.ntmps152
  go_wp2_with fail
  refine (isDir_b _ n c j d os B w.heap.size _ _ rfl HD.out (by simp; omega) (HOB.below (hA _ _ _) (Nat.le_refl _))).mono ?_
  rintro e W ⟨rfl, hb1⟩
  have HF := HF0.next hb1
  have hbW : Below w.heap.size w W := (hA _ _ _).trans (hb1.mono (by simp; omega))
  have HT : Hid (OwnT W B b c os vs) := H.below hbW
  clear HF0 hb1 hA HOB H
  obtain ⟨⟨rv, hr0⟩, hr1⟩ := HF.res
  have q0 := HF.t
  have hzW := HF.size
  by_cases hk2 : d.kind = 2
  case neg =>
    have t : (d.kind == 2) = false := by simpa using hk2
    have HV1 : Hid (actGone os ⟨k, j, nm, l, nm2, i, tx⟩ = (os, 1)) := by show _ = _; rw [HV.out, if_pos hk2]
    clear hk2 HV
    go_wp2_with fail
    exact bodyPost_ret (v := .tuple #[.agg #[.slice (some ⟨b, 0, none⟩) n c], .int .i64 1]) (by rw [results, Try.results152]; simp [go_sem, World.cell?_setCell_same _ _ _ hr0]) rfl (do_same HV1.out HF rfl hB HT.out hbW HN.out _)
  have t : (d.kind == 2) = true := by simpa using hk2
  have HV2 : Hid (actGone os ⟨k, j, nm, l, nm2, i, tx⟩ = if findV d.kids nm ≠ i then (os, 2)
    else if 0 < x.kids.length then (os, 4)
    else ((os.set j { d with kids := outL nm d.kids, ver := d.ver + 1 }).set i ⟨0, x.ver + 1, ⟨#[]⟩, []⟩, 0)) := by show _ = _; rw [HV.out, if_neg (by simpa using hk2)]
  have HK2 : Hid (d.kind = 2) := hk2
  clear hk2 HV
  obtain ⟨d1, d2, d3, d4, d5, d6, d7⟩ := HT.out.at_ j d HD.out
  obtain ⟨ka, kc, hvj, hents⟩ := d6.at_ d7
  have e5 : W.cell? ⟨b, j * 4 + 3, none⟩ = some (.slice ka d.kids.length kc) := by rw [d5, hvj]
  have hbl := HT.out.lt
  have q1 := HF.o1
  have q2 := HF.o2
  have q5 := HF.o5
  have HENT : ∀ q, EntsAt (W.drewN q) B W.heap.size ka d.kids.length d.kids := fun q => hents.below (Below.drewN _ _) (Nat.le_refl _)
  clear d1 d2 d3 d4 d5 d6 d7
  go_wp2_with fail
  go_quiet ((go_at_call 79; exact Calls.quiet_of_same (l1Find_any _ _ _ d.kids B W.heap.size _ _ (HENT _))))
  obtain ⟨V, hV⟩ : ∃ V, Hid (V = W.drewN nq) := ⟨_, rfl⟩
  rw [← hV.out]
  have hbV : Below W.heap.size W V := by rw [hV.out]; exact Below.drewN _ _
  have HFV := HF.next hbV
  have HTV : Hid (OwnT V B b c os vs) := HT.out.below hbV
  have hbVw : Below w.heap.size w V := hbW.trans (hbV.mono hbW.size)
  clear hV hbV HENT hents e5 hr0 hr1 q0 q1 q2 q5 hbl HT hbW hzW HF
  obtain ⟨⟨rv', hr0⟩, hr1⟩ := HFV.res
  have q0 := HFV.t
  have hzW := HFV.size
  have hbl := HTV.out.lt
  by_cases hf : findV d.kids nm = i
  case neg =>
    have tf : (findV d.kids nm != (i : Int)) = true := by simpa using hf
    have HV1 : Hid (actGone os ⟨k, j, nm, l, nm2, i, tx⟩ = (os, 2)) := by show _ = _; rw [HV2.out, if_pos hf]
    clear HV2 hf
    go_wp2_with fail
    exact bodyPost_ret (v := .tuple #[.agg #[.slice (some ⟨b, 0, none⟩) n c], .int .i64 2]) (by rw [results, Try.results152]; simp [go_sem, World.cell?_setCell_same _ _ _ hr0]) rfl (do_same HV1.out HFV rfl hB HTV.out hbVw HN.out _)
  have tf : (findV d.kids nm != (i : Int)) = false := by simpa using hf
  have HV3 : Hid (actGone os ⟨k, j, nm, l, nm2, i, tx⟩ = if 0 < x.kids.length then (os, 4)
    else ((os.set j { d with kids := outL nm d.kids, ver := d.ver + 1 }).set i ⟨0, x.ver + 1, ⟨#[]⟩, []⟩, 0)) := by show _ = _; rw [HV2.out, if_neg (by simpa using hf)]
  have HFI : Hid (findV d.kids nm = i) := hf
  clear HV2 hf
  obtain ⟨x1, x2, x3, x4, x5, x6, x7⟩ := HTV.out.at_ i x HX.out
  obtain ⟨kx, cx, hvx, _⟩ := x6.at_ x7
  rw [hvx] at x5
  have q5 := HFV.o5
  by_cases hxk : 0 < x.kids.length
  · have HV1 : Hid (actGone os ⟨k, j, nm, l, nm2, i, tx⟩ = (os, 4)) := by show _ = _; rw [HV3.out, if_pos hxk]
    have hxk' : (0 : Int) < (x.kids.length : Int) := by omega
    clear HV3 hxk x1 x2 x3 x4 x6 x7 hvx
    go_wp2_with fail
    exact bodyPost_ret (v := .tuple #[.agg #[.slice (some ⟨b, 0, none⟩) n c], .int .i64 4]) (by rw [results, Try.results152]; simp [go_sem, World.cell?_setCell_same _ _ _ hr0]) rfl (do_same HV1.out HFV rfl hB HTV.out hbVw HN.out _)
  have hx0 : x.kids.length = 0 := by omega
  have hij : i ≠ j := fun e => by
    subst e
    have h1 := HX.out
    rw [HD.out] at h1
    cases h1
    have h2 := HFI.out
    rw [List.eq_nil_of_length_eq_zero hx0, findV_nil] at h2
    omega
  have HV4 : Hid (actGone os ⟨k, j, nm, l, nm2, i, tx⟩ = ((os.set j { d with kids := outL nm d.kids, ver := d.ver + 1 }).set i ⟨0, x.ver + 1, ⟨#[]⟩, []⟩, 0)) := by
    show _ = _; rw [HV3.out, if_neg hxk]
  obtain ⟨y1, y2, y3, y4, y5, y6, y7⟩ := HTV.out.at_ j d HD.out
  obtain ⟨kb, kd, hvk, hents⟩ := y6.at_ y7
  have e5 : V.cell? ⟨b, j * 4 + 3, none⟩ = some (.slice kb d.kids.length kd) := by rw [y5, hvk]
  have HY7 : Hid (∀ e ∈ outL nm d.kids, e.name.size ≤ maxLen) := fun e he => y7 e (List.mem_filter.1 he).1
  have q1 := HFV.o1
  have q2 := HFV.o2
  have hBz : B ≤ V.heap.size := by omega
  clear HV3 x1 x2 x3 x4 x6 x7 hvx y1 y2 y3 y4 y5 y6 y7 hvj hnm
  rw [hx0] at x5
  clear hx0 hxk
  go_upto_region 7 with fail
  clear x5 tf
  go_cut [13] (fun _ wy => Hid (∃ vs2, OwnT wy B b c (os.set j { d with kids := outL nm d.kids }) vs2) ∧ Fr w.heap.size wy b c n ⟨k, j, nm, l, nm2, i, tx⟩ ∧ Below B w wy ∧ Kt w wy b n vs)
  case first =>
    refine wp_region_held_drew (S := (fun w' => w'.cell? ⟨w.heap.size, 0, none⟩ = some (.slice (some ⟨b, 0, none⟩) n c) ∧ w'.cell? ⟨w.heap.size + 1, 1, none⟩ = some (.int .i64 j) ∧ w'.cell? ⟨w.heap.size + 1, 2, none⟩ = some (.string nm) ∧ w'.cell? ⟨w.heap.size + 1, 5, none⟩ = some (.int .i64 i))) (by kernel_rfl) ?_ (fun hHeld => ?_)
    · exact ⟨q0, q1, q2, q5⟩
    refine wpAnyH_take (i := 0) (oi := _) (v := ?v0) rfl (by kernel_rfl) (by kernel_rfl) (by kernel_rfl) (fun _ _ _ h => h) (Or.inl ⟨by rfl, ?y0⟩) (by assumption) ?r0
    case y0 => (intro w' hSw; (try dsimp only at hSw); go_simp; try with_reducible rfl)
    try simp only [Act.put]
    refine wpAnyH_take (i := 1) (oi := _) (v := ?v1) rfl (by kernel_rfl) (by kernel_rfl) (by kernel_rfl) (fun _ _ _ h => h) (Or.inl ⟨by rfl, ?y1⟩) (by assumption) ?r1
    case y1 => (intro w' hSw; (try dsimp only at hSw); go_simp; try with_reducible rfl)
    try simp only [Act.put]
    refine wpAnyH_take (i := 2) (oi := _) (v := ?v2) rfl (by kernel_rfl) (by kernel_rfl) (by kernel_rfl) (fun _ _ _ h => h) (Or.inl ⟨by rfl, ?y2⟩) (by assumption) ?r2
    case y2 => (intro w' hSw; (try dsimp only at hSw); go_simp; try with_reducible rfl)
    try simp only [Act.put]
    refine wpAnyH_take (i := 3) (oi := _) (v := ?v3) rfl (by kernel_rfl) (by kernel_rfl) (by kernel_rfl) (fun _ _ _ h => h) (Or.inl ⟨by rfl, ?y3⟩) (by assumption) ?r3
    case y3 => (intro w' hSw; (try dsimp only at hSw); go_simp; try with_reducible rfl)
    try simp only [Act.put]
    refine wpAnyH_take (i := 4) (oi := _) (v := ?v4) rfl (by kernel_rfl) (by kernel_rfl) (by kernel_rfl) (fun _ _ _ h => h) (Or.inl ⟨by rfl, ?y4⟩) (by assumption) ?r4
    case y4 => (intro w' hSw; (try dsimp only at hSw); go_simp; try with_reducible rfl)
    try simp only [Act.put]
    refine wpAnyH_take (i := 5) (oi := _) (v := ?v5) rfl (by kernel_rfl) (by kernel_rfl) (by kernel_rfl) (fun _ _ _ h => h) (Or.inl ⟨by rfl, ?y5⟩) (by assumption) ?r5
    case y5 => (intro w' hSw; (try dsimp only at hSw); go_simp; try with_reducible rfl)
    try simp only [Act.put]
    refine wpAnyH_take (i := 6) (oi := _) (v := ?v6) rfl (by kernel_rfl) (by kernel_rfl) (by kernel_rfl) (fun _ _ _ h => h) (Or.inl ⟨by rfl, ?y6⟩) (by assumption) ?r6
    case y6 => (intro w' hSw; (try dsimp only at hSw); go_simp; try with_reducible rfl)
    try simp only [Act.put]
    refine wpAnyH_take (i := 7) (oi := _) (v := ?v7) rfl (by kernel_rfl) (by kernel_rfl) (by kernel_rfl) (fun _ _ _ h => h) (Or.inl ⟨by rfl, ?y7⟩) (by assumption) ?r7
    case y7 => (intro w' hSw; (try dsimp only at hSw); go_simp; try with_reducible rfl)
    try simp only [Act.put]
    refine wpAnyH_take (i := 8) (oi := _) (v := ?v8) rfl (by kernel_rfl) (by kernel_rfl) (by kernel_rfl) (fun _ _ _ h => h) (Or.inl ⟨by rfl, ?y8⟩) (by assumption) ?r8
    case y8 => (intro w' hSw; (try dsimp only at hSw); go_simp; try with_reducible rfl)
    try simp only [Act.put]
    refine wpAnyH_take (i := 9) (oi := _) (v := ?v9) rfl (by kernel_rfl) (by kernel_rfl) (by kernel_rfl) (fun _ _ _ h => h) (Or.inl ⟨by rfl, ?y9⟩) (by assumption) ?r9
    case y9 => (intro w' hSw; (try dsimp only at hSw); go_simp; try with_reducible rfl)
    try simp only [Act.put]
    refine wpAnyH_take (i := 11) (oi := _) (v := ?v11) rfl (by kernel_rfl) (by kernel_rfl) (by kernel_rfl) (fun _ _ _ h => h) (Or.inl ⟨by rfl, ?y11⟩) (by assumption) ?r11
    case y11 => (intro w' hSw; (try dsimp only at hSw); go_simp; try with_reducible rfl)
    try simp only [Act.put]
    refine wpAnyH_take (i := 12) (oi := _) (v := ?v12) rfl (by kernel_rfl) (by kernel_rfl) (by kernel_rfl) (fun _ _ _ h => h) (Or.inl ⟨by rfl, ?y12⟩) (by assumption) ?r12
    case y12 => (intro w' hSw; (try dsimp only at hSw); go_simp; try with_reducible rfl)
    try simp only [Act.put]
    refine wpAnyH_ready (rs := [10]) (by kernel_rfl) (by simp) ?_
    refine AllReadyH.cons (o := _) rfl (fun K hK => ?_) AllReadyH.nil
    go_simp
    refine hK.out _ _ ?_ (fun hHeld => ?_)
    · exact hHeld
    clear hK K
    try simp only [Act.put]
    refine wpAnyH_ready (rs := [13]) (by kernel_rfl) (by simp) ?_
    refine AllReadyH.cons (o := _) rfl (fun K hK => ?_) AllReadyH.nil
    go_simp
    refine (out_any _ _ _ d.kids B V.heap.size _ _ (by have := HKB.out; omega) (by simp) (hents.below (Below.refl _ _).drew (Nat.le_refl _))).mono ?_
    rintro e w2 ⟨⟨v', rfl, ho2⟩, hbo⟩
    have ho3 : OwnEnts w2 B v' (outL nm d.kids) := ho2.out.mono (by simpa using hBz)
    obtain ⟨va, vc, rfl⟩ := ho3.shape
    have K2 := kidsFr (W := V) (W' := w2) (row := none) HFV HTV.out (hbVw.mono hB) hBz HD.out hvk ⟨hbo.os, hbo.tape, hbo.output, hbo.size, fun k hk _ => hbo.block k hk⟩ (.inl rfl) (fun g hg => .inl (HVJ.out g (by rw [hvk]; exact hg)).2) ho3 (fun g hg => .inr (ho2.out.lt g hg).1)
    have p0 := K2.fr.t
    have p1 := K2.fr.o1
    have p2 := K2.fr.o2
    have p5 := K2.fr.o5
    have f5 := K2.cell
    have g5 := K2.frozen
    have hbl2 := K2.lt
    have hzz2 := K2.size
    have KH : Hid (KidsFr w.heap.size w V w2 B b c n j ⟨k, j, nm, l, nm2, i, tx⟩ os vs (.slice kb d.kids.length kd) (.slice va (outL nm d.kids).length vc) (outL nm d.kids)) := K2
    clear K2 ho2 hbo ho3
    go_wp2_with fail
    refine hK.out _ _ ?_ (fun hHeld => ?_)
    · exact ⟨p0, p1, p2, p5⟩
    clear hK K
    try simp only [Act.put]
    refine wpAnyH_take (i := 14) (oi := _) (v := ?v14) rfl (by kernel_rfl) (by kernel_rfl) (by kernel_rfl) (fun _ _ _ h => h) (Or.inl ⟨by rfl, ?y14⟩) (by assumption) ?r14
    case y14 => (intro w' hSw; (try dsimp only at hSw); go_simp; try with_reducible rfl)
    try simp only [Act.put]
    refine wpAnyH_take (i := 15) (oi := _) (v := ?v15) rfl (by kernel_rfl) (by kernel_rfl) (by kernel_rfl) (fun _ _ _ h => h) (Or.inl ⟨by rfl, ?y15⟩) (by assumption) ?r15
    case y15 => (intro w' hSw; (try dsimp only at hSw); go_simp; try with_reducible rfl)
    try simp only [Act.put]
    refine wpAnyH_ready (rs := [16]) (by kernel_rfl) (by simp) ?_
    refine AllReadyH.cons (o := _) rfl (fun K hK => ?_) AllReadyH.nil
    go_simp
    refine hK.out _ _ ?_ (fun hHeld => ?_)
    · exact ⟨by rw [World.cell?_setCell_other _ _ _ _ (by simp <;> omega)]; exact p0, by rw [World.cell?_setCell_other _ _ _ _ (by simp <;> omega)]; exact p1, by rw [World.cell?_setCell_other _ _ _ _ (by simp <;> omega)]; exact p2, by rw [World.cell?_setCell_other _ _ _ _ (by simp <;> omega)]; exact p5⟩
    clear hK K
    try simp only [Act.put]
    refine wpAnyH_done (by kernel_rfl) ?_ _
    go_wp2_with fail
    go_meet
    exact ⟨⟨_, KH.out.done d HD.out HY7.out⟩, KH.out.fr.set hbA _ _, KH.out.below.setCell (by simpa using hBb) _, ((Kt.of_below hbVw b n vs).kids hbVw.size KH.out (fun g hg => .inl ⟨j, hj, by rw [hvk]; exact hg⟩)).set _ _⟩
  obtain ⟨hT1, hF1, hb1, hk1⟩ := hcut
  clear e5 hents hvk q0 q1 q2 q5 hzW hbl hBz HFV HTV hbVw hr0 hr1
  obtain ⟨vs1, hT1'⟩ := hT1.out
  have HT1 : Hid (OwnT wc B b c (os.set j { d with kids := outL nm d.kids }) vs1) := hT1'
  have hix : Hid ((os.set j { d with kids := outL nm d.kids })[i]? = some x) := by show _ = _; rw [List.getElem?_set_ne (Ne.symm hij)]; exact HX.out
  obtain ⟨x1, x2, x3, x4, x5, x6, x7⟩ := hT1'.at_ i x hix.out
  have z0 := hT1'.frozen (i * 4)
  have z1 := hT1'.frozen (i * 4 + 1)
  have z2 := hT1'.frozen (i * 4 + 2)
  have z3 := hT1'.frozen (i * 4 + 3)
  have q0 := hF1.t
  have q5 := hF1.o5
  have hz1 := hF1.size
  have hbl := hT1'.lt
  clear x1 x6 x7 hT1 hT1'
  go_upto_region 8 with fail
  go_cut [] (fun wy => Hid (∃ vs2, OwnT wy B b c ((os.set j { d with kids := outL nm d.kids }).set i ⟨0, x.ver, ⟨#[]⟩, []⟩) vs2) ∧ Fr w.heap.size wy b c n ⟨k, j, nm, l, nm2, i, tx⟩ ∧ Below B w wy ∧ Kt w wy b n vs)
  case first =>
    go_region
    all_goals
      go_wp2_with fail
      go_meet
      exact ⟨⟨_, OwnT.of_heap (by rfl) (HT1.out.put4 hix.out 0 x.ver)⟩, (hF1.put4 hbA).next (Below.refl _ _).drew, (put4_below i 0 x.ver hb1 hBb).drew, (hk1.put4 (i := i) (k := 0) (v := x.ver)).step fun _ _ _ _ => rfl⟩
  obtain ⟨hT2, hF2, hb2, hk2⟩ := hcut
  clear x2 x3 x4 x5 z0 z1 z2 z3 q0 q5 hz1 hbl hF1 hb1 HT1 hk1
  obtain ⟨vs2, hT2'⟩ := hT2.out
  have HT2 : Hid (OwnT wc B b c ((os.set j { d with kids := outL nm d.kids }).set i ⟨0, x.ver, ⟨#[]⟩, []⟩) vs2) := hT2'
  have hlen : Hid (n = ((os.set j { d with kids := outL nm d.kids }).set i ⟨0, x.ver, ⟨#[]⟩, []⟩).length) := by show _ = _; simpa using HN.out
  have hi2 : Hid (((os.set j { d with kids := outL nm d.kids }).set i ⟨0, x.ver, ⟨#[]⟩, []⟩)[i]? = some ⟨0, x.ver, ⟨#[]⟩, []⟩) := List.getElem?_set_self (by have := HN.out; simp; omega)
  have hlen3 : Hid (n = ((os.set j { d with kids := outL nm d.kids }).set i ⟨0, x.ver + 1, ⟨#[]⟩, []⟩).length) := by show _ = _; simpa using HN.out
  have hj3 : Hid (((os.set j { d with kids := outL nm d.kids }).set i ⟨0, x.ver + 1, ⟨#[]⟩, []⟩)[j]? = some { d with kids := outL nm d.kids }) := by
    show _ = _
    rw [List.getElem?_set_ne hij]
    exact List.getElem?_set_self (by have := HN.out; omega)
  have q0 := hF2.t
  have q1 := hF2.o1
  have q5 := hF2.o5
  have hz2 := hF2.size
  clear hT2 hT2'
  go_upto_region 9 with fail
  refine wp_region_held_drew (S := (fun w' => w'.cell? ⟨w.heap.size, 0, none⟩ = some (.slice (some ⟨b, 0, none⟩) n c) ∧ w'.cell? ⟨w.heap.size + 1, 1, none⟩ = some (.int .i64 j) ∧ w'.cell? ⟨w.heap.size + 1, 5, none⟩ = some (.int .i64 i))) (by kernel_rfl) ?_ (fun hHeld => ?_)
  · exact ⟨q0, q1, q5⟩
  refine wpAnyH_take (i := 0) (oi := _) (v := ?vc0) rfl (by kernel_rfl) (by kernel_rfl) (by kernel_rfl) (fun _ _ _ h => h) (Or.inl ⟨by rfl, ?yc0⟩) (by assumption) ?rc0
  case yc0 => (intro w' hSw; (try dsimp only at hSw); go_simp; try with_reducible rfl)
  try simp only [Act.put]
  refine wpAnyH_take (i := 1) (oi := _) (v := ?vc1) rfl (by kernel_rfl) (by kernel_rfl) (by kernel_rfl) (fun _ _ _ h => h) (Or.inl ⟨by rfl, ?yc1⟩) (by assumption) ?rc1
  case yc1 => (intro w' hSw; (try dsimp only at hSw); go_simp; try with_reducible rfl)
  try simp only [Act.put]
  refine wpAnyH_take (i := 2) (oi := _) (v := ?vc2) rfl (by kernel_rfl) (by kernel_rfl) (by kernel_rfl) (fun _ _ _ h => h) (Or.inl ⟨by rfl, ?yc2⟩) (by assumption) ?rc2
  case yc2 => (intro w' hSw; (try dsimp only at hSw); go_simp; try with_reducible rfl)
  try simp only [Act.put]
  refine wpAnyH_take (i := 4) (oi := _) (v := ?vc4) rfl (by kernel_rfl) (by kernel_rfl) (by kernel_rfl) (fun _ _ _ h => h) (Or.inl ⟨by rfl, ?yc4⟩) (by assumption) ?rc4
  case yc4 => (intro w' hSw; (try dsimp only at hSw); go_simp; try with_reducible rfl)
  try simp only [Act.put]
  refine wpAnyH_take (i := 5) (oi := _) (v := ?vc5) rfl (by kernel_rfl) (by kernel_rfl) (by kernel_rfl) (fun _ _ _ h => h) (Or.inl ⟨by rfl, ?yc5⟩) (by assumption) ?rc5
  case yc5 => (intro w' hSw; (try dsimp only at hSw); go_simp; try with_reducible rfl)
  try simp only [Act.put]
  refine wpAnyH_ready (rs := [3]) (by kernel_rfl) (by simp) ?_
  refine AllReadyH.cons (o := _) rfl (fun K hK => ?_) AllReadyH.nil
  go_simp
  refine (turn_any B b c i ⟨0, x.ver, ⟨#[]⟩, []⟩ _ vs2 n _ _ rfl hlen.out hi2.out (by have := HKX.out; simp; omega) (by have := HKX.out; simp; omega) (OwnT.of_heap (by rfl) HT2.out)).mono ?_
  rintro e w3 ⟨rfl, hT3, hg3⟩
  rw [← hlen.out]
  have hF3 := hF2.grown (W' := w3) (row := some b) ⟨hg3.os, hg3.tape, hg3.output, hg3.size, hg3.block⟩ (fun g hg => .inl (by simp at hg; omega))
  have hb3 : Below B w w3 := below_grown hb2 (row := some b) ⟨hg3.os, hg3.tape, hg3.output, hg3.size, hg3.block⟩ (fun g hg => by simp at hg; omega) (by omega)
  have HT3 : Hid (OwnT w3 B b c ((os.set j { d with kids := outL nm d.kids }).set i ⟨0, x.ver + 1, ⟨#[]⟩, []⟩) vs2) := (by show OwnT _ _ _ _ _ _; rw [List.set_set] at hT3; exact hT3)
  have hk3 : Kt w w3 b n vs := hk2.turn (by omega) ⟨hg3.os, hg3.tape, hg3.output, hg3.size, hg3.block⟩
  have hz3 := hF3.size
  have p0 := hF3.t
  have p1 := hF3.o1
  have p5 := hF3.o5
  clear hT3 hg3
  go_wp2_with fail
  refine hK.out _ _ ?_ (fun hHeld => ?_)
  · exact ⟨p0, p1, p5⟩
  clear hK K
  try simp only [Act.put]
  refine wpAnyH_ready (rs := [6]) (by kernel_rfl) (by simp) ?_
  refine AllReadyH.cons (o := _) rfl (fun K hK => ?_) AllReadyH.nil
  go_simp
  refine (turn_any B b c j { d with kids := outL nm d.kids } _ vs2 n _ _ rfl hlen3.out hj3.out (by have := HKB.out; simp; omega) (by have := HKB.out; simp; omega) HT3.out).mono ?_
  rintro e w4 ⟨rfl, hT4, hg4⟩
  rw [← hlen3.out]
  have hF4 := hF3.grown hg4 (fun g hg => .inl (by simp at hg; omega))
  have hb4 : Below B w w4 := below_grown hb3 hg4 (fun g hg => by simp at hg; omega) (by omega)
  have HT4 : Hid (OwnT w4 B b c ((os.set j { d with kids := outL nm d.kids, ver := d.ver + 1 }).set i ⟨0, x.ver + 1, ⟨#[]⟩, []⟩) vs2) := (by show OwnT _ _ _ _ _ _; rw [List.set_comm _ _ (Ne.symm hij), List.set_set, List.set_comm _ _ hij] at hT4; exact hT4)
  have hk4 : Kt w w4 b n vs := hk3.turn (by omega) hg4
  obtain ⟨⟨rv4, hr4⟩, hr5⟩ := hF4.res
  have hz4 := hF4.size
  have s0 := hF4.t
  have s1 := hF4.o1
  have s5 := hF4.o5
  clear hT4 hg4
  go_wp2_with fail
  refine hK.out _ _ ?_ (fun hHeld => ?_)
  · exact ⟨s0, s1, s5⟩
  clear hK K
  try simp only [Act.put]
  refine wpAnyH_ready (rs := [7]) (by kernel_rfl) (by simp) ?_
  refine AllReadyH.cons (o := _) rfl (fun K hK => ?_) AllReadyH.nil
  go_simp
  refine hK.out _ _ ?_ (fun hHeld => ?_)
  · exact ⟨by rw [World.cell?_setCell_other _ _ _ _ (by simp <;> omega)]; exact s0, by rw [World.cell?_setCell_other _ _ _ _ (by simp <;> omega)]; exact s1, by rw [World.cell?_setCell_other _ _ _ _ (by simp <;> omega)]; exact s5⟩
  clear hK K
  try simp only [Act.put]
  refine wpAnyH_ready (rs := [8]) (by kernel_rfl) (by simp) ?_
  refine AllReadyH.cons (o := _) rfl (fun K hK => ?_) AllReadyH.nil
  go_simp
  refine hK.out _ _ ?_ (fun hHeld => ?_)
  · exact hHeld
  clear hK K
  try simp only [Act.put]
  refine wpAnyH_done (by kernel_rfl) ?_ _
  go_wp2_with fail
  refine bodyPost_ret (v := .tuple #[.agg #[.slice (some ⟨b, 0, none⟩) n c], .int .i64 0]) (by rw [results, Try.results152]; simp [go_sem, World.cell?_setCell_same _ _ _ hr4]) rfl ?_
  rw [HV4.out]
  exact ⟨vs2, by simp [HN.out], HT4.out.setBox hF4.r 0 _, hb4.setCell (by show B ≤ w.heap.size + 1 + 1; omega) _, hk4.setNew (by omega) _ _⟩
end Go.Proofs.Ytjenldenggaljaa
