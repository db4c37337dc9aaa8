/- What is done, of a tree of one's own: something new. -/
import Derived.Test.YtjenldenggaljaaFr
import Derived.Deep.RegionHeld
namespace Go.Proofs.Ytjenldenggaljaa
open Go.RowKit

def actNew (os : List LObj) (o : LOp) : List LObj × Int :=
  match os[o.dir.toNat]?, os[o.id.toNat]? with
  | some d, some x =>
    if d.kind ≠ 2 then (os, 1)
    else if 0 ≤ findV d.kids o.name then (os, 3)
    else if x.kind ≠ 0 ∨ 0 < x.ver then (os, 7)
    else ((os.set o.id.toNat ⟨if o.kind = 2 then 2 else 1, 1, ⟨#[]⟩, []⟩).set o.dir.toNat { d with kids := putL ⟨o.name, o.id⟩ d.kids, ver := d.ver + 1 }, 0)
  | _, _ => (os, 8)
theorem isDir_b (a : Option Addr) (n c i : Nat) (o : LObj) (os : List LObj) (L U : Nat) (id : Int) (w : World) (hi : id = i) (ho : os[i]? = some o) (hU : U ≤ w.heap.size) (H : ObjsAt w L U a n os) :
    Calls Try.prog 156 #[.agg #[.slice a n c], .int .i64 id] w fun e w' => e = .returned (.bool (o.kind == 2)) ∧ Below w.heap.size w w' :=
  (isDir_any a n c i o os L U id w hi ho hU H).mono (by rintro e w' ⟨rfl, rfl⟩; exact ⟨rfl, (Below.refl _ _).alloc (Nat.le_refl _) _⟩)
/-- An answer of the tree as it is. -/
theorem do_same {w W : World} {A B b c n : Nat} {o : LOp} {os : List LObj} {vs : Nat → Value} {code : Int} {r : List LObj × Int} (hr : r = (os, code)) (hF : Fr A W b c n o) (hA : w.heap.size = A) (hB : B ≤ w.heap.size) (hT : OwnT W B b c os vs) (hb : Below w.heap.size w W) (hn : n = os.length) (v : Value) :
    DoEnd w B b c n vs r (.returned (.tuple #[.agg #[.slice (some ⟨b, 0, none⟩) n c], .int .i64 code])) (W.setCell ⟨A + 1 + 1, 0, none⟩ v) := by
  subst hr hn
  exact ⟨vs, rfl, hT.setBox hF.r 0 v, (hb.mono hB).setCell (by show B ≤ A + 1 + 1; omega) _, (Kt.of_below hb _ _ _).setNew (by omega) _ _⟩

set_option maxHeartbeats 2000000 in
set_option maxRecDepth 20000 in
theorem new_any (B b c n i j : Nat) (o : LOp) (os : List LObj) (vs : Nat → Value) (w : World) (hid : o.id = i) (hdir : o.dir = j) (hn : n = os.length) (hi : i < n) (hj : j < n) (hB : B ≤ w.heap.size)
    (hv : ∀ x ∈ os, 0 ≤ x.ver ∧ x.ver ≤ 1000000 ∧ x.kids.length ≤ 1000000) (hnm : o.name.size ≤ maxLen) (H : OwnT w B b c os vs) :
    Calls Try.prog 151 #[.agg #[.slice (some ⟨b, 0, none⟩) n c], .agg o.val] w fun e w' => DoEnd w B b c n vs (actNew os o) e w' := by
  obtain ⟨d, hd⟩ : ∃ d, os[j]? = some d := ⟨os[j]'(by omega), by simp⟩
  obtain ⟨x, hx⟩ : ∃ x, os[i]? = some x := ⟨os[i]'(by omega), by simp⟩
  obtain ⟨k, dd, nm, l, nm2, ii, tx⟩ := o
  simp only [LOp.val] at *
  subst hid hdir
  have HV : Hid (actNew os ⟨k, j, nm, l, nm2, i, tx⟩ = if d.kind ≠ 2 then (os, 1)
    else if 0 ≤ findV d.kids nm then (os, 3)
    else if x.kind ≠ 0 ∨ 0 < x.ver then (os, 7)
    else ((os.set i ⟨if k = 2 then 2 else 1, 1, ⟨#[]⟩, []⟩).set j { d with kids := putL ⟨nm, i⟩ d.kids, ver := d.ver + 1 }, 0)) := by
    show _ = _
    simp only [actNew, Int.toNat_natCast, hd, hx]
  have HOB := H.to_objs
  rw [← hn] at HOB
  have hbA : b < w.heap.size := H.lt
  have hBb : B ≤ b := H.lo
  have HVJ : Hid (∀ g, (vs j).ownBlock = some g → B ≤ g ∧ g < w.heap.size) := fun g hg => (H.at_ j d hd).2.2.2.2.2.1.lt g hg
  have HNM : Hid (nm.size ≤ maxLen) := hnm
  have HN : Hid (n = os.length) := hn
  have HD : Hid (os[j]? = some d) := hd
  have HX : Hid (os[i]? = some x) := hx
  have hj' : (j : Int) < (n : Int) := by omega
  have hi' : (i : Int) < (n : Int) := by omega
  have hv1 := hv d (List.mem_of_getElem? hd)
  have HKB : Hid (d.kids.length ≤ 1000000 ∧ 0 ≤ d.ver ∧ d.ver ≤ 1000000) := ⟨hv1.2.2, hv1.1, hv1.2.1⟩
  have HF0 := Fr.start w b c n ⟨k, j, nm, l, nm2, i, tx⟩ (.slice none 0 0)
  have hA : ∀ o1 o2 o3, Below w.heap.size w (((w.alloc o1).alloc o2).alloc o3) := fun o1 o2 o3 => (((Below.refl _ _).alloc (Nat.le_refl _) _).alloc (by simp) _).alloc (by simp; omega) _
  clear hv hn hd hx hv1
  go_enter Try.func151, Try.ntmps151
  go_wp2_with fail
  refine (isDir_b _ n c j d os B w.heap.size _ _ rfl HD.out (by simp; omega) (HOB.below (hA _ _ _) (Nat.le_refl _))).mono ?_
  rintro e W ⟨rfl, hb1⟩
  have HF := HF0.next hb1
  have hbW : Below w.heap.size w W := (hA _ _ _).trans (hb1.mono (by simp; omega))
  have HT : Hid (OwnT W B b c os vs) := H.below hbW
  clear HF0 hb1 hA HOB H
  obtain ⟨⟨rv, hr0⟩, hr1⟩ := HF.res
  have q0 := HF.t
  have hzW := HF.size
  by_cases hk2 : d.kind = 2
  case neg =>
    have t : (d.kind == 2) = false := by simpa using hk2
    have HV1 : Hid (actNew os ⟨k, j, nm, l, nm2, i, tx⟩ = (os, 1)) := by show _ = _; rw [HV.out, if_pos hk2]
    clear hk2 HV
    go_wp2_with fail
    exact bodyPost_ret (v := .tuple #[.agg #[.slice (some ⟨b, 0, none⟩) n c], .int .i64 1]) (by rw [results, Try.results151]; simp [go_sem, World.cell?_setCell_same _ _ _ hr0]) rfl (do_same HV1.out HF rfl hB HT.out hbW HN.out _)
  have t : (d.kind == 2) = true := by simpa using hk2
  have HV2 : Hid (actNew os ⟨k, j, nm, l, nm2, i, tx⟩ = if 0 ≤ findV d.kids nm then (os, 3)
    else if x.kind ≠ 0 ∨ 0 < x.ver then (os, 7)
    else ((os.set i ⟨if k = 2 then 2 else 1, 1, ⟨#[]⟩, []⟩).set j { d with kids := putL ⟨nm, i⟩ d.kids, ver := d.ver + 1 }, 0)) := by show _ = _; rw [HV.out, if_neg (by simpa using hk2)]
  have HK2 : Hid (d.kind = 2) := hk2
  clear hk2 HV
  obtain ⟨d1, d2, d3, d4, d5, d6, d7⟩ := HT.out.at_ j d HD.out
  obtain ⟨ka, kc, hvj, hents⟩ := d6.at_ d7
  have e5 : W.cell? ⟨b, j * 4 + 3, none⟩ = some (.slice ka d.kids.length kc) := by rw [d5, hvj]
  have hbl := HT.out.lt
  have q1 := HF.o1
  have q2 := HF.o2
  have HENT : ∀ q, EntsAt (W.drewN q) B W.heap.size ka d.kids.length d.kids := fun q => hents.below (Below.drewN _ _) (Nat.le_refl _)
  clear d1 d2 d3 d4 d5 d6 d7
  go_wp2_with fail
  go_quiet ((go_at_call 79; exact Calls.quiet_of_same (l1Find_any _ _ _ d.kids B W.heap.size _ _ (HENT _))))
  obtain ⟨V, hV⟩ : ∃ V, Hid (V = W.drewN nq) := ⟨_, rfl⟩
  rw [← hV.out]
  have hbV : Below W.heap.size W V := by rw [hV.out]; exact Below.drewN _ _
  have HFV := HF.next hbV
  have HTV : Hid (OwnT V B b c os vs) := HT.out.below hbV
  have hbVw : Below w.heap.size w V := hbW.trans (hbV.mono hbW.size)
  clear hV hbV HENT hents e5 hr0 hr1 q0 q1 q2 hbl HT hbW hzW HF
  obtain ⟨⟨rv', hr0⟩, hr1⟩ := HFV.res
  have q0 := HFV.t
  have hzW := HFV.size
  have hbl := HTV.out.lt
  by_cases hf : 0 ≤ findV d.kids nm
  · have HV1 : Hid (actNew os ⟨k, j, nm, l, nm2, i, tx⟩ = (os, 3)) := by show _ = _; rw [HV2.out, if_pos hf]
    clear HV2
    go_wp2_with fail
    exact bodyPost_ret (v := .tuple #[.agg #[.slice (some ⟨b, 0, none⟩) n c], .int .i64 3]) (by rw [results, Try.results151]; simp [go_sem, World.cell?_setCell_same _ _ _ hr0]) rfl (do_same HV1.out HFV rfl hB HTV.out hbVw HN.out _)
  have HV3 : Hid (actNew os ⟨k, j, nm, l, nm2, i, tx⟩ = if x.kind ≠ 0 ∨ 0 < x.ver then (os, 7)
    else ((os.set i ⟨if k = 2 then 2 else 1, 1, ⟨#[]⟩, []⟩).set j { d with kids := putL ⟨nm, i⟩ d.kids, ver := d.ver + 1 }, 0)) := by show _ = _; rw [HV2.out, if_neg hf]
  clear HV2
  obtain ⟨x1, x2, x3, x4, x5, x6, x7⟩ := HTV.out.at_ i x HX.out
  have q5 := HFV.o5
  by_cases hxk : x.kind = 0
  case neg =>
    have t7 : (x.kind != 0) = true := by simpa using hxk
    have HV1 : Hid (actNew os ⟨k, j, nm, l, nm2, i, tx⟩ = (os, 7)) := by show _ = _; rw [HV3.out, if_pos (.inl hxk)]
    clear HV3 hxk x1 x4 x5 x6 x7
    go_wp2_with fail
    exact bodyPost_ret (v := .tuple #[.agg #[.slice (some ⟨b, 0, none⟩) n c], .int .i64 7]) (by rw [results, Try.results151]; simp [go_sem, World.cell?_setCell_same _ _ _ hr0]) rfl (do_same HV1.out HFV rfl hB HTV.out hbVw HN.out _)
  have t7 : (x.kind != 0) = false := by simpa using hxk
  by_cases hxv : 0 < x.ver
  · have HV1 : Hid (actNew os ⟨k, j, nm, l, nm2, i, tx⟩ = (os, 7)) := by show _ = _; rw [HV3.out, if_pos (.inr hxv)]
    clear HV3 hxk x1 x4 x5 x6 x7
    go_wp2_with fail
    exact bodyPost_ret (v := .tuple #[.agg #[.slice (some ⟨b, 0, none⟩) n c], .int .i64 7]) (by rw [results, Try.results151]; simp [go_sem, World.cell?_setCell_same _ _ _ hr0]) rfl (do_same HV1.out HFV rfl hB HTV.out hbVw HN.out _)
  have hij : i ≠ j := fun e => by
    subst e
    have h1 := HX.out
    rw [HD.out] at h1
    cases h1
    have := HK2.out
    omega
  have HXK : Hid (x.kind = 0) := hxk
  obtain ⟨kv, hkv⟩ : ∃ kv : Int, Hid (kv = if k = 2 then 2 else 1) := ⟨_, rfl⟩
  have HV4 : Hid (actNew os ⟨k, j, nm, l, nm2, i, tx⟩ = ((os.set i ⟨kv, 1, ⟨#[]⟩, []⟩).set j { d with kids := putL ⟨nm, i⟩ d.kids, ver := d.ver + 1 }, 0)) := by
    show _ = _; rw [HV3.out, if_neg (by rintro (h | h); exact h hxk; exact hxv h), hkv.out]
  clear HV3 hxk
  have z0 := HTV.out.frozen (i * 4)
  have z1 := HTV.out.frozen (i * 4 + 1)
  have z2 := HTV.out.frozen (i * 4 + 2)
  have z3 := HTV.out.frozen (i * 4 + 3)
  have q00 := HFV.o0
  have hkk : kv = 2 ∧ (k == 2) = true ∨ kv = 1 ∧ (k == 2) = false := by
    have := hkv.out
    by_cases e : k = 2
    · left; simpa [e] using this
    · right; simpa [e] using this
  clear hkv
  have hOJ : Hid (∀ kv : Int, (os.set i ⟨kv, 1, ⟨#[]⟩, []⟩)[j]? = some d) := fun kv => by rw [List.getElem?_set_ne hij]; exact HD.out
  rcases hkk with ⟨rfl, tk⟩ | ⟨rfl, tk⟩
  · clear x1 x6 x7 hvj HXK hnm
    go_upto_region 10 with fail
    go_cut [] (fun wx => Hid (∃ vs1, OwnT wx B b c (os.set i ⟨2, 1, ⟨#[]⟩, []⟩) vs1 ∧ vs1 j = vs j) ∧ Fr w.heap.size wx b c n ⟨k, j, nm, l, nm2, i, tx⟩ ∧ Below B w wx ∧ Kt w wx b n vs)
    case first =>
      go_wp2_with fail
      go_meet
      exact ⟨⟨_, HTV.out.put4 HX.out 2 1, if_neg (Ne.symm hij)⟩, HFV.put4 hbA, put4_below i 2 1 (hbVw.mono hB) hBb, (Kt.of_below hbVw _ _ _).put4⟩
    obtain ⟨hT1, hF1, hb1, hk1⟩ := hcut
    clear x2 x3 x4 x5 z0 z1 z2 z3 q0 q5 q00 hr0 hr1 hzW hbl HFV HTV hbVw hf hxv t7 tk
    obtain ⟨vs1, hT1', hvs1⟩ := hT1.out
    have HT1 : Hid (OwnT wc B b c (os.set i ⟨2, 1, ⟨#[]⟩, []⟩) vs1) := hT1'
    obtain ⟨y1, y2, y3, y4, y5, y6, y7⟩ := hT1'.at_ j d (hOJ.out 2)
    obtain ⟨kb, kd, hvk, hentk⟩ := y6.at_ y7
    have e5 : wc.cell? ⟨b, j * 4 + 3, none⟩ = some (.slice kb d.kids.length kd) := by rw [y5, hvk]
    have z5 : wc.frozen? ⟨b, j * 4 + 3, none⟩ = false := hT1'.frozen _
    have HE : Hid (OwnEnts wc B (.slice kb d.kids.length kd) d.kids) := by show OwnEnts _ _ _ _; rw [← hvk]; exact y6
    have HY7 : Hid (∀ e ∈ d.kids, e.name.size ≤ maxLen) := y7
    have HVK : Hid (vs1 j = .slice kb d.kids.length kd ∧ (∀ g, (Value.slice kb d.kids.length kd).ownBlock = some g → B ≤ g ∧ g < w.heap.size)) := ⟨hvk, fun g hg => HVJ.out g (by rw [← hvs1, hvk]; exact hg)⟩
    have HVN : Hid (∀ g, (Value.slice kb d.kids.length kd).ownBlock = some g → (∃ q, q < n ∧ (vs q).ownBlock = some g) ∨ w.heap.size ≤ g) := fun g hg => .inl ⟨j, hj, by rw [← hvs1, hvk]; exact hg⟩
    have hbl := hT1'.lt
    have q0 := hF1.t
    have q1 := hF1.o1
    have q2 := hF1.o2
    have q5 := hF1.o5
    have hz1 := hF1.size
    have hBz : B ≤ wc.heap.size := by omega
    clear hT1 hT1' hvs1 y1 y2 y3 y4 y5 y6 y7 hvk hentk
    go_upto_region 11 with fail
    go_cut [] (fun wy => Hid (∃ vs2, OwnT wy B b c ((os.set i ⟨2, 1, ⟨#[]⟩, []⟩).set j { d with kids := putL ⟨nm, i⟩ d.kids }) vs2) ∧ Fr w.heap.size wy b c n ⟨k, j, nm, l, nm2, i, tx⟩ ∧ Below B w wy ∧ Kt w wy b n vs)
    case first =>
      refine wp_region_held_drew (S := (fun w' => w'.cell? ⟨w.heap.size, 0, none⟩ = some (.slice (some ⟨b, 0, none⟩) n c) ∧ w'.cell? ⟨w.heap.size + 1, 1, none⟩ = some (.int .i64 j) ∧ w'.cell? ⟨w.heap.size + 1, 2, none⟩ = some (.string nm) ∧ w'.cell? ⟨w.heap.size + 1, 5, none⟩ = some (.int .i64 i))) (by kernel_rfl) ?_ (fun hHeld => ?_)
      · exact ⟨q0, q1, q2, q5⟩
      refine wpAnyH_take (i := 0) (oi := _) (v := ?v0) rfl (by kernel_rfl) (by kernel_rfl) (by kernel_rfl) (fun _ _ _ h => h) (Or.inl ⟨by rfl, ?y0⟩) (by assumption) ?r0
      case y0 => (intro w' hSw; (try dsimp only at hSw); go_simp; try with_reducible rfl)
      try simp only [Act.put]
      refine wpAnyH_take (i := 1) (oi := _) (v := ?v1) rfl (by kernel_rfl) (by kernel_rfl) (by kernel_rfl) (fun _ _ _ h => h) (Or.inl ⟨by rfl, ?y1⟩) (by assumption) ?r1
      case y1 => (intro w' hSw; (try dsimp only at hSw); go_simp; try with_reducible rfl)
      try simp only [Act.put]
      refine wpAnyH_take (i := 2) (oi := _) (v := ?v2) rfl (by kernel_rfl) (by kernel_rfl) (by kernel_rfl) (fun _ _ _ h => h) (Or.inl ⟨by rfl, ?y2⟩) (by assumption) ?r2
      case y2 => (intro w' hSw; (try dsimp only at hSw); go_simp; try with_reducible rfl)
      try simp only [Act.put]
      refine wpAnyH_take (i := 3) (oi := _) (v := ?v3) rfl (by kernel_rfl) (by kernel_rfl) (by kernel_rfl) (fun _ _ _ h => h) (Or.inl ⟨by rfl, ?y3⟩) (by assumption) ?r3
      case y3 => (intro w' hSw; (try dsimp only at hSw); go_simp; try with_reducible rfl)
      try simp only [Act.put]
      refine wpAnyH_take (i := 4) (oi := _) (v := ?v4) rfl (by kernel_rfl) (by kernel_rfl) (by kernel_rfl) (fun _ _ _ h => h) (Or.inl ⟨by rfl, ?y4⟩) (by assumption) ?r4
      case y4 => (intro w' hSw; (try dsimp only at hSw); go_simp; try with_reducible rfl)
      try simp only [Act.put]
      refine wpAnyH_take (i := 5) (oi := _) (v := ?v5) rfl (by kernel_rfl) (by kernel_rfl) (by kernel_rfl) (fun _ _ _ h => h) (Or.inl ⟨by rfl, ?y5⟩) (by assumption) ?r5
      case y5 => (intro w' hSw; (try dsimp only at hSw); go_simp; try with_reducible rfl)
      try simp only [Act.put]
      refine wpAnyH_take (i := 6) (oi := _) (v := ?v6) rfl (by kernel_rfl) (by kernel_rfl) (by kernel_rfl) (fun _ _ _ h => h) (Or.inl ⟨by rfl, ?y6⟩) (by assumption) ?r6
      case y6 => (intro w' hSw; (try dsimp only at hSw); go_simp; try with_reducible rfl)
      try simp only [Act.put]
      refine wpAnyH_take (i := 7) (oi := _) (v := ?v7) rfl (by kernel_rfl) (by kernel_rfl) (by kernel_rfl) (fun _ _ _ h => h) (Or.inl ⟨by rfl, ?y7⟩) (by assumption) ?r7
      case y7 => (intro w' hSw; (try dsimp only at hSw); go_simp; try with_reducible rfl)
      try simp only [Act.put]
      refine wpAnyH_take (i := 8) (oi := _) (v := ?v8) rfl (by kernel_rfl) (by kernel_rfl) (by kernel_rfl) (fun _ _ _ h => h) (Or.inl ⟨by rfl, ?y8⟩) (by assumption) ?r8
      case y8 => (intro w' hSw; (try dsimp only at hSw); go_simp; try with_reducible rfl)
      try simp only [Act.put]
      refine wpAnyH_take (i := 9) (oi := _) (v := ?v9) rfl (by kernel_rfl) (by kernel_rfl) (by kernel_rfl) (fun _ _ _ h => h) (Or.inl ⟨by rfl, ?y9⟩) (by assumption) ?r9
      case y9 => (intro w' hSw; (try dsimp only at hSw); go_simp; try with_reducible rfl)
      try simp only [Act.put]
      refine wpAnyH_take (i := 11) (oi := _) (v := ?v11) rfl (by kernel_rfl) (by kernel_rfl) (by kernel_rfl) (fun _ _ _ h => h) (Or.inl ⟨by rfl, ?y11⟩) (by assumption) ?r11
      case y11 => (intro w' hSw; (try dsimp only at hSw); go_simp; try with_reducible rfl)
      try simp only [Act.put]
      refine wpAnyH_take (i := 12) (oi := _) (v := ?v12) rfl (by kernel_rfl) (by kernel_rfl) (by kernel_rfl) (fun _ _ _ h => h) (Or.inl ⟨by rfl, ?y12⟩) (by assumption) ?r12
      case y12 => (intro w' hSw; (try dsimp only at hSw); go_simp; try with_reducible rfl)
      try simp only [Act.put]
      refine wpAnyH_take (i := 13) (oi := _) (v := ?v13) rfl (by kernel_rfl) (by kernel_rfl) (by kernel_rfl) (fun _ _ _ h => h) (Or.inl ⟨by rfl, ?y13⟩) (by assumption) ?r13
      case y13 => (intro w' hSw; (try dsimp only at hSw); go_simp; try with_reducible rfl)
      try simp only [Act.put]
      refine wpAnyH_take (i := 14) (oi := _) (v := ?v14) rfl (by kernel_rfl) (by kernel_rfl) (by kernel_rfl) (fun _ _ _ h => h) (Or.inl ⟨by rfl, ?y14⟩) (by assumption) ?r14
      case y14 => (intro w' hSw; (try dsimp only at hSw); go_simp; try with_reducible rfl)
      try simp only [Act.put]
      refine wpAnyH_take (i := 15) (oi := _) (v := ?v15) rfl (by kernel_rfl) (by kernel_rfl) (by kernel_rfl) (fun _ _ _ h => h) (Or.inl ⟨by rfl, ?y15⟩) (by assumption) ?r15
      case y15 => (intro w' hSw; (try dsimp only at hSw); go_simp; try with_reducible rfl)
      try simp only [Act.put]
      refine wpAnyH_ready (rs := [10]) (by kernel_rfl) (by simp) ?_
      refine AllReadyH.cons (o := _) rfl (fun K hK => ?_) AllReadyH.nil
      go_simp
      refine hK.out _ _ ?_ (fun hHeld => ?_)
      · exact hHeld
      clear hK K
      try simp only [Act.put]
      refine wpAnyH_ready (rs := [16]) (by kernel_rfl) (by simp) ?_
      refine AllReadyH.cons (o := _) rfl (fun K hK => ?_) AllReadyH.nil
      go_simp
      refine (put_val B (.slice kb d.kids.length kd) d.kids ⟨nm, i⟩ _ HKB.out.1 (by simpa using hBz) (OwnEnts.of_heap (by rfl) HE.out)).mono ?_
      rintro e w2 ⟨v', rfl, ho2, hg2, ha2⟩
      obtain ⟨va, vc, rfl⟩ := ho2.shape
      have K2 := kidsFr (W := wc) (W' := w2) hF1 HT1.out hb1 hBz (hOJ.out 2) HVK.out.1 ⟨hg2.os, hg2.tape, hg2.output, hg2.size, hg2.block⟩ (.inr rfl) (fun g hg => .inl (HVK.out.2 g hg).2) ho2 ha2
      have p0 := K2.fr.t
      have p1 := K2.fr.o1
      have p2 := K2.fr.o2
      have p5 := K2.fr.o5
      have f5 := K2.cell
      have g5 := K2.frozen
      have hbl2 := K2.lt
      have hzz2 := K2.size
      have KH : Hid (KidsFr w.heap.size w wc w2 B b c n j ⟨k, j, nm, l, nm2, i, tx⟩ (os.set i ⟨2, 1, ⟨#[]⟩, []⟩) vs1 (.slice kb d.kids.length kd) (.slice va (putL ⟨nm, i⟩ d.kids).length vc) (putL ⟨nm, i⟩ d.kids)) := K2
      clear K2 ho2 hg2 ha2
      go_wp2_with fail
      refine hK.out _ _ ?_ (fun hHeld => ?_)
      · exact ⟨p0, p1, p2, p5⟩
      clear hK K
      try simp only [Act.put]
      refine wpAnyH_take (i := 17) (oi := _) (v := ?v17) rfl (by kernel_rfl) (by kernel_rfl) (by kernel_rfl) (fun _ _ _ h => h) (Or.inl ⟨by rfl, ?y17⟩) (by assumption) ?r17
      case y17 => (intro w' hSw; (try dsimp only at hSw); go_simp; try with_reducible rfl)
      try simp only [Act.put]
      refine wpAnyH_take (i := 18) (oi := _) (v := ?v18) rfl (by kernel_rfl) (by kernel_rfl) (by kernel_rfl) (fun _ _ _ h => h) (Or.inl ⟨by rfl, ?y18⟩) (by assumption) ?r18
      case y18 => (intro w' hSw; (try dsimp only at hSw); go_simp; try with_reducible rfl)
      try simp only [Act.put]
      refine wpAnyH_ready (rs := [19]) (by kernel_rfl) (by simp) ?_
      refine AllReadyH.cons (o := _) rfl (fun K hK => ?_) AllReadyH.nil
      go_simp
      refine hK.out _ _ ?_ (fun hHeld => ?_)
      · exact ⟨by rw [World.cell?_setCell_other _ _ _ _ (by simp <;> omega)]; exact p0, by rw [World.cell?_setCell_other _ _ _ _ (by simp <;> omega)]; exact p1, by rw [World.cell?_setCell_other _ _ _ _ (by simp <;> omega)]; exact p2, by rw [World.cell?_setCell_other _ _ _ _ (by simp <;> omega)]; exact p5⟩
      clear hK K
      try simp only [Act.put]
      refine wpAnyH_done (by kernel_rfl) ?_ _
      go_wp2_with fail
      go_meet
      exact ⟨⟨_, KH.out.done d (hOJ.out 2) (fun e he => by rcases mem_putL he with rfl | h; exact HNM.out; exact HY7.out e h)⟩, KH.out.fr.set hbA _ _, KH.out.below.setCell (by simpa using hBb) _, (hk1.kids (by omega) KH.out HVN.out).set _ _⟩
    obtain ⟨hT2, hF2, hb2, hk2⟩ := hcut
    clear e5 z5 HE q0 q1 q2 q5 hz1 hbl hBz HVK HT1 hF1 hb1 hk1 HVN
    obtain ⟨vs2, hT2'⟩ := hT2.out
    have hlen : Hid (n = ((os.set i ⟨2, 1, ⟨#[]⟩, []⟩).set j { d with kids := putL ⟨nm, i⟩ d.kids }).length) := by show _ = _; simpa using HN.out
    have hj2 : Hid (((os.set i ⟨2, 1, ⟨#[]⟩, []⟩).set j { d with kids := putL ⟨nm, i⟩ d.kids })[j]? = some { d with kids := putL ⟨nm, i⟩ d.kids }) := List.getElem?_set_self (by have := HN.out; simp; omega)
    have q0 := hF2.t
    have q1 := hF2.o1
    have hz1 := hF2.size
    go_wp2_with fail
    refine (turn_any B b c j { d with kids := putL ⟨nm, i⟩ d.kids } _ vs2 n _ _ rfl hlen.out hj2.out (by have := HKB.out; simp; omega) (by have := HKB.out; simp; omega) hT2').mono ?_
    rintro e w3 ⟨rfl, hT3, hg3⟩
    rw [← hlen.out]
    have hF3 := hF2.grown hg3 (fun g hg => .inl (by simp at hg; omega))
    have hb3 : Below B w w3 := below_grown hb2 hg3 (fun g hg => by simp at hg; omega) (by omega)
    have hk3 := hk2.turn (by omega) hg3
    obtain ⟨⟨rv3, hr3⟩, hr4⟩ := hF3.res
    have hz3 := hF3.size
    have HT3 : Hid (OwnT w3 B b c ((os.set i ⟨2, 1, ⟨#[]⟩, []⟩).set j { d with kids := putL ⟨nm, i⟩ d.kids, ver := d.ver + 1 }) vs2) := by
      show OwnT _ _ _ _ _ _
      rw [List.set_set] at hT3
      exact hT3
    clear hT3 hg3 hT2' hT2 hF2 hb2 q0 q1
    go_wp2_with fail
    refine bodyPost_ret (v := .tuple #[.agg #[.slice (some ⟨b, 0, none⟩) n c], .int .i64 0]) (by rw [results, Try.results151]; simp [go_sem, World.cell?_setCell_same _ _ _ hr3]) rfl ?_
    rw [HV4.out]
    exact ⟨vs2, by simp [HN.out], HT3.out.setBox hF3.r 0 _, hb3.setCell (by show B ≤ w.heap.size + 1 + 1; omega) _, hk3.setNew (by omega) _ _⟩
  · clear x1 x6 x7 hvj HXK hnm
    go_upto_region 10 with fail
    go_cut [] (fun wx => Hid (∃ vs1, OwnT wx B b c (os.set i ⟨1, 1, ⟨#[]⟩, []⟩) vs1 ∧ vs1 j = vs j) ∧ Fr w.heap.size wx b c n ⟨k, j, nm, l, nm2, i, tx⟩ ∧ Below B w wx ∧ Kt w wx b n vs)
    case first =>
      go_wp2_with fail
      go_meet
      exact ⟨⟨_, HTV.out.put4 HX.out 1 1, if_neg (Ne.symm hij)⟩, HFV.put4 hbA, put4_below i 1 1 (hbVw.mono hB) hBb, (Kt.of_below hbVw _ _ _).put4⟩
    obtain ⟨hT1, hF1, hb1, hk1⟩ := hcut
    clear x2 x3 x4 x5 z0 z1 z2 z3 q0 q5 q00 hr0 hr1 hzW hbl HFV HTV hbVw hf hxv t7 tk
    obtain ⟨vs1, hT1', hvs1⟩ := hT1.out
    have HT1 : Hid (OwnT wc B b c (os.set i ⟨1, 1, ⟨#[]⟩, []⟩) vs1) := hT1'
    obtain ⟨y1, y2, y3, y4, y5, y6, y7⟩ := hT1'.at_ j d (hOJ.out 1)
    obtain ⟨kb, kd, hvk, hentk⟩ := y6.at_ y7
    have e5 : wc.cell? ⟨b, j * 4 + 3, none⟩ = some (.slice kb d.kids.length kd) := by rw [y5, hvk]
    have z5 : wc.frozen? ⟨b, j * 4 + 3, none⟩ = false := hT1'.frozen _
    have HE : Hid (OwnEnts wc B (.slice kb d.kids.length kd) d.kids) := by show OwnEnts _ _ _ _; rw [← hvk]; exact y6
    have HY7 : Hid (∀ e ∈ d.kids, e.name.size ≤ maxLen) := y7
    have HVK : Hid (vs1 j = .slice kb d.kids.length kd ∧ (∀ g, (Value.slice kb d.kids.length kd).ownBlock = some g → B ≤ g ∧ g < w.heap.size)) := ⟨hvk, fun g hg => HVJ.out g (by rw [← hvs1, hvk]; exact hg)⟩
    have HVN : Hid (∀ g, (Value.slice kb d.kids.length kd).ownBlock = some g → (∃ q, q < n ∧ (vs q).ownBlock = some g) ∨ w.heap.size ≤ g) := fun g hg => .inl ⟨j, hj, by rw [← hvs1, hvk]; exact hg⟩
    have hbl := hT1'.lt
    have q0 := hF1.t
    have q1 := hF1.o1
    have q2 := hF1.o2
    have q5 := hF1.o5
    have hz1 := hF1.size
    have hBz : B ≤ wc.heap.size := by omega
    clear hT1 hT1' hvs1 y1 y2 y3 y4 y5 y6 y7 hvk hentk
    go_upto_region 11 with fail
    go_cut [] (fun wy => Hid (∃ vs2, OwnT wy B b c ((os.set i ⟨1, 1, ⟨#[]⟩, []⟩).set j { d with kids := putL ⟨nm, i⟩ d.kids }) vs2) ∧ Fr w.heap.size wy b c n ⟨k, j, nm, l, nm2, i, tx⟩ ∧ Below B w wy ∧ Kt w wy b n vs)
    case first =>
      refine wp_region_held_drew (S := (fun w' => w'.cell? ⟨w.heap.size, 0, none⟩ = some (.slice (some ⟨b, 0, none⟩) n c) ∧ w'.cell? ⟨w.heap.size + 1, 1, none⟩ = some (.int .i64 j) ∧ w'.cell? ⟨w.heap.size + 1, 2, none⟩ = some (.string nm) ∧ w'.cell? ⟨w.heap.size + 1, 5, none⟩ = some (.int .i64 i))) (by kernel_rfl) ?_ (fun hHeld => ?_)
      · exact ⟨q0, q1, q2, q5⟩
      refine wpAnyH_take (i := 0) (oi := _) (v := ?vb0) rfl (by kernel_rfl) (by kernel_rfl) (by kernel_rfl) (fun _ _ _ h => h) (Or.inl ⟨by rfl, ?yb0⟩) (by assumption) ?rb0
      case yb0 => (intro w' hSw; (try dsimp only at hSw); go_simp; try with_reducible rfl)
      try simp only [Act.put]
      refine wpAnyH_take (i := 1) (oi := _) (v := ?vb1) rfl (by kernel_rfl) (by kernel_rfl) (by kernel_rfl) (fun _ _ _ h => h) (Or.inl ⟨by rfl, ?yb1⟩) (by assumption) ?rb1
      case yb1 => (intro w' hSw; (try dsimp only at hSw); go_simp; try with_reducible rfl)
      try simp only [Act.put]
      refine wpAnyH_take (i := 2) (oi := _) (v := ?vb2) rfl (by kernel_rfl) (by kernel_rfl) (by kernel_rfl) (fun _ _ _ h => h) (Or.inl ⟨by rfl, ?yb2⟩) (by assumption) ?rb2
      case yb2 => (intro w' hSw; (try dsimp only at hSw); go_simp; try with_reducible rfl)
      try simp only [Act.put]
      refine wpAnyH_take (i := 3) (oi := _) (v := ?vb3) rfl (by kernel_rfl) (by kernel_rfl) (by kernel_rfl) (fun _ _ _ h => h) (Or.inl ⟨by rfl, ?yb3⟩) (by assumption) ?rb3
      case yb3 => (intro w' hSw; (try dsimp only at hSw); go_simp; try with_reducible rfl)
      try simp only [Act.put]
      refine wpAnyH_take (i := 4) (oi := _) (v := ?vb4) rfl (by kernel_rfl) (by kernel_rfl) (by kernel_rfl) (fun _ _ _ h => h) (Or.inl ⟨by rfl, ?yb4⟩) (by assumption) ?rb4
      case yb4 => (intro w' hSw; (try dsimp only at hSw); go_simp; try with_reducible rfl)
      try simp only [Act.put]
      refine wpAnyH_take (i := 5) (oi := _) (v := ?vb5) rfl (by kernel_rfl) (by kernel_rfl) (by kernel_rfl) (fun _ _ _ h => h) (Or.inl ⟨by rfl, ?yb5⟩) (by assumption) ?rb5
      case yb5 => (intro w' hSw; (try dsimp only at hSw); go_simp; try with_reducible rfl)
      try simp only [Act.put]
      refine wpAnyH_take (i := 6) (oi := _) (v := ?vb6) rfl (by kernel_rfl) (by kernel_rfl) (by kernel_rfl) (fun _ _ _ h => h) (Or.inl ⟨by rfl, ?yb6⟩) (by assumption) ?rb6
      case yb6 => (intro w' hSw; (try dsimp only at hSw); go_simp; try with_reducible rfl)
      try simp only [Act.put]
      refine wpAnyH_take (i := 7) (oi := _) (v := ?vb7) rfl (by kernel_rfl) (by kernel_rfl) (by kernel_rfl) (fun _ _ _ h => h) (Or.inl ⟨by rfl, ?yb7⟩) (by assumption) ?rb7
      case yb7 => (intro w' hSw; (try dsimp only at hSw); go_simp; try with_reducible rfl)
      try simp only [Act.put]
      refine wpAnyH_take (i := 8) (oi := _) (v := ?vb8) rfl (by kernel_rfl) (by kernel_rfl) (by kernel_rfl) (fun _ _ _ h => h) (Or.inl ⟨by rfl, ?yb8⟩) (by assumption) ?rb8
      case yb8 => (intro w' hSw; (try dsimp only at hSw); go_simp; try with_reducible rfl)
      try simp only [Act.put]
      refine wpAnyH_take (i := 9) (oi := _) (v := ?vb9) rfl (by kernel_rfl) (by kernel_rfl) (by kernel_rfl) (fun _ _ _ h => h) (Or.inl ⟨by rfl, ?yb9⟩) (by assumption) ?rb9
      case yb9 => (intro w' hSw; (try dsimp only at hSw); go_simp; try with_reducible rfl)
      try simp only [Act.put]
      refine wpAnyH_take (i := 11) (oi := _) (v := ?vb11) rfl (by kernel_rfl) (by kernel_rfl) (by kernel_rfl) (fun _ _ _ h => h) (Or.inl ⟨by rfl, ?yb11⟩) (by assumption) ?rb11
      case yb11 => (intro w' hSw; (try dsimp only at hSw); go_simp; try with_reducible rfl)
      try simp only [Act.put]
      refine wpAnyH_take (i := 12) (oi := _) (v := ?vb12) rfl (by kernel_rfl) (by kernel_rfl) (by kernel_rfl) (fun _ _ _ h => h) (Or.inl ⟨by rfl, ?yb12⟩) (by assumption) ?rb12
      case yb12 => (intro w' hSw; (try dsimp only at hSw); go_simp; try with_reducible rfl)
      try simp only [Act.put]
      refine wpAnyH_take (i := 13) (oi := _) (v := ?vb13) rfl (by kernel_rfl) (by kernel_rfl) (by kernel_rfl) (fun _ _ _ h => h) (Or.inl ⟨by rfl, ?yb13⟩) (by assumption) ?rb13
      case yb13 => (intro w' hSw; (try dsimp only at hSw); go_simp; try with_reducible rfl)
      try simp only [Act.put]
      refine wpAnyH_take (i := 14) (oi := _) (v := ?vb14) rfl (by kernel_rfl) (by kernel_rfl) (by kernel_rfl) (fun _ _ _ h => h) (Or.inl ⟨by rfl, ?yb14⟩) (by assumption) ?rb14
      case yb14 => (intro w' hSw; (try dsimp only at hSw); go_simp; try with_reducible rfl)
      try simp only [Act.put]
      refine wpAnyH_take (i := 15) (oi := _) (v := ?vb15) rfl (by kernel_rfl) (by kernel_rfl) (by kernel_rfl) (fun _ _ _ h => h) (Or.inl ⟨by rfl, ?yb15⟩) (by assumption) ?rb15
      case yb15 => (intro w' hSw; (try dsimp only at hSw); go_simp; try with_reducible rfl)
      try simp only [Act.put]
      refine wpAnyH_ready (rs := [10]) (by kernel_rfl) (by simp) ?_
      refine AllReadyH.cons (o := _) rfl (fun K hK => ?_) AllReadyH.nil
      go_simp
      refine hK.out _ _ ?_ (fun hHeld => ?_)
      · exact hHeld
      clear hK K
      try simp only [Act.put]
      refine wpAnyH_ready (rs := [16]) (by kernel_rfl) (by simp) ?_
      refine AllReadyH.cons (o := _) rfl (fun K hK => ?_) AllReadyH.nil
      go_simp
      refine (put_val B (.slice kb d.kids.length kd) d.kids ⟨nm, i⟩ _ HKB.out.1 (by simpa using hBz) (OwnEnts.of_heap (by rfl) HE.out)).mono ?_
      rintro e w2 ⟨v', rfl, ho2, hg2, ha2⟩
      obtain ⟨va, vc, rfl⟩ := ho2.shape
      have K2 := kidsFr (W := wc) (W' := w2) hF1 HT1.out hb1 hBz (hOJ.out 1) HVK.out.1 ⟨hg2.os, hg2.tape, hg2.output, hg2.size, hg2.block⟩ (.inr rfl) (fun g hg => .inl (HVK.out.2 g hg).2) ho2 ha2
      have p0 := K2.fr.t
      have p1 := K2.fr.o1
      have p2 := K2.fr.o2
      have p5 := K2.fr.o5
      have f5 := K2.cell
      have g5 := K2.frozen
      have hbl2 := K2.lt
      have hzz2 := K2.size
      have KH : Hid (KidsFr w.heap.size w wc w2 B b c n j ⟨k, j, nm, l, nm2, i, tx⟩ (os.set i ⟨1, 1, ⟨#[]⟩, []⟩) vs1 (.slice kb d.kids.length kd) (.slice va (putL ⟨nm, i⟩ d.kids).length vc) (putL ⟨nm, i⟩ d.kids)) := K2
      clear K2 ho2 hg2 ha2
      go_wp2_with fail
      refine hK.out _ _ ?_ (fun hHeld => ?_)
      · exact ⟨p0, p1, p2, p5⟩
      clear hK K
      try simp only [Act.put]
      refine wpAnyH_take (i := 17) (oi := _) (v := ?vb17) rfl (by kernel_rfl) (by kernel_rfl) (by kernel_rfl) (fun _ _ _ h => h) (Or.inl ⟨by rfl, ?yb17⟩) (by assumption) ?rb17
      case yb17 => (intro w' hSw; (try dsimp only at hSw); go_simp; try with_reducible rfl)
      try simp only [Act.put]
      refine wpAnyH_take (i := 18) (oi := _) (v := ?vb18) rfl (by kernel_rfl) (by kernel_rfl) (by kernel_rfl) (fun _ _ _ h => h) (Or.inl ⟨by rfl, ?yb18⟩) (by assumption) ?rb18
      case yb18 => (intro w' hSw; (try dsimp only at hSw); go_simp; try with_reducible rfl)
      try simp only [Act.put]
      refine wpAnyH_ready (rs := [19]) (by kernel_rfl) (by simp) ?_
      refine AllReadyH.cons (o := _) rfl (fun K hK => ?_) AllReadyH.nil
      go_simp
      refine hK.out _ _ ?_ (fun hHeld => ?_)
      · exact ⟨by rw [World.cell?_setCell_other _ _ _ _ (by simp <;> omega)]; exact p0, by rw [World.cell?_setCell_other _ _ _ _ (by simp <;> omega)]; exact p1, by rw [World.cell?_setCell_other _ _ _ _ (by simp <;> omega)]; exact p2, by rw [World.cell?_setCell_other _ _ _ _ (by simp <;> omega)]; exact p5⟩
      clear hK K
      try simp only [Act.put]
      refine wpAnyH_done (by kernel_rfl) ?_ _
      go_wp2_with fail
      go_meet
      exact ⟨⟨_, KH.out.done d (hOJ.out 1) (fun e he => by rcases mem_putL he with rfl | h; exact HNM.out; exact HY7.out e h)⟩, KH.out.fr.set hbA _ _, KH.out.below.setCell (by simpa using hBb) _, (hk1.kids (by omega) KH.out HVN.out).set _ _⟩
    obtain ⟨hT2, hF2, hb2, hk2⟩ := hcut
    clear e5 z5 HE q0 q1 q2 q5 hz1 hbl hBz HVK HT1 hF1 hb1 hk1 HVN
    obtain ⟨vs2, hT2'⟩ := hT2.out
    have hlen : Hid (n = ((os.set i ⟨1, 1, ⟨#[]⟩, []⟩).set j { d with kids := putL ⟨nm, i⟩ d.kids }).length) := by show _ = _; simpa using HN.out
    have hj2 : Hid (((os.set i ⟨1, 1, ⟨#[]⟩, []⟩).set j { d with kids := putL ⟨nm, i⟩ d.kids })[j]? = some { d with kids := putL ⟨nm, i⟩ d.kids }) := List.getElem?_set_self (by have := HN.out; simp; omega)
    have q0 := hF2.t
    have q1 := hF2.o1
    have hz1 := hF2.size
    go_wp2_with fail
    refine (turn_any B b c j { d with kids := putL ⟨nm, i⟩ d.kids } _ vs2 n _ _ rfl hlen.out hj2.out (by have := HKB.out; simp; omega) (by have := HKB.out; simp; omega) hT2').mono ?_
    rintro e w3 ⟨rfl, hT3, hg3⟩
    rw [← hlen.out]
    have hF3 := hF2.grown hg3 (fun g hg => .inl (by simp at hg; omega))
    have hb3 : Below B w w3 := below_grown hb2 hg3 (fun g hg => by simp at hg; omega) (by omega)
    have hk3 := hk2.turn (by omega) hg3
    obtain ⟨⟨rv3, hr3⟩, hr4⟩ := hF3.res
    have hz3 := hF3.size
    have HT3 : Hid (OwnT w3 B b c ((os.set i ⟨1, 1, ⟨#[]⟩, []⟩).set j { d with kids := putL ⟨nm, i⟩ d.kids, ver := d.ver + 1 }) vs2) := by
      show OwnT _ _ _ _ _ _
      rw [List.set_set] at hT3
      exact hT3
    clear hT3 hg3 hT2' hT2 hF2 hb2 q0 q1
    go_wp2_with fail
    refine bodyPost_ret (v := .tuple #[.agg #[.slice (some ⟨b, 0, none⟩) n c], .int .i64 0]) (by rw [results, Try.results151]; simp [go_sem, World.cell?_setCell_same _ _ _ hr3]) rfl ?_
    rw [HV4.out]
    exact ⟨vs2, by simp [HN.out], HT3.out.setBox hF3.r 0 _, hb3.setCell (by show B ≤ w.heap.size + 1 + 1; omega) _, hk3.setNew (by omega) _ _⟩
end Go.Proofs.Ytjenldenggaljaa
