/- Lemmas that the proofs of this seat share: DoAll. -/
import Derived.Test.YtloopeipheklpaaGreatDoorW15
import Derived.Deep.RegionHeld
import Derived.BigRegion
import Derived.Test.YtloopeipheklpaaGreatDoorW03
namespace Go.Proofs.YtloopeipheklpaaGreatDoor
section
open Go.RowKit
def actNew (os : List LObj) (o : LOp) : List LObj × Int :=
  match os[o.dir.toNat]?,os[o.id.toNat]? with
  | some d,some x =>
    if d.kind ≠ 2 then (os,1)
    else if 0 ≤ findV d.kids o.name then (os,3)
    else if x.kind ≠ 0 ∨ 0 < x.ver then (os,7)
    else ((os.set o.id.toNat ⟨if o.kind = 2 then 2 else 1,1,⟨#[]⟩,[]⟩).set o.dir.toNat { d with kids:=putL ⟨o.name,o.id⟩ d.kids,ver:=d.ver + 1 },0)
  | _,_=>(os,8)
theorem isDir_b (a : Option Addr) (n c i : Nat) (o : LObj) (os : List LObj) (L U : Nat) (id : Int) (w : World) (hi : id = i) (ho : os[i]? = some o) (hU : U ≤ w.heap.size) (H : ObjsAt w L U a n os) :
    Calls Tryz.prog 207 #[.agg #[.slice a n c],.int .i64 id] w fun e w'=>e = .returned (.bool (o.kind == 2)) ∧ Below w.heap.size w w' :=
  (isDir_any a n c i o os L U id w hi ho hU H).mono (by rintro e w' ⟨rfl,rfl⟩; exact ⟨rfl,(Below.refl _ _).alloc (Nat.le_refl _) _⟩)
theorem do_same {w W : World} {A B b c n : Nat} {o : LOp} {os : List LObj} {vs : Nat → Value} {code : Int} {r : List LObj × Int} (hr : r = (os,code)) (hF : Fr A W b c n o) (hA : w.heap.size = A) (hB : B ≤ w.heap.size) (hT : OwnT W B b c os vs) (hb : Below w.heap.size w W) (hn : n = os.length) (v : Value) :
    DoEnd w B b c n vs r (.returned (.tuple #[.agg #[.slice (some ⟨b,0,none⟩) n c],.int .i64 code])) (W.setCell ⟨A + 1 + 1,0,none⟩ v):=by
  subst hr hn
  exact ⟨vs,rfl,hT.setBox hF.r 0 v,(hb.mono hB).setCell (by show B ≤ A + 1 + 1; omega) _,(Kt.of_below hb _ _ _).setNew (by omega) _ _⟩
set_option maxHeartbeats 2000000 in
set_option maxRecDepth 20000 in
theorem new_any (B b c n i j : Nat) (o : LOp) (os : List LObj) (vs : Nat → Value) (w : World) (hid : o.id = i) (hdir : o.dir = j) (hn : n = os.length) (hi : i < n) (hj : j < n) (hB : B ≤ w.heap.size)
    (hv : ∀ x ∈ os,0 ≤ x.ver ∧ x.ver ≤ 1000000 ∧ x.kids.length ≤ 1000000) (hnm : o.name.size ≤ maxLen) (H : OwnT w B b c os vs) :
    Calls Tryz.prog 174 #[.agg #[.slice (some ⟨b,0,none⟩) n c],.agg o.val] w fun e w'=>DoEnd w B b c n vs (actNew os o) e w':=by
  obtain ⟨d,hd⟩ : ∃ d,os[j]? = some d:=⟨os[j]'(by omega),by simp⟩
  obtain ⟨x,hx⟩ : ∃ x,os[i]? = some x:=⟨os[i]'(by omega),by simp⟩
  obtain ⟨k,dd,nm,l,nm2,ii,tx⟩:=o
  simp only [LOp.val] at *
  subst hid hdir
  have HV : Hid (actNew os ⟨k,j,nm,l,nm2,i,tx⟩ = if d.kind ≠ 2 then (os,1)
    else if 0 ≤ findV d.kids nm then (os,3)
    else if x.kind ≠ 0 ∨ 0 < x.ver then (os,7)
    else ((os.set i ⟨if k = 2 then 2 else 1,1,⟨#[]⟩,[]⟩).set j { d with kids:=putL ⟨nm,i⟩ d.kids,ver:=d.ver + 1 },0)):=by
    show _ = _
    simp only [actNew,Int.toNat_natCast,hd,hx]
  have HOB:=H.to_objs
  rw [← hn] at HOB
  have hbA : b < w.heap.size:=H.lt
  have hBb : B ≤ b:=H.lo
  have HVJ : Hid (∀ g,(vs j).ownBlock = some g → B ≤ g ∧ g < w.heap.size):=fun g hg=>(H.at_ j d hd).2.2.2.2.2.1.lt g hg
  have HNM : Hid (nm.size ≤ maxLen):=hnm
  have HN : Hid (n = os.length):=hn
  have HD : Hid (os[j]? = some d):=hd
  have HX : Hid (os[i]? = some x):=hx
  have hj' : (j : Int) < (n : Int):=by omega
  have hi' : (i : Int) < (n : Int):=by omega
  have hv1:=hv d (List.mem_of_getElem? hd)
  have HKB : Hid (d.kids.length ≤ 1000000 ∧ 0 ≤ d.ver ∧ d.ver ≤ 1000000):=⟨hv1.2.2,hv1.1,hv1.2.1⟩
  have HF0:=Fr.start w b c n ⟨k,j,nm,l,nm2,i,tx⟩ (.slice none 0 0)
  have hA : ∀ o1 o2 o3,Below w.heap.size w (((w.alloc o1).alloc o2).alloc o3):=fun o1 o2 o3=>(((Below.refl _ _).alloc (Nat.le_refl _) _).alloc (by simp) _).alloc (by simp; omega) _
  clear hv hn hd hx hv1
  go_enter Tryz.func174,Tryz.ntmps174
  go_wp2_with fail
  refine (isDir_b _ n c j d os B w.heap.size _ _ rfl HD.out (by simp; omega) (HOB.below (hA _ _ _) (Nat.le_refl _))).mono ?_
  rintro e W ⟨rfl,hb1⟩
  have HF:=HF0.next hb1
  have hbW : Below w.heap.size w W:=(hA _ _ _).trans (hb1.mono (by simp; omega))
  have HT : Hid (OwnT W B b c os vs):=H.below hbW
  clear HF0 hb1 hA HOB H
  obtain ⟨⟨rv,hr0⟩,hr1⟩:=HF.res
  have q0:=HF.t
  have hzW:=HF.size
  by_cases hk2 : d.kind = 2
  case neg =>
    have t : (d.kind == 2) = false:=by simpa using hk2
    have HV1 : Hid (actNew os ⟨k,j,nm,l,nm2,i,tx⟩ = (os,1)):=by show _ = _; rw [HV.out,if_pos hk2]
    clear hk2 HV
    go_wp2_with fail
    exact bodyPost_ret (v:=.tuple #[.agg #[.slice (some ⟨b,0,none⟩) n c],.int .i64 1]) (by rw [results,Tryz.results174]; simp [go_sem,World.cell?_setCell_same _ _ _ hr0]) rfl (do_same HV1.out HF rfl hB HT.out hbW HN.out _)
  have t : (d.kind == 2) = true:=by simpa using hk2
  have HV2 : Hid (actNew os ⟨k,j,nm,l,nm2,i,tx⟩ = if 0 ≤ findV d.kids nm then (os,3)
    else if x.kind ≠ 0 ∨ 0 < x.ver then (os,7)
    else ((os.set i ⟨if k = 2 then 2 else 1,1,⟨#[]⟩,[]⟩).set j { d with kids:=putL ⟨nm,i⟩ d.kids,ver:=d.ver + 1 },0)):=by show _ = _; rw [HV.out,if_neg (by simpa using hk2)]
  have HK2 : Hid (d.kind = 2):=hk2
  clear hk2 HV
  obtain ⟨d1,d2,d3,d4,d5,d6,d7⟩:=HT.out.at_ j d HD.out
  obtain ⟨ka,kc,hvj,hents⟩:=d6.at_ d7
  have e5 : W.cell? ⟨b,j * 4 + 3,none⟩ = some (.slice ka d.kids.length kc):=by rw [d5,hvj]
  have hbl:=HT.out.lt
  have q1:=HF.o1
  have q2:=HF.o2
  have HENT : ∀ q,EntsAt (W.drewN q) B W.heap.size ka d.kids.length d.kids:=fun q=>hents.below (Below.drewN _ _) (Nat.le_refl _)
  clear d1 d2 d3 d4 d5 d6 d7
  go_wp2_with fail
  go_quiet ((go_at_call 208; exact Calls.quiet_of_same (l1Find_any _ _ _ d.kids B W.heap.size _ _ (HENT _))))
  obtain ⟨V,hV⟩ : ∃ V,Hid (V = W.drewN nq):=⟨_,rfl⟩
  rw [← hV.out]
  have hbV : Below W.heap.size W V:=by rw [hV.out]; exact Below.drewN _ _
  have HFV:=HF.next hbV
  have HTV : Hid (OwnT V B b c os vs):=HT.out.below hbV
  have hbVw : Below w.heap.size w V:=hbW.trans (hbV.mono hbW.size)
  clear hV hbV HENT hents e5 hr0 hr1 q0 q1 q2 hbl HT hbW hzW HF
  obtain ⟨⟨rv',hr0⟩,hr1⟩:=HFV.res
  have q0:=HFV.t
  have hzW:=HFV.size
  have hbl:=HTV.out.lt
  by_cases hf : 0 ≤ findV d.kids nm
  · have HV1 : Hid (actNew os ⟨k,j,nm,l,nm2,i,tx⟩ = (os,3)):=by show _ = _; rw [HV2.out,if_pos hf]
    clear HV2
    go_wp2_with fail
    exact bodyPost_ret (v:=.tuple #[.agg #[.slice (some ⟨b,0,none⟩) n c],.int .i64 3]) (by rw [results,Tryz.results174]; simp [go_sem,World.cell?_setCell_same _ _ _ hr0]) rfl (do_same HV1.out HFV rfl hB HTV.out hbVw HN.out _)
  have HV3 : Hid (actNew os ⟨k,j,nm,l,nm2,i,tx⟩ = if x.kind ≠ 0 ∨ 0 < x.ver then (os,7)
    else ((os.set i ⟨if k = 2 then 2 else 1,1,⟨#[]⟩,[]⟩).set j { d with kids:=putL ⟨nm,i⟩ d.kids,ver:=d.ver + 1 },0)):=by show _ = _; rw [HV2.out,if_neg hf]
  clear HV2
  obtain ⟨x1,x2,x3,x4,x5,x6,x7⟩:=HTV.out.at_ i x HX.out
  have q5:=HFV.o5
  by_cases hxk : x.kind = 0
  case neg =>
    have t7 : (x.kind != 0) = true:=by simpa using hxk
    have HV1 : Hid (actNew os ⟨k,j,nm,l,nm2,i,tx⟩ = (os,7)):=by show _ = _; rw [HV3.out,if_pos (.inl hxk)]
    clear HV3 hxk x1 x4 x5 x6 x7
    go_wp2_with fail
    exact bodyPost_ret (v:=.tuple #[.agg #[.slice (some ⟨b,0,none⟩) n c],.int .i64 7]) (by rw [results,Tryz.results174]; simp [go_sem,World.cell?_setCell_same _ _ _ hr0]) rfl (do_same HV1.out HFV rfl hB HTV.out hbVw HN.out _)
  have t7 : (x.kind != 0) = false:=by simpa using hxk
  by_cases hxv : 0 < x.ver
  · have HV1 : Hid (actNew os ⟨k,j,nm,l,nm2,i,tx⟩ = (os,7)):=by show _ = _; rw [HV3.out,if_pos (.inr hxv)]
    clear HV3 hxk x1 x4 x5 x6 x7
    go_wp2_with fail
    exact bodyPost_ret (v:=.tuple #[.agg #[.slice (some ⟨b,0,none⟩) n c],.int .i64 7]) (by rw [results,Tryz.results174]; simp [go_sem,World.cell?_setCell_same _ _ _ hr0]) rfl (do_same HV1.out HFV rfl hB HTV.out hbVw HN.out _)
  have hij : i ≠ j:=fun e=>by
    subst e
    have h1:=HX.out
    rw [HD.out] at h1
    cases h1
    have:=HK2.out
    omega
  have HXK : Hid (x.kind = 0):=hxk
  obtain ⟨kv,hkv⟩ : ∃ kv : Int,Hid (kv = if k = 2 then 2 else 1):=⟨_,rfl⟩
  have HV4 : Hid (actNew os ⟨k,j,nm,l,nm2,i,tx⟩ = ((os.set i ⟨kv,1,⟨#[]⟩,[]⟩).set j { d with kids:=putL ⟨nm,i⟩ d.kids,ver:=d.ver + 1 },0)):=by
    show _ = _; rw [HV3.out,if_neg (by rintro (h | h); exact h hxk; exact hxv h),hkv.out]
  clear HV3 hxk
  have z0:=HTV.out.frozen (i * 4)
  have z1:=HTV.out.frozen (i * 4 + 1)
  have z2:=HTV.out.frozen (i * 4 + 2)
  have z3:=HTV.out.frozen (i * 4 + 3)
  have q00:=HFV.o0
  have hkk : kv = 2 ∧ (k == 2) = true ∨ kv = 1 ∧ (k == 2) = false:=by
    have:=hkv.out
    by_cases e : k = 2
    · left; simpa [e] using this
    · right; simpa [e] using this
  clear hkv
  have hOJ : Hid (∀ kv : Int,(os.set i ⟨kv,1,⟨#[]⟩,[]⟩)[j]? = some d):=fun kv=>by rw [List.getElem?_set_ne hij]; exact HD.out
  rcases hkk with ⟨rfl,tk⟩ | ⟨rfl,tk⟩
  · clear x1 x6 x7 hvj HXK hnm
    go_upto_region 10 with fail
    go_cut [] (fun wx=>Hid (∃ vs1,OwnT wx B b c (os.set i ⟨2,1,⟨#[]⟩,[]⟩) vs1 ∧ vs1 j = vs j) ∧ Fr w.heap.size wx b c n ⟨k,j,nm,l,nm2,i,tx⟩ ∧ Below B w wx ∧ Kt w wx b n vs)
    case first =>
      go_wp2_with fail
      go_meet
      exact ⟨⟨_,HTV.out.put4 HX.out 2 1,if_neg (Ne.symm hij)⟩,HFV.put4 hbA,put4_below i 2 1 (hbVw.mono hB) hBb,(Kt.of_below hbVw _ _ _).put4⟩
    obtain ⟨hT1,hF1,hb1,hk1⟩:=hcut
    clear x2 x3 x4 x5 z0 z1 z2 z3 q0 q5 q00 hr0 hr1 hzW hbl HFV HTV hbVw hf hxv t7 tk
    obtain ⟨vs1,hT1',hvs1⟩:=hT1.out
    have HT1 : Hid (OwnT wc B b c (os.set i ⟨2,1,⟨#[]⟩,[]⟩) vs1):=hT1'
    obtain ⟨y1,y2,y3,y4,y5,y6,y7⟩:=hT1'.at_ j d (hOJ.out 2)
    obtain ⟨kb,kd,hvk,hentk⟩:=y6.at_ y7
    have e5 : wc.cell? ⟨b,j * 4 + 3,none⟩ = some (.slice kb d.kids.length kd):=by rw [y5,hvk]
    have z5 : wc.frozen? ⟨b,j * 4 + 3,none⟩ = false:=hT1'.frozen _
    have HE : Hid (OwnEnts wc B (.slice kb d.kids.length kd) d.kids):=by show OwnEnts _ _ _ _; rw [← hvk]; exact y6
    have HY7 : Hid (∀ e ∈ d.kids,e.name.size ≤ maxLen):=y7
    have HVK : Hid (vs1 j = .slice kb d.kids.length kd ∧ (∀ g,(Value.slice kb d.kids.length kd).ownBlock = some g → B ≤ g ∧ g < w.heap.size)):=⟨hvk,fun g hg=>HVJ.out g (by rw [← hvs1,hvk]; exact hg)⟩
    have HVN : Hid (∀ g,(Value.slice kb d.kids.length kd).ownBlock = some g → (∃ q,q < n ∧ (vs q).ownBlock = some g) ∨ w.heap.size ≤ g):=fun g hg=>.inl ⟨j,hj,by rw [← hvs1,hvk]; exact hg⟩
    have hbl:=hT1'.lt
    have q0:=hF1.t
    have q1:=hF1.o1
    have q2:=hF1.o2
    have q5:=hF1.o5
    have hz1:=hF1.size
    have hBz : B ≤ wc.heap.size:=by omega
    clear hT1 hT1' hvs1 y1 y2 y3 y4 y5 y6 y7 hvk hentk
    go_upto_region 11 with fail
    go_cut [] (fun wy=>Hid (∃ vs2,OwnT wy B b c ((os.set i ⟨2,1,⟨#[]⟩,[]⟩).set j { d with kids:=putL ⟨nm,i⟩ d.kids }) vs2) ∧ Fr w.heap.size wy b c n ⟨k,j,nm,l,nm2,i,tx⟩ ∧ Below B w wy ∧ Kt w wy b n vs)
    case first =>
      refine wp_region_held_drew (S:=(fun w'=>w'.cell? ⟨w.heap.size,0,none⟩ = some (.slice (some ⟨b,0,none⟩) n c) ∧ w'.cell? ⟨w.heap.size + 1,1,none⟩ = some (.int .i64 j) ∧ w'.cell? ⟨w.heap.size + 1,2,none⟩ = some (.string nm) ∧ w'.cell? ⟨w.heap.size + 1,5,none⟩ = some (.int .i64 i))) (by kernel_rfl) ?_ (fun hHeld=>?_)
      · exact ⟨q0,q1,q2,q5⟩
      refine wpAnyH_take (i:=0) (oi:=_) (v:=?v0) rfl (by kernel_rfl) (by kernel_rfl) (by kernel_rfl) (fun _ _ _ h=>h) (Or.inl ⟨by rfl,?y0⟩) (by assumption) ?r0
      case y0=>(intro w' hSw; (try dsimp only at hSw); go_simp; try with_reducible rfl)
      try simp only [Act.put]
      refine wpAnyH_take (i:=1) (oi:=_) (v:=?v1) rfl (by kernel_rfl) (by kernel_rfl) (by kernel_rfl) (fun _ _ _ h=>h) (Or.inl ⟨by rfl,?y1⟩) (by assumption) ?r1
      case y1=>(intro w' hSw; (try dsimp only at hSw); go_simp; try with_reducible rfl)
      try simp only [Act.put]
      refine wpAnyH_take (i:=2) (oi:=_) (v:=?v2) rfl (by kernel_rfl) (by kernel_rfl) (by kernel_rfl) (fun _ _ _ h=>h) (Or.inl ⟨by rfl,?y2⟩) (by assumption) ?r2
      case y2=>(intro w' hSw; (try dsimp only at hSw); go_simp; try with_reducible rfl)
      try simp only [Act.put]
      refine wpAnyH_take (i:=3) (oi:=_) (v:=?v3) rfl (by kernel_rfl) (by kernel_rfl) (by kernel_rfl) (fun _ _ _ h=>h) (Or.inl ⟨by rfl,?y3⟩) (by assumption) ?r3
      case y3=>(intro w' hSw; (try dsimp only at hSw); go_simp; try with_reducible rfl)
      try simp only [Act.put]
      refine wpAnyH_take (i:=4) (oi:=_) (v:=?v4) rfl (by kernel_rfl) (by kernel_rfl) (by kernel_rfl) (fun _ _ _ h=>h) (Or.inl ⟨by rfl,?y4⟩) (by assumption) ?r4
      case y4=>(intro w' hSw; (try dsimp only at hSw); go_simp; try with_reducible rfl)
      try simp only [Act.put]
      refine wpAnyH_take (i:=5) (oi:=_) (v:=?v5) rfl (by kernel_rfl) (by kernel_rfl) (by kernel_rfl) (fun _ _ _ h=>h) (Or.inl ⟨by rfl,?y5⟩) (by assumption) ?r5
      case y5=>(intro w' hSw; (try dsimp only at hSw); go_simp; try with_reducible rfl)
      try simp only [Act.put]
      refine wpAnyH_take (i:=6) (oi:=_) (v:=?v6) rfl (by kernel_rfl) (by kernel_rfl) (by kernel_rfl) (fun _ _ _ h=>h) (Or.inl ⟨by rfl,?y6⟩) (by assumption) ?r6
      case y6=>(intro w' hSw; (try dsimp only at hSw); go_simp; try with_reducible rfl)
      try simp only [Act.put]
      refine wpAnyH_take (i:=7) (oi:=_) (v:=?v7) rfl (by kernel_rfl) (by kernel_rfl) (by kernel_rfl) (fun _ _ _ h=>h) (Or.inl ⟨by rfl,?y7⟩) (by assumption) ?r7
      case y7=>(intro w' hSw; (try dsimp only at hSw); go_simp; try with_reducible rfl)
      try simp only [Act.put]
      refine wpAnyH_take (i:=8) (oi:=_) (v:=?v8) rfl (by kernel_rfl) (by kernel_rfl) (by kernel_rfl) (fun _ _ _ h=>h) (Or.inl ⟨by rfl,?y8⟩) (by assumption) ?r8
      case y8=>(intro w' hSw; (try dsimp only at hSw); go_simp; try with_reducible rfl)
      try simp only [Act.put]
      refine wpAnyH_take (i:=9) (oi:=_) (v:=?v9) rfl (by kernel_rfl) (by kernel_rfl) (by kernel_rfl) (fun _ _ _ h=>h) (Or.inl ⟨by rfl,?y9⟩) (by assumption) ?r9
      case y9=>(intro w' hSw; (try dsimp only at hSw); go_simp; try with_reducible rfl)
      try simp only [Act.put]
      refine wpAnyH_take (i:=11) (oi:=_) (v:=?v11) rfl (by kernel_rfl) (by kernel_rfl) (by kernel_rfl) (fun _ _ _ h=>h) (Or.inl ⟨by rfl,?y11⟩) (by assumption) ?r11
      case y11=>(intro w' hSw; (try dsimp only at hSw); go_simp; try with_reducible rfl)
      try simp only [Act.put]
      refine wpAnyH_take (i:=12) (oi:=_) (v:=?v12) rfl (by kernel_rfl) (by kernel_rfl) (by kernel_rfl) (fun _ _ _ h=>h) (Or.inl ⟨by rfl,?y12⟩) (by assumption) ?r12
      case y12=>(intro w' hSw; (try dsimp only at hSw); go_simp; try with_reducible rfl)
      try simp only [Act.put]
      refine wpAnyH_take (i:=13) (oi:=_) (v:=?v13) rfl (by kernel_rfl) (by kernel_rfl) (by kernel_rfl) (fun _ _ _ h=>h) (Or.inl ⟨by rfl,?y13⟩) (by assumption) ?r13
      case y13=>(intro w' hSw; (try dsimp only at hSw); go_simp; try with_reducible rfl)
      try simp only [Act.put]
      refine wpAnyH_take (i:=14) (oi:=_) (v:=?v14) rfl (by kernel_rfl) (by kernel_rfl) (by kernel_rfl) (fun _ _ _ h=>h) (Or.inl ⟨by rfl,?y14⟩) (by assumption) ?r14
      case y14=>(intro w' hSw; (try dsimp only at hSw); go_simp; try with_reducible rfl)
      try simp only [Act.put]
      refine wpAnyH_take (i:=15) (oi:=_) (v:=?v15) rfl (by kernel_rfl) (by kernel_rfl) (by kernel_rfl) (fun _ _ _ h=>h) (Or.inl ⟨by rfl,?y15⟩) (by assumption) ?r15
      case y15=>(intro w' hSw; (try dsimp only at hSw); go_simp; try with_reducible rfl)
      try simp only [Act.put]
      refine wpAnyH_ready (rs:=[10]) (by kernel_rfl) (by simp) ?_
      refine AllReadyH.cons (o:=_) rfl (fun K hK=>?_) AllReadyH.nil
      go_simp
      refine hK.out _ _ ?_ (fun hHeld=>?_)
      · exact hHeld
      clear hK K
      try simp only [Act.put]
      refine wpAnyH_ready (rs:=[16]) (by kernel_rfl) (by simp) ?_
      refine AllReadyH.cons (o:=_) rfl (fun K hK=>?_) AllReadyH.nil
      go_simp
      refine (put_val B (.slice kb d.kids.length kd) d.kids ⟨nm,i⟩ _ HKB.out.1 (by simpa using hBz) (OwnEnts.of_heap (by rfl) HE.out)).mono ?_
      rintro e w2 ⟨v',rfl,ho2,hg2,ha2⟩
      obtain ⟨va,vc,rfl⟩:=ho2.shape
      have K2:=kidsFr (W:=wc) (W':=w2) hF1 HT1.out hb1 hBz (hOJ.out 2) HVK.out.1 ⟨hg2.os,hg2.tape,hg2.output,hg2.size,hg2.block⟩ (.inr rfl) (fun g hg=>.inl (HVK.out.2 g hg).2) ho2 ha2
      have p0:=K2.fr.t
      have p1:=K2.fr.o1
      have p2:=K2.fr.o2
      have p5:=K2.fr.o5
      have f5:=K2.cell
      have g5:=K2.frozen
      have hbl2:=K2.lt
      have hzz2:=K2.size
      have KH : Hid (KidsFr w.heap.size w wc w2 B b c n j ⟨k,j,nm,l,nm2,i,tx⟩ (os.set i ⟨2,1,⟨#[]⟩,[]⟩) vs1 (.slice kb d.kids.length kd) (.slice va (putL ⟨nm,i⟩ d.kids).length vc) (putL ⟨nm,i⟩ d.kids)):=K2
      clear K2 ho2 hg2 ha2
      go_wp2_with fail
      refine hK.out _ _ ?_ (fun hHeld=>?_)
      · exact ⟨p0,p1,p2,p5⟩
      clear hK K
      try simp only [Act.put]
      refine wpAnyH_take (i:=17) (oi:=_) (v:=?v17) rfl (by kernel_rfl) (by kernel_rfl) (by kernel_rfl) (fun _ _ _ h=>h) (Or.inl ⟨by rfl,?y17⟩) (by assumption) ?r17
      case y17=>(intro w' hSw; (try dsimp only at hSw); go_simp; try with_reducible rfl)
      try simp only [Act.put]
      refine wpAnyH_take (i:=18) (oi:=_) (v:=?v18) rfl (by kernel_rfl) (by kernel_rfl) (by kernel_rfl) (fun _ _ _ h=>h) (Or.inl ⟨by rfl,?y18⟩) (by assumption) ?r18
      case y18=>(intro w' hSw; (try dsimp only at hSw); go_simp; try with_reducible rfl)
      try simp only [Act.put]
      refine wpAnyH_ready (rs:=[19]) (by kernel_rfl) (by simp) ?_
      refine AllReadyH.cons (o:=_) rfl (fun K hK=>?_) AllReadyH.nil
      go_simp
      refine hK.out _ _ ?_ (fun hHeld=>?_)
      · exact ⟨by rw [World.cell?_setCell_other _ _ _ _ (by simp <;> omega)]; exact p0,by rw [World.cell?_setCell_other _ _ _ _ (by simp <;> omega)]; exact p1,by rw [World.cell?_setCell_other _ _ _ _ (by simp <;> omega)]; exact p2,by rw [World.cell?_setCell_other _ _ _ _ (by simp <;> omega)]; exact p5⟩
      clear hK K
      try simp only [Act.put]
      refine wpAnyH_done (by kernel_rfl) ?_ _
      go_wp2_with fail
      go_meet
      exact ⟨⟨_,KH.out.done d (hOJ.out 2) (fun e he=>by rcases mem_putL he with rfl | h; exact HNM.out; exact HY7.out e h)⟩,KH.out.fr.set hbA _ _,KH.out.below.setCell (by simpa using hBb) _,(hk1.kids (by omega) KH.out HVN.out).set _ _⟩
    obtain ⟨hT2,hF2,hb2,hk2⟩:=hcut
    clear e5 z5 HE q0 q1 q2 q5 hz1 hbl hBz HVK HT1 hF1 hb1 hk1 HVN
    obtain ⟨vs2,hT2'⟩:=hT2.out
    have hlen : Hid (n = ((os.set i ⟨2,1,⟨#[]⟩,[]⟩).set j { d with kids:=putL ⟨nm,i⟩ d.kids }).length):=by show _ = _; simpa using HN.out
    have hj2 : Hid (((os.set i ⟨2,1,⟨#[]⟩,[]⟩).set j { d with kids:=putL ⟨nm,i⟩ d.kids })[j]? = some { d with kids:=putL ⟨nm,i⟩ d.kids }):=List.getElem?_set_self (by have:=HN.out; simp; omega)
    have q0:=hF2.t
    have q1:=hF2.o1
    have hz1:=hF2.size
    go_wp2_with fail
    refine (turn_any B b c j { d with kids:=putL ⟨nm,i⟩ d.kids } _ vs2 n _ _ rfl hlen.out hj2.out (by have:=HKB.out; simp; omega) (by have:=HKB.out; simp; omega) hT2').mono ?_
    rintro e w3 ⟨rfl,hT3,hg3⟩
    rw [← hlen.out]
    have hF3:=hF2.grown hg3 (fun g hg=>.inl (by simp at hg; omega))
    have hb3 : Below B w w3:=below_grown hb2 hg3 (fun g hg=>by simp at hg; omega) (by omega)
    have hk3:=hk2.turn (by omega) hg3
    obtain ⟨⟨rv3,hr3⟩,hr4⟩:=hF3.res
    have hz3:=hF3.size
    have HT3 : Hid (OwnT w3 B b c ((os.set i ⟨2,1,⟨#[]⟩,[]⟩).set j { d with kids:=putL ⟨nm,i⟩ d.kids,ver:=d.ver + 1 }) vs2):=by
      show OwnT _ _ _ _ _ _
      rw [List.set_set] at hT3
      exact hT3
    clear hT3 hg3 hT2' hT2 hF2 hb2 q0 q1
    go_wp2_with fail
    refine bodyPost_ret (v:=.tuple #[.agg #[.slice (some ⟨b,0,none⟩) n c],.int .i64 0]) (by rw [results,Tryz.results174]; simp [go_sem,World.cell?_setCell_same _ _ _ hr3]) rfl ?_
    rw [HV4.out]
    exact ⟨vs2,by simp [HN.out],HT3.out.setBox hF3.r 0 _,hb3.setCell (by show B ≤ w.heap.size + 1 + 1; omega) _,hk3.setNew (by omega) _ _⟩
  · clear x1 x6 x7 hvj HXK hnm
    go_upto_region 10 with fail
    go_cut [] (fun wx=>Hid (∃ vs1,OwnT wx B b c (os.set i ⟨1,1,⟨#[]⟩,[]⟩) vs1 ∧ vs1 j = vs j) ∧ Fr w.heap.size wx b c n ⟨k,j,nm,l,nm2,i,tx⟩ ∧ Below B w wx ∧ Kt w wx b n vs)
    case first =>
      go_wp2_with fail
      go_meet
      exact ⟨⟨_,HTV.out.put4 HX.out 1 1,if_neg (Ne.symm hij)⟩,HFV.put4 hbA,put4_below i 1 1 (hbVw.mono hB) hBb,(Kt.of_below hbVw _ _ _).put4⟩
    obtain ⟨hT1,hF1,hb1,hk1⟩:=hcut
    clear x2 x3 x4 x5 z0 z1 z2 z3 q0 q5 q00 hr0 hr1 hzW hbl HFV HTV hbVw hf hxv t7 tk
    obtain ⟨vs1,hT1',hvs1⟩:=hT1.out
    have HT1 : Hid (OwnT wc B b c (os.set i ⟨1,1,⟨#[]⟩,[]⟩) vs1):=hT1'
    obtain ⟨y1,y2,y3,y4,y5,y6,y7⟩:=hT1'.at_ j d (hOJ.out 1)
    obtain ⟨kb,kd,hvk,hentk⟩:=y6.at_ y7
    have e5 : wc.cell? ⟨b,j * 4 + 3,none⟩ = some (.slice kb d.kids.length kd):=by rw [y5,hvk]
    have z5 : wc.frozen? ⟨b,j * 4 + 3,none⟩ = false:=hT1'.frozen _
    have HE : Hid (OwnEnts wc B (.slice kb d.kids.length kd) d.kids):=by show OwnEnts _ _ _ _; rw [← hvk]; exact y6
    have HY7 : Hid (∀ e ∈ d.kids,e.name.size ≤ maxLen):=y7
    have HVK : Hid (vs1 j = .slice kb d.kids.length kd ∧ (∀ g,(Value.slice kb d.kids.length kd).ownBlock = some g → B ≤ g ∧ g < w.heap.size)):=⟨hvk,fun g hg=>HVJ.out g (by rw [← hvs1,hvk]; exact hg)⟩
    have HVN : Hid (∀ g,(Value.slice kb d.kids.length kd).ownBlock = some g → (∃ q,q < n ∧ (vs q).ownBlock = some g) ∨ w.heap.size ≤ g):=fun g hg=>.inl ⟨j,hj,by rw [← hvs1,hvk]; exact hg⟩
    have hbl:=hT1'.lt
    have q0:=hF1.t
    have q1:=hF1.o1
    have q2:=hF1.o2
    have q5:=hF1.o5
    have hz1:=hF1.size
    have hBz : B ≤ wc.heap.size:=by omega
    clear hT1 hT1' hvs1 y1 y2 y3 y4 y5 y6 y7 hvk hentk
    go_upto_region 11 with fail
    go_cut [] (fun wy=>Hid (∃ vs2,OwnT wy B b c ((os.set i ⟨1,1,⟨#[]⟩,[]⟩).set j { d with kids:=putL ⟨nm,i⟩ d.kids }) vs2) ∧ Fr w.heap.size wy b c n ⟨k,j,nm,l,nm2,i,tx⟩ ∧ Below B w wy ∧ Kt w wy b n vs)
    case first =>
      refine wp_region_held_drew (S:=(fun w'=>w'.cell? ⟨w.heap.size,0,none⟩ = some (.slice (some ⟨b,0,none⟩) n c) ∧ w'.cell? ⟨w.heap.size + 1,1,none⟩ = some (.int .i64 j) ∧ w'.cell? ⟨w.heap.size + 1,2,none⟩ = some (.string nm) ∧ w'.cell? ⟨w.heap.size + 1,5,none⟩ = some (.int .i64 i))) (by kernel_rfl) ?_ (fun hHeld=>?_)
      · exact ⟨q0,q1,q2,q5⟩
      refine wpAnyH_take (i:=0) (oi:=_) (v:=?vb0) rfl (by kernel_rfl) (by kernel_rfl) (by kernel_rfl) (fun _ _ _ h=>h) (Or.inl ⟨by rfl,?yb0⟩) (by assumption) ?rb0
      case yb0=>(intro w' hSw; (try dsimp only at hSw); go_simp; try with_reducible rfl)
      try simp only [Act.put]
      refine wpAnyH_take (i:=1) (oi:=_) (v:=?vb1) rfl (by kernel_rfl) (by kernel_rfl) (by kernel_rfl) (fun _ _ _ h=>h) (Or.inl ⟨by rfl,?yb1⟩) (by assumption) ?rb1
      case yb1=>(intro w' hSw; (try dsimp only at hSw); go_simp; try with_reducible rfl)
      try simp only [Act.put]
      refine wpAnyH_take (i:=2) (oi:=_) (v:=?vb2) rfl (by kernel_rfl) (by kernel_rfl) (by kernel_rfl) (fun _ _ _ h=>h) (Or.inl ⟨by rfl,?yb2⟩) (by assumption) ?rb2
      case yb2=>(intro w' hSw; (try dsimp only at hSw); go_simp; try with_reducible rfl)
      try simp only [Act.put]
      refine wpAnyH_take (i:=3) (oi:=_) (v:=?vb3) rfl (by kernel_rfl) (by kernel_rfl) (by kernel_rfl) (fun _ _ _ h=>h) (Or.inl ⟨by rfl,?yb3⟩) (by assumption) ?rb3
      case yb3=>(intro w' hSw; (try dsimp only at hSw); go_simp; try with_reducible rfl)
      try simp only [Act.put]
      refine wpAnyH_take (i:=4) (oi:=_) (v:=?vb4) rfl (by kernel_rfl) (by kernel_rfl) (by kernel_rfl) (fun _ _ _ h=>h) (Or.inl ⟨by rfl,?yb4⟩) (by assumption) ?rb4
      case yb4=>(intro w' hSw; (try dsimp only at hSw); go_simp; try with_reducible rfl)
      try simp only [Act.put]
      refine wpAnyH_take (i:=5) (oi:=_) (v:=?vb5) rfl (by kernel_rfl) (by kernel_rfl) (by kernel_rfl) (fun _ _ _ h=>h) (Or.inl ⟨by rfl,?yb5⟩) (by assumption) ?rb5
      case yb5=>(intro w' hSw; (try dsimp only at hSw); go_simp; try with_reducible rfl)
      try simp only [Act.put]
      refine wpAnyH_take (i:=6) (oi:=_) (v:=?vb6) rfl (by kernel_rfl) (by kernel_rfl) (by kernel_rfl) (fun _ _ _ h=>h) (Or.inl ⟨by rfl,?yb6⟩) (by assumption) ?rb6
      case yb6=>(intro w' hSw; (try dsimp only at hSw); go_simp; try with_reducible rfl)
      try simp only [Act.put]
      refine wpAnyH_take (i:=7) (oi:=_) (v:=?vb7) rfl (by kernel_rfl) (by kernel_rfl) (by kernel_rfl) (fun _ _ _ h=>h) (Or.inl ⟨by rfl,?yb7⟩) (by assumption) ?rb7
      case yb7=>(intro w' hSw; (try dsimp only at hSw); go_simp; try with_reducible rfl)
      try simp only [Act.put]
      refine wpAnyH_take (i:=8) (oi:=_) (v:=?vb8) rfl (by kernel_rfl) (by kernel_rfl) (by kernel_rfl) (fun _ _ _ h=>h) (Or.inl ⟨by rfl,?yb8⟩) (by assumption) ?rb8
      case yb8=>(intro w' hSw; (try dsimp only at hSw); go_simp; try with_reducible rfl)
      try simp only [Act.put]
      refine wpAnyH_take (i:=9) (oi:=_) (v:=?vb9) rfl (by kernel_rfl) (by kernel_rfl) (by kernel_rfl) (fun _ _ _ h=>h) (Or.inl ⟨by rfl,?yb9⟩) (by assumption) ?rb9
      case yb9=>(intro w' hSw; (try dsimp only at hSw); go_simp; try with_reducible rfl)
      try simp only [Act.put]
      refine wpAnyH_take (i:=11) (oi:=_) (v:=?vb11) rfl (by kernel_rfl) (by kernel_rfl) (by kernel_rfl) (fun _ _ _ h=>h) (Or.inl ⟨by rfl,?yb11⟩) (by assumption) ?rb11
      case yb11=>(intro w' hSw; (try dsimp only at hSw); go_simp; try with_reducible rfl)
      try simp only [Act.put]
      refine wpAnyH_take (i:=12) (oi:=_) (v:=?vb12) rfl (by kernel_rfl) (by kernel_rfl) (by kernel_rfl) (fun _ _ _ h=>h) (Or.inl ⟨by rfl,?yb12⟩) (by assumption) ?rb12
      case yb12=>(intro w' hSw; (try dsimp only at hSw); go_simp; try with_reducible rfl)
      try simp only [Act.put]
      refine wpAnyH_take (i:=13) (oi:=_) (v:=?vb13) rfl (by kernel_rfl) (by kernel_rfl) (by kernel_rfl) (fun _ _ _ h=>h) (Or.inl ⟨by rfl,?yb13⟩) (by assumption) ?rb13
      case yb13=>(intro w' hSw; (try dsimp only at hSw); go_simp; try with_reducible rfl)
      try simp only [Act.put]
      refine wpAnyH_take (i:=14) (oi:=_) (v:=?vb14) rfl (by kernel_rfl) (by kernel_rfl) (by kernel_rfl) (fun _ _ _ h=>h) (Or.inl ⟨by rfl,?yb14⟩) (by assumption) ?rb14
      case yb14=>(intro w' hSw; (try dsimp only at hSw); go_simp; try with_reducible rfl)
      try simp only [Act.put]
      refine wpAnyH_take (i:=15) (oi:=_) (v:=?vb15) rfl (by kernel_rfl) (by kernel_rfl) (by kernel_rfl) (fun _ _ _ h=>h) (Or.inl ⟨by rfl,?yb15⟩) (by assumption) ?rb15
      case yb15=>(intro w' hSw; (try dsimp only at hSw); go_simp; try with_reducible rfl)
      try simp only [Act.put]
      refine wpAnyH_ready (rs:=[10]) (by kernel_rfl) (by simp) ?_
      refine AllReadyH.cons (o:=_) rfl (fun K hK=>?_) AllReadyH.nil
      go_simp
      refine hK.out _ _ ?_ (fun hHeld=>?_)
      · exact hHeld
      clear hK K
      try simp only [Act.put]
      refine wpAnyH_ready (rs:=[16]) (by kernel_rfl) (by simp) ?_
      refine AllReadyH.cons (o:=_) rfl (fun K hK=>?_) AllReadyH.nil
      go_simp
      refine (put_val B (.slice kb d.kids.length kd) d.kids ⟨nm,i⟩ _ HKB.out.1 (by simpa using hBz) (OwnEnts.of_heap (by rfl) HE.out)).mono ?_
      rintro e w2 ⟨v',rfl,ho2,hg2,ha2⟩
      obtain ⟨va,vc,rfl⟩:=ho2.shape
      have K2:=kidsFr (W:=wc) (W':=w2) hF1 HT1.out hb1 hBz (hOJ.out 1) HVK.out.1 ⟨hg2.os,hg2.tape,hg2.output,hg2.size,hg2.block⟩ (.inr rfl) (fun g hg=>.inl (HVK.out.2 g hg).2) ho2 ha2
      have p0:=K2.fr.t
      have p1:=K2.fr.o1
      have p2:=K2.fr.o2
      have p5:=K2.fr.o5
      have f5:=K2.cell
      have g5:=K2.frozen
      have hbl2:=K2.lt
      have hzz2:=K2.size
      have KH : Hid (KidsFr w.heap.size w wc w2 B b c n j ⟨k,j,nm,l,nm2,i,tx⟩ (os.set i ⟨1,1,⟨#[]⟩,[]⟩) vs1 (.slice kb d.kids.length kd) (.slice va (putL ⟨nm,i⟩ d.kids).length vc) (putL ⟨nm,i⟩ d.kids)):=K2
      clear K2 ho2 hg2 ha2
      go_wp2_with fail
      refine hK.out _ _ ?_ (fun hHeld=>?_)
      · exact ⟨p0,p1,p2,p5⟩
      clear hK K
      try simp only [Act.put]
      refine wpAnyH_take (i:=17) (oi:=_) (v:=?vb17) rfl (by kernel_rfl) (by kernel_rfl) (by kernel_rfl) (fun _ _ _ h=>h) (Or.inl ⟨by rfl,?yb17⟩) (by assumption) ?rb17
      case yb17=>(intro w' hSw; (try dsimp only at hSw); go_simp; try with_reducible rfl)
      try simp only [Act.put]
      refine wpAnyH_take (i:=18) (oi:=_) (v:=?vb18) rfl (by kernel_rfl) (by kernel_rfl) (by kernel_rfl) (fun _ _ _ h=>h) (Or.inl ⟨by rfl,?yb18⟩) (by assumption) ?rb18
      case yb18=>(intro w' hSw; (try dsimp only at hSw); go_simp; try with_reducible rfl)
      try simp only [Act.put]
      refine wpAnyH_ready (rs:=[19]) (by kernel_rfl) (by simp) ?_
      refine AllReadyH.cons (o:=_) rfl (fun K hK=>?_) AllReadyH.nil
      go_simp
      refine hK.out _ _ ?_ (fun hHeld=>?_)
      · exact ⟨by rw [World.cell?_setCell_other _ _ _ _ (by simp <;> omega)]; exact p0,by rw [World.cell?_setCell_other _ _ _ _ (by simp <;> omega)]; exact p1,by rw [World.cell?_setCell_other _ _ _ _ (by simp <;> omega)]; exact p2,by rw [World.cell?_setCell_other _ _ _ _ (by simp <;> omega)]; exact p5⟩
      clear hK K
      try simp only [Act.put]
      refine wpAnyH_done (by kernel_rfl) ?_ _
      go_wp2_with fail
      go_meet
      exact ⟨⟨_,KH.out.done d (hOJ.out 1) (fun e he=>by rcases mem_putL he with rfl | h; exact HNM.out; exact HY7.out e h)⟩,KH.out.fr.set hbA _ _,KH.out.below.setCell (by simpa using hBb) _,(hk1.kids (by omega) KH.out HVN.out).set _ _⟩
    obtain ⟨hT2,hF2,hb2,hk2⟩:=hcut
    clear e5 z5 HE q0 q1 q2 q5 hz1 hbl hBz HVK HT1 hF1 hb1 hk1 HVN
    obtain ⟨vs2,hT2'⟩:=hT2.out
    have hlen : Hid (n = ((os.set i ⟨1,1,⟨#[]⟩,[]⟩).set j { d with kids:=putL ⟨nm,i⟩ d.kids }).length):=by show _ = _; simpa using HN.out
    have hj2 : Hid (((os.set i ⟨1,1,⟨#[]⟩,[]⟩).set j { d with kids:=putL ⟨nm,i⟩ d.kids })[j]? = some { d with kids:=putL ⟨nm,i⟩ d.kids }):=List.getElem?_set_self (by have:=HN.out; simp; omega)
    have q0:=hF2.t
    have q1:=hF2.o1
    have hz1:=hF2.size
    go_wp2_with fail
    refine (turn_any B b c j { d with kids:=putL ⟨nm,i⟩ d.kids } _ vs2 n _ _ rfl hlen.out hj2.out (by have:=HKB.out; simp; omega) (by have:=HKB.out; simp; omega) hT2').mono ?_
    rintro e w3 ⟨rfl,hT3,hg3⟩
    rw [← hlen.out]
    have hF3:=hF2.grown hg3 (fun g hg=>.inl (by simp at hg; omega))
    have hb3 : Below B w w3:=below_grown hb2 hg3 (fun g hg=>by simp at hg; omega) (by omega)
    have hk3:=hk2.turn (by omega) hg3
    obtain ⟨⟨rv3,hr3⟩,hr4⟩:=hF3.res
    have hz3:=hF3.size
    have HT3 : Hid (OwnT w3 B b c ((os.set i ⟨1,1,⟨#[]⟩,[]⟩).set j { d with kids:=putL ⟨nm,i⟩ d.kids,ver:=d.ver + 1 }) vs2):=by
      show OwnT _ _ _ _ _ _
      rw [List.set_set] at hT3
      exact hT3
    clear hT3 hg3 hT2' hT2 hF2 hb2 q0 q1
    go_wp2_with fail
    refine bodyPost_ret (v:=.tuple #[.agg #[.slice (some ⟨b,0,none⟩) n c],.int .i64 0]) (by rw [results,Tryz.results174]; simp [go_sem,World.cell?_setCell_same _ _ _ hr3]) rfl ?_
    rw [HV4.out]
    exact ⟨vs2,by simp [HN.out],HT3.out.setBox hF3.r 0 _,hb3.setCell (by show B ≤ w.heap.size + 1 + 1; omega) _,hk3.setNew (by omega) _ _⟩
end
section
open Go.RowKit
def actGone (os : List LObj) (o : LOp) : List LObj × Int :=
  match os[o.dir.toNat]?,os[o.id.toNat]? with
  | some d,some x =>
    if d.kind ≠ 2 then (os,1)
    else if findV d.kids o.name ≠ o.id then (os,2)
    else if 0 < x.kids.length then (os,4)
    else ((os.set o.dir.toNat { d with kids:=outL o.name d.kids,ver:=d.ver + 1 }).set o.id.toNat ⟨0,x.ver + 1,⟨#[]⟩,[]⟩,0)
  | _,_=>(os,8)
theorem findV_nil (name : ByteArray) : findV [] name = -1:=rfl
set_option maxHeartbeats 2000000 in
set_option maxRecDepth 20000 in
theorem gone_any (B b c n i j : Nat) (o : LOp) (os : List LObj) (vs : Nat → Value) (w : World) (hid : o.id = i) (hdir : o.dir = j) (hn : n = os.length) (hi : i < n) (hj : j < n) (hB : B ≤ w.heap.size)
    (hv : ∀ x ∈ os,0 ≤ x.ver ∧ x.ver ≤ 1000000 ∧ x.kids.length ≤ 1000000) (hnm : o.name.size ≤ maxLen) (H : OwnT w B b c os vs) :
    Calls Tryz.prog 175 #[.agg #[.slice (some ⟨b,0,none⟩) n c],.agg o.val] w fun e w'=>DoEnd w B b c n vs (actGone os o) e w':=by
  obtain ⟨d,hd⟩ : ∃ d,os[j]? = some d:=⟨os[j]'(by omega),by simp⟩
  obtain ⟨x,hx⟩ : ∃ x,os[i]? = some x:=⟨os[i]'(by omega),by simp⟩
  obtain ⟨k,dd,nm,l,nm2,ii,tx⟩:=o
  simp only [LOp.val] at *
  subst hid hdir
  have HV : Hid (actGone os ⟨k,j,nm,l,nm2,i,tx⟩ = if d.kind ≠ 2 then (os,1)
    else if findV d.kids nm ≠ i then (os,2)
    else if 0 < x.kids.length then (os,4)
    else ((os.set j { d with kids:=outL nm d.kids,ver:=d.ver + 1 }).set i ⟨0,x.ver + 1,⟨#[]⟩,[]⟩,0)):=by
    show _ = _
    simp only [actGone,Int.toNat_natCast,hd,hx]
  have HOB:=H.to_objs
  rw [← hn] at HOB
  have hbA : b < w.heap.size:=H.lt
  have hBb : B ≤ b:=H.lo
  have HVJ : Hid (∀ g,(vs j).ownBlock = some g → B ≤ g ∧ g < w.heap.size):=fun g hg=>(H.at_ j d hd).2.2.2.2.2.1.lt g hg
  have HNM : Hid (nm.size ≤ maxLen):=hnm
  have HN : Hid (n = os.length):=hn
  have HD : Hid (os[j]? = some d):=hd
  have HX : Hid (os[i]? = some x):=hx
  have hj' : (j : Int) < (n : Int):=by omega
  have hi' : (i : Int) < (n : Int):=by omega
  have hv1:=hv d (List.mem_of_getElem? hd)
  have HKB : Hid (d.kids.length ≤ 1000000 ∧ 0 ≤ d.ver ∧ d.ver ≤ 1000000):=⟨hv1.2.2,hv1.1,hv1.2.1⟩
  have hv2:=hv x (List.mem_of_getElem? hx)
  have HKX : Hid (0 ≤ x.ver ∧ x.ver ≤ 1000000):=⟨hv2.1,hv2.2.1⟩
  have HF0:=Fr.start w b c n ⟨k,j,nm,l,nm2,i,tx⟩ (.slice none 0 0)
  have hA : ∀ o1 o2 o3,Below w.heap.size w (((w.alloc o1).alloc o2).alloc o3):=fun o1 o2 o3=>(((Below.refl _ _).alloc (Nat.le_refl _) _).alloc (by simp) _).alloc (by simp; omega) _
  clear hv hn hd hx hv1 hv2
  go_enter Tryz.func175,Tryz.ntmps175
  go_wp2_with fail
  refine (isDir_b _ n c j d os B w.heap.size _ _ rfl HD.out (by simp; omega) (HOB.below (hA _ _ _) (Nat.le_refl _))).mono ?_
  rintro e W ⟨rfl,hb1⟩
  have HF:=HF0.next hb1
  have hbW : Below w.heap.size w W:=(hA _ _ _).trans (hb1.mono (by simp; omega))
  have HT : Hid (OwnT W B b c os vs):=H.below hbW
  clear HF0 hb1 hA HOB H
  obtain ⟨⟨rv,hr0⟩,hr1⟩:=HF.res
  have q0:=HF.t
  have hzW:=HF.size
  by_cases hk2 : d.kind = 2
  case neg =>
    have t : (d.kind == 2) = false:=by simpa using hk2
    have HV1 : Hid (actGone os ⟨k,j,nm,l,nm2,i,tx⟩ = (os,1)):=by show _ = _; rw [HV.out,if_pos hk2]
    clear hk2 HV
    go_wp2_with fail
    exact bodyPost_ret (v:=.tuple #[.agg #[.slice (some ⟨b,0,none⟩) n c],.int .i64 1]) (by rw [results,Tryz.results175]; simp [go_sem,World.cell?_setCell_same _ _ _ hr0]) rfl (do_same HV1.out HF rfl hB HT.out hbW HN.out _)
  have t : (d.kind == 2) = true:=by simpa using hk2
  have HV2 : Hid (actGone os ⟨k,j,nm,l,nm2,i,tx⟩ = if findV d.kids nm ≠ i then (os,2)
    else if 0 < x.kids.length then (os,4)
    else ((os.set j { d with kids:=outL nm d.kids,ver:=d.ver + 1 }).set i ⟨0,x.ver + 1,⟨#[]⟩,[]⟩,0)):=by show _ = _; rw [HV.out,if_neg (by simpa using hk2)]
  have HK2 : Hid (d.kind = 2):=hk2
  clear hk2 HV
  obtain ⟨d1,d2,d3,d4,d5,d6,d7⟩:=HT.out.at_ j d HD.out
  obtain ⟨ka,kc,hvj,hents⟩:=d6.at_ d7
  have e5 : W.cell? ⟨b,j * 4 + 3,none⟩ = some (.slice ka d.kids.length kc):=by rw [d5,hvj]
  have hbl:=HT.out.lt
  have q1:=HF.o1
  have q2:=HF.o2
  have q5:=HF.o5
  have HENT : ∀ q,EntsAt (W.drewN q) B W.heap.size ka d.kids.length d.kids:=fun q=>hents.below (Below.drewN _ _) (Nat.le_refl _)
  clear d1 d2 d3 d4 d5 d6 d7
  go_wp2_with fail
  go_quiet ((go_at_call 208; exact Calls.quiet_of_same (l1Find_any _ _ _ d.kids B W.heap.size _ _ (HENT _))))
  obtain ⟨V,hV⟩ : ∃ V,Hid (V = W.drewN nq):=⟨_,rfl⟩
  rw [← hV.out]
  have hbV : Below W.heap.size W V:=by rw [hV.out]; exact Below.drewN _ _
  have HFV:=HF.next hbV
  have HTV : Hid (OwnT V B b c os vs):=HT.out.below hbV
  have hbVw : Below w.heap.size w V:=hbW.trans (hbV.mono hbW.size)
  clear hV hbV HENT hents e5 hr0 hr1 q0 q1 q2 q5 hbl HT hbW hzW HF
  obtain ⟨⟨rv',hr0⟩,hr1⟩:=HFV.res
  have q0:=HFV.t
  have hzW:=HFV.size
  have hbl:=HTV.out.lt
  by_cases hf : findV d.kids nm = i
  case neg =>
    have tf : (findV d.kids nm != (i : Int)) = true:=by simpa using hf
    have HV1 : Hid (actGone os ⟨k,j,nm,l,nm2,i,tx⟩ = (os,2)):=by show _ = _; rw [HV2.out,if_pos hf]
    clear HV2 hf
    go_wp2_with fail
    exact bodyPost_ret (v:=.tuple #[.agg #[.slice (some ⟨b,0,none⟩) n c],.int .i64 2]) (by rw [results,Tryz.results175]; simp [go_sem,World.cell?_setCell_same _ _ _ hr0]) rfl (do_same HV1.out HFV rfl hB HTV.out hbVw HN.out _)
  have tf : (findV d.kids nm != (i : Int)) = false:=by simpa using hf
  have HV3 : Hid (actGone os ⟨k,j,nm,l,nm2,i,tx⟩ = if 0 < x.kids.length then (os,4)
    else ((os.set j { d with kids:=outL nm d.kids,ver:=d.ver + 1 }).set i ⟨0,x.ver + 1,⟨#[]⟩,[]⟩,0)):=by show _ = _; rw [HV2.out,if_neg (by simpa using hf)]
  have HFI : Hid (findV d.kids nm = i):=hf
  clear HV2 hf
  obtain ⟨x1,x2,x3,x4,x5,x6,x7⟩:=HTV.out.at_ i x HX.out
  obtain ⟨kx,cx,hvx,_⟩:=x6.at_ x7
  rw [hvx] at x5
  have q5:=HFV.o5
  by_cases hxk : 0 < x.kids.length
  · have HV1 : Hid (actGone os ⟨k,j,nm,l,nm2,i,tx⟩ = (os,4)):=by show _ = _; rw [HV3.out,if_pos hxk]
    have hxk' : (0 : Int) < (x.kids.length : Int):=by omega
    clear HV3 hxk x1 x2 x3 x4 x6 x7 hvx
    go_wp2_with fail
    exact bodyPost_ret (v:=.tuple #[.agg #[.slice (some ⟨b,0,none⟩) n c],.int .i64 4]) (by rw [results,Tryz.results175]; simp [go_sem,World.cell?_setCell_same _ _ _ hr0]) rfl (do_same HV1.out HFV rfl hB HTV.out hbVw HN.out _)
  have hx0 : x.kids.length = 0:=by omega
  have hij : i ≠ j:=fun e=>by
    subst e
    have h1:=HX.out
    rw [HD.out] at h1
    cases h1
    have h2:=HFI.out
    rw [List.eq_nil_of_length_eq_zero hx0,findV_nil] at h2
    omega
  have HV4 : Hid (actGone os ⟨k,j,nm,l,nm2,i,tx⟩ = ((os.set j { d with kids:=outL nm d.kids,ver:=d.ver + 1 }).set i ⟨0,x.ver + 1,⟨#[]⟩,[]⟩,0)):=by
    show _ = _; rw [HV3.out,if_neg hxk]
  obtain ⟨y1,y2,y3,y4,y5,y6,y7⟩:=HTV.out.at_ j d HD.out
  obtain ⟨kb,kd,hvk,hents⟩:=y6.at_ y7
  have e5 : V.cell? ⟨b,j * 4 + 3,none⟩ = some (.slice kb d.kids.length kd):=by rw [y5,hvk]
  have HY7 : Hid (∀ e ∈ outL nm d.kids,e.name.size ≤ maxLen):=fun e he=>y7 e (List.mem_filter.1 he).1
  have q1:=HFV.o1
  have q2:=HFV.o2
  have hBz : B ≤ V.heap.size:=by omega
  clear HV3 x1 x2 x3 x4 x6 x7 hvx y1 y2 y3 y4 y5 y6 y7 hvj hnm
  rw [hx0] at x5
  clear hx0 hxk
  go_upto_region 7 with fail
  clear x5 tf
  go_cut [13] (fun _ wy=>Hid (∃ vs2,OwnT wy B b c (os.set j { d with kids:=outL nm d.kids }) vs2) ∧ Fr w.heap.size wy b c n ⟨k,j,nm,l,nm2,i,tx⟩ ∧ Below B w wy ∧ Kt w wy b n vs)
  case first =>
    refine wp_region_held_drew (S:=(fun w'=>w'.cell? ⟨w.heap.size,0,none⟩ = some (.slice (some ⟨b,0,none⟩) n c) ∧ w'.cell? ⟨w.heap.size + 1,1,none⟩ = some (.int .i64 j) ∧ w'.cell? ⟨w.heap.size + 1,2,none⟩ = some (.string nm) ∧ w'.cell? ⟨w.heap.size + 1,5,none⟩ = some (.int .i64 i))) (by kernel_rfl) ?_ (fun hHeld=>?_)
    · exact ⟨q0,q1,q2,q5⟩
    refine wpAnyH_take (i:=0) (oi:=_) (v:=?v0) rfl (by kernel_rfl) (by kernel_rfl) (by kernel_rfl) (fun _ _ _ h=>h) (Or.inl ⟨by rfl,?y0⟩) (by assumption) ?r0
    case y0=>(intro w' hSw; (try dsimp only at hSw); go_simp; try with_reducible rfl)
    try simp only [Act.put]
    refine wpAnyH_take (i:=1) (oi:=_) (v:=?v1) rfl (by kernel_rfl) (by kernel_rfl) (by kernel_rfl) (fun _ _ _ h=>h) (Or.inl ⟨by rfl,?y1⟩) (by assumption) ?r1
    case y1=>(intro w' hSw; (try dsimp only at hSw); go_simp; try with_reducible rfl)
    try simp only [Act.put]
    refine wpAnyH_take (i:=2) (oi:=_) (v:=?v2) rfl (by kernel_rfl) (by kernel_rfl) (by kernel_rfl) (fun _ _ _ h=>h) (Or.inl ⟨by rfl,?y2⟩) (by assumption) ?r2
    case y2=>(intro w' hSw; (try dsimp only at hSw); go_simp; try with_reducible rfl)
    try simp only [Act.put]
    refine wpAnyH_take (i:=3) (oi:=_) (v:=?v3) rfl (by kernel_rfl) (by kernel_rfl) (by kernel_rfl) (fun _ _ _ h=>h) (Or.inl ⟨by rfl,?y3⟩) (by assumption) ?r3
    case y3=>(intro w' hSw; (try dsimp only at hSw); go_simp; try with_reducible rfl)
    try simp only [Act.put]
    refine wpAnyH_take (i:=4) (oi:=_) (v:=?v4) rfl (by kernel_rfl) (by kernel_rfl) (by kernel_rfl) (fun _ _ _ h=>h) (Or.inl ⟨by rfl,?y4⟩) (by assumption) ?r4
    case y4=>(intro w' hSw; (try dsimp only at hSw); go_simp; try with_reducible rfl)
    try simp only [Act.put]
    refine wpAnyH_take (i:=5) (oi:=_) (v:=?v5) rfl (by kernel_rfl) (by kernel_rfl) (by kernel_rfl) (fun _ _ _ h=>h) (Or.inl ⟨by rfl,?y5⟩) (by assumption) ?r5
    case y5=>(intro w' hSw; (try dsimp only at hSw); go_simp; try with_reducible rfl)
    try simp only [Act.put]
    refine wpAnyH_take (i:=6) (oi:=_) (v:=?v6) rfl (by kernel_rfl) (by kernel_rfl) (by kernel_rfl) (fun _ _ _ h=>h) (Or.inl ⟨by rfl,?y6⟩) (by assumption) ?r6
    case y6=>(intro w' hSw; (try dsimp only at hSw); go_simp; try with_reducible rfl)
    try simp only [Act.put]
    refine wpAnyH_take (i:=7) (oi:=_) (v:=?v7) rfl (by kernel_rfl) (by kernel_rfl) (by kernel_rfl) (fun _ _ _ h=>h) (Or.inl ⟨by rfl,?y7⟩) (by assumption) ?r7
    case y7=>(intro w' hSw; (try dsimp only at hSw); go_simp; try with_reducible rfl)
    try simp only [Act.put]
    refine wpAnyH_take (i:=8) (oi:=_) (v:=?v8) rfl (by kernel_rfl) (by kernel_rfl) (by kernel_rfl) (fun _ _ _ h=>h) (Or.inl ⟨by rfl,?y8⟩) (by assumption) ?r8
    case y8=>(intro w' hSw; (try dsimp only at hSw); go_simp; try with_reducible rfl)
    try simp only [Act.put]
    refine wpAnyH_take (i:=9) (oi:=_) (v:=?v9) rfl (by kernel_rfl) (by kernel_rfl) (by kernel_rfl) (fun _ _ _ h=>h) (Or.inl ⟨by rfl,?y9⟩) (by assumption) ?r9
    case y9=>(intro w' hSw; (try dsimp only at hSw); go_simp; try with_reducible rfl)
    try simp only [Act.put]
    refine wpAnyH_take (i:=11) (oi:=_) (v:=?v11) rfl (by kernel_rfl) (by kernel_rfl) (by kernel_rfl) (fun _ _ _ h=>h) (Or.inl ⟨by rfl,?y11⟩) (by assumption) ?r11
    case y11=>(intro w' hSw; (try dsimp only at hSw); go_simp; try with_reducible rfl)
    try simp only [Act.put]
    refine wpAnyH_take (i:=12) (oi:=_) (v:=?v12) rfl (by kernel_rfl) (by kernel_rfl) (by kernel_rfl) (fun _ _ _ h=>h) (Or.inl ⟨by rfl,?y12⟩) (by assumption) ?r12
    case y12=>(intro w' hSw; (try dsimp only at hSw); go_simp; try with_reducible rfl)
    try simp only [Act.put]
    refine wpAnyH_ready (rs:=[10]) (by kernel_rfl) (by simp) ?_
    refine AllReadyH.cons (o:=_) rfl (fun K hK=>?_) AllReadyH.nil
    go_simp
    refine hK.out _ _ ?_ (fun hHeld=>?_)
    · exact hHeld
    clear hK K
    try simp only [Act.put]
    refine wpAnyH_ready (rs:=[13]) (by kernel_rfl) (by simp) ?_
    refine AllReadyH.cons (o:=_) rfl (fun K hK=>?_) AllReadyH.nil
    go_simp
    refine (out_any _ _ _ d.kids B V.heap.size _ _ (by have:=HKB.out; omega) (by simp) (hents.below (Below.refl _ _).drew (Nat.le_refl _))).mono ?_
    rintro e w2 ⟨⟨v',rfl,ho2⟩,hbo⟩
    have ho3 : OwnEnts w2 B v' (outL nm d.kids):=ho2.out.mono (by simpa using hBz)
    obtain ⟨va,vc,rfl⟩:=ho3.shape
    have K2:=kidsFr (W:=V) (W':=w2) (row:=none) HFV HTV.out (hbVw.mono hB) hBz HD.out hvk ⟨hbo.os,hbo.tape,hbo.output,hbo.size,fun k hk _=>hbo.block k hk⟩ (.inl rfl) (fun g hg=>.inl (HVJ.out g (by rw [hvk]; exact hg)).2) ho3 (fun g hg=>.inr (ho2.out.lt g hg).1)
    have p0:=K2.fr.t
    have p1:=K2.fr.o1
    have p2:=K2.fr.o2
    have p5:=K2.fr.o5
    have f5:=K2.cell
    have g5:=K2.frozen
    have hbl2:=K2.lt
    have hzz2:=K2.size
    have KH : Hid (KidsFr w.heap.size w V w2 B b c n j ⟨k,j,nm,l,nm2,i,tx⟩ os vs (.slice kb d.kids.length kd) (.slice va (outL nm d.kids).length vc) (outL nm d.kids)):=K2
    clear K2 ho2 hbo ho3
    go_wp2_with fail
    refine hK.out _ _ ?_ (fun hHeld=>?_)
    · exact ⟨p0,p1,p2,p5⟩
    clear hK K
    try simp only [Act.put]
    refine wpAnyH_take (i:=14) (oi:=_) (v:=?v14) rfl (by kernel_rfl) (by kernel_rfl) (by kernel_rfl) (fun _ _ _ h=>h) (Or.inl ⟨by rfl,?y14⟩) (by assumption) ?r14
    case y14=>(intro w' hSw; (try dsimp only at hSw); go_simp; try with_reducible rfl)
    try simp only [Act.put]
    refine wpAnyH_take (i:=15) (oi:=_) (v:=?v15) rfl (by kernel_rfl) (by kernel_rfl) (by kernel_rfl) (fun _ _ _ h=>h) (Or.inl ⟨by rfl,?y15⟩) (by assumption) ?r15
    case y15=>(intro w' hSw; (try dsimp only at hSw); go_simp; try with_reducible rfl)
    try simp only [Act.put]
    refine wpAnyH_ready (rs:=[16]) (by kernel_rfl) (by simp) ?_
    refine AllReadyH.cons (o:=_) rfl (fun K hK=>?_) AllReadyH.nil
    go_simp
    refine hK.out _ _ ?_ (fun hHeld=>?_)
    · exact ⟨by rw [World.cell?_setCell_other _ _ _ _ (by simp <;> omega)]; exact p0,by rw [World.cell?_setCell_other _ _ _ _ (by simp <;> omega)]; exact p1,by rw [World.cell?_setCell_other _ _ _ _ (by simp <;> omega)]; exact p2,by rw [World.cell?_setCell_other _ _ _ _ (by simp <;> omega)]; exact p5⟩
    clear hK K
    try simp only [Act.put]
    refine wpAnyH_done (by kernel_rfl) ?_ _
    go_wp2_with fail
    go_meet
    exact ⟨⟨_,KH.out.done d HD.out HY7.out⟩,KH.out.fr.set hbA _ _,KH.out.below.setCell (by simpa using hBb) _,((Kt.of_below hbVw b n vs).kids hbVw.size KH.out (fun g hg=>.inl ⟨j,hj,by rw [hvk]; exact hg⟩)).set _ _⟩
  obtain ⟨hT1,hF1,hb1,hk1⟩:=hcut
  clear e5 hents hvk q0 q1 q2 q5 hzW hbl hBz HFV HTV hbVw hr0 hr1
  obtain ⟨vs1,hT1'⟩:=hT1.out
  have HT1 : Hid (OwnT wc B b c (os.set j { d with kids:=outL nm d.kids }) vs1):=hT1'
  have hix : Hid ((os.set j { d with kids:=outL nm d.kids })[i]? = some x):=by show _ = _; rw [List.getElem?_set_ne (Ne.symm hij)]; exact HX.out
  obtain ⟨x1,x2,x3,x4,x5,x6,x7⟩:=hT1'.at_ i x hix.out
  have z0:=hT1'.frozen (i * 4)
  have z1:=hT1'.frozen (i * 4 + 1)
  have z2:=hT1'.frozen (i * 4 + 2)
  have z3:=hT1'.frozen (i * 4 + 3)
  have q0:=hF1.t
  have q5:=hF1.o5
  have hz1:=hF1.size
  have hbl:=hT1'.lt
  clear x1 x6 x7 hT1 hT1'
  go_upto_region 8 with fail
  go_cut [] (fun wy=>Hid (∃ vs2,OwnT wy B b c ((os.set j { d with kids:=outL nm d.kids }).set i ⟨0,x.ver,⟨#[]⟩,[]⟩) vs2) ∧ Fr w.heap.size wy b c n ⟨k,j,nm,l,nm2,i,tx⟩ ∧ Below B w wy ∧ Kt w wy b n vs)
  case first =>
    go_region
    all_goals
      go_wp2_with fail
      go_meet
      exact ⟨⟨_,OwnT.of_heap (by rfl) (HT1.out.put4 hix.out 0 x.ver)⟩,(hF1.put4 hbA).next (Below.refl _ _).drew,(put4_below i 0 x.ver hb1 hBb).drew,(hk1.put4 (i:=i) (k:=0) (v:=x.ver)).step fun _ _ _ _=>rfl⟩
  obtain ⟨hT2,hF2,hb2,hk2⟩:=hcut
  clear x2 x3 x4 x5 z0 z1 z2 z3 q0 q5 hz1 hbl hF1 hb1 HT1 hk1
  obtain ⟨vs2,hT2'⟩:=hT2.out
  have HT2 : Hid (OwnT wc B b c ((os.set j { d with kids:=outL nm d.kids }).set i ⟨0,x.ver,⟨#[]⟩,[]⟩) vs2):=hT2'
  have hlen : Hid (n = ((os.set j { d with kids:=outL nm d.kids }).set i ⟨0,x.ver,⟨#[]⟩,[]⟩).length):=by show _ = _; simpa using HN.out
  have hi2 : Hid (((os.set j { d with kids:=outL nm d.kids }).set i ⟨0,x.ver,⟨#[]⟩,[]⟩)[i]? = some ⟨0,x.ver,⟨#[]⟩,[]⟩):=List.getElem?_set_self (by have:=HN.out; simp; omega)
  have hlen3 : Hid (n = ((os.set j { d with kids:=outL nm d.kids }).set i ⟨0,x.ver + 1,⟨#[]⟩,[]⟩).length):=by show _ = _; simpa using HN.out
  have hj3 : Hid (((os.set j { d with kids:=outL nm d.kids }).set i ⟨0,x.ver + 1,⟨#[]⟩,[]⟩)[j]? = some { d with kids:=outL nm d.kids }):=by
    show _ = _
    rw [List.getElem?_set_ne hij]
    exact List.getElem?_set_self (by have:=HN.out; omega)
  have q0:=hF2.t
  have q1:=hF2.o1
  have q5:=hF2.o5
  have hz2:=hF2.size
  clear hT2 hT2'
  go_upto_region 9 with fail
  refine wp_region_held_drew (S:=(fun w'=>w'.cell? ⟨w.heap.size,0,none⟩ = some (.slice (some ⟨b,0,none⟩) n c) ∧ w'.cell? ⟨w.heap.size + 1,1,none⟩ = some (.int .i64 j) ∧ w'.cell? ⟨w.heap.size + 1,5,none⟩ = some (.int .i64 i))) (by kernel_rfl) ?_ (fun hHeld=>?_)
  · exact ⟨q0,q1,q5⟩
  refine wpAnyH_take (i:=0) (oi:=_) (v:=?vc0) rfl (by kernel_rfl) (by kernel_rfl) (by kernel_rfl) (fun _ _ _ h=>h) (Or.inl ⟨by rfl,?yc0⟩) (by assumption) ?rc0
  case yc0=>(intro w' hSw; (try dsimp only at hSw); go_simp; try with_reducible rfl)
  try simp only [Act.put]
  refine wpAnyH_take (i:=1) (oi:=_) (v:=?vc1) rfl (by kernel_rfl) (by kernel_rfl) (by kernel_rfl) (fun _ _ _ h=>h) (Or.inl ⟨by rfl,?yc1⟩) (by assumption) ?rc1
  case yc1=>(intro w' hSw; (try dsimp only at hSw); go_simp; try with_reducible rfl)
  try simp only [Act.put]
  refine wpAnyH_take (i:=2) (oi:=_) (v:=?vc2) rfl (by kernel_rfl) (by kernel_rfl) (by kernel_rfl) (fun _ _ _ h=>h) (Or.inl ⟨by rfl,?yc2⟩) (by assumption) ?rc2
  case yc2=>(intro w' hSw; (try dsimp only at hSw); go_simp; try with_reducible rfl)
  try simp only [Act.put]
  refine wpAnyH_take (i:=4) (oi:=_) (v:=?vc4) rfl (by kernel_rfl) (by kernel_rfl) (by kernel_rfl) (fun _ _ _ h=>h) (Or.inl ⟨by rfl,?yc4⟩) (by assumption) ?rc4
  case yc4=>(intro w' hSw; (try dsimp only at hSw); go_simp; try with_reducible rfl)
  try simp only [Act.put]
  refine wpAnyH_take (i:=5) (oi:=_) (v:=?vc5) rfl (by kernel_rfl) (by kernel_rfl) (by kernel_rfl) (fun _ _ _ h=>h) (Or.inl ⟨by rfl,?yc5⟩) (by assumption) ?rc5
  case yc5=>(intro w' hSw; (try dsimp only at hSw); go_simp; try with_reducible rfl)
  try simp only [Act.put]
  refine wpAnyH_ready (rs:=[3]) (by kernel_rfl) (by simp) ?_
  refine AllReadyH.cons (o:=_) rfl (fun K hK=>?_) AllReadyH.nil
  go_simp
  refine (turn_any B b c i ⟨0,x.ver,⟨#[]⟩,[]⟩ _ vs2 n _ _ rfl hlen.out hi2.out (by have:=HKX.out; simp; omega) (by have:=HKX.out; simp; omega) (OwnT.of_heap (by rfl) HT2.out)).mono ?_
  rintro e w3 ⟨rfl,hT3,hg3⟩
  rw [← hlen.out]
  have hF3:=hF2.grown (W':=w3) (row:=some b) ⟨hg3.os,hg3.tape,hg3.output,hg3.size,hg3.block⟩ (fun g hg=>.inl (by simp at hg; omega))
  have hb3 : Below B w w3:=below_grown hb2 (row:=some b) ⟨hg3.os,hg3.tape,hg3.output,hg3.size,hg3.block⟩ (fun g hg=>by simp at hg; omega) (by omega)
  have HT3 : Hid (OwnT w3 B b c ((os.set j { d with kids:=outL nm d.kids }).set i ⟨0,x.ver + 1,⟨#[]⟩,[]⟩) vs2):=(by show OwnT _ _ _ _ _ _; rw [List.set_set] at hT3; exact hT3)
  have hk3 : Kt w w3 b n vs:=hk2.turn (by omega) ⟨hg3.os,hg3.tape,hg3.output,hg3.size,hg3.block⟩
  have hz3:=hF3.size
  have p0:=hF3.t
  have p1:=hF3.o1
  have p5:=hF3.o5
  clear hT3 hg3
  go_wp2_with fail
  refine hK.out _ _ ?_ (fun hHeld=>?_)
  · exact ⟨p0,p1,p5⟩
  clear hK K
  try simp only [Act.put]
  refine wpAnyH_ready (rs:=[6]) (by kernel_rfl) (by simp) ?_
  refine AllReadyH.cons (o:=_) rfl (fun K hK=>?_) AllReadyH.nil
  go_simp
  refine (turn_any B b c j { d with kids:=outL nm d.kids } _ vs2 n _ _ rfl hlen3.out hj3.out (by have:=HKB.out; simp; omega) (by have:=HKB.out; simp; omega) HT3.out).mono ?_
  rintro e w4 ⟨rfl,hT4,hg4⟩
  rw [← hlen3.out]
  have hF4:=hF3.grown hg4 (fun g hg=>.inl (by simp at hg; omega))
  have hb4 : Below B w w4:=below_grown hb3 hg4 (fun g hg=>by simp at hg; omega) (by omega)
  have HT4 : Hid (OwnT w4 B b c ((os.set j { d with kids:=outL nm d.kids,ver:=d.ver + 1 }).set i ⟨0,x.ver + 1,⟨#[]⟩,[]⟩) vs2):=(by show OwnT _ _ _ _ _ _; rw [List.set_comm _ _ (Ne.symm hij),List.set_set,List.set_comm _ _ hij] at hT4; exact hT4)
  have hk4 : Kt w w4 b n vs:=hk3.turn (by omega) hg4
  obtain ⟨⟨rv4,hr4⟩,hr5⟩:=hF4.res
  have hz4:=hF4.size
  have s0:=hF4.t
  have s1:=hF4.o1
  have s5:=hF4.o5
  clear hT4 hg4
  go_wp2_with fail
  refine hK.out _ _ ?_ (fun hHeld=>?_)
  · exact ⟨s0,s1,s5⟩
  clear hK K
  try simp only [Act.put]
  refine wpAnyH_ready (rs:=[7]) (by kernel_rfl) (by simp) ?_
  refine AllReadyH.cons (o:=_) rfl (fun K hK=>?_) AllReadyH.nil
  go_simp
  refine hK.out _ _ ?_ (fun hHeld=>?_)
  · exact ⟨by rw [World.cell?_setCell_other _ _ _ _ (by simp <;> omega)]; exact s0,by rw [World.cell?_setCell_other _ _ _ _ (by simp <;> omega)]; exact s1,by rw [World.cell?_setCell_other _ _ _ _ (by simp <;> omega)]; exact s5⟩
  clear hK K
  try simp only [Act.put]
  refine wpAnyH_ready (rs:=[8]) (by kernel_rfl) (by simp) ?_
  refine AllReadyH.cons (o:=_) rfl (fun K hK=>?_) AllReadyH.nil
  go_simp
  refine hK.out _ _ ?_ (fun hHeld=>?_)
  · exact hHeld
  clear hK K
  try simp only [Act.put]
  refine wpAnyH_done (by kernel_rfl) ?_ _
  go_wp2_with fail
  refine bodyPost_ret (v:=.tuple #[.agg #[.slice (some ⟨b,0,none⟩) n c],.int .i64 0]) (by rw [results,Tryz.results175]; simp [go_sem,World.cell?_setCell_same _ _ _ hr4]) rfl ?_
  rw [HV4.out]
  exact ⟨vs2,by simp [HN.out],HT4.out.setBox hF4.r 0 _,hb4.setCell (by show B ≤ w.heap.size + 1 + 1; omega) _,hk4.setNew (by omega) _ _⟩
end
section
open Go.RowKit
def turnM (os : List LObj) (j l : Nat) : List LObj:=if l = j then turnL os j else turnL (turnL os j) l
def actMove (os : List LObj) (o : LOp) : List LObj × Int :=
  match os[o.dir.toNat]?,os[o.dir2.toNat]? with
  | some d,some d2 =>
    if d.kind ≠ 2 ∨ d2.kind ≠ 2 then (os,1)
    else if findV d.kids o.name ≠ o.id then (os,2)
    else if 0 ≤ findV d2.kids o.name2 then (os,3)
    else if under os o.id 33 o.dir2 = true then (os,5)
    else (turnM (kidsL (kidsL os o.dir.toNat (outL o.name)) o.dir2.toNat (putL ⟨o.name2,o.id⟩)) o.dir.toNat o.dir2.toNat,0)
  | _,_=>(os,8)
set_option maxHeartbeats 4000000 in
set_option maxRecDepth 20000 in
theorem move_any (B b c n i j l : Nat) (o : LOp) (os : List LObj) (vs : Nat → Value) (w : World) (hid : o.id = i) (hdir : o.dir = j) (hdir2 : o.dir2 = l) (hn : n = os.length) (hi : i < n) (hj : j < n) (hl : l < n) (hB : B ≤ w.heap.size)
    (hv : Bd os 1000000) (hnm2 : o.name2.size ≤ maxLen) (H : OwnT w B b c os vs) :
    Calls Tryz.prog 176 #[.agg #[.slice (some ⟨b,0,none⟩) n c],.agg o.val] w fun e w'=>DoEnd w B b c n vs (actMove os o) e w':=by
  obtain ⟨d,hd⟩ : ∃ d,os[j]? = some d:=⟨os[j]'(by omega),by simp⟩
  obtain ⟨d2,hd2⟩ : ∃ d,os[l]? = some d:=⟨os[l]'(by omega),by simp⟩
  obtain ⟨k,dd,nm,ll,nm2,ii,tx⟩:=o
  simp only [LOp.val] at *
  subst hid hdir hdir2
  have HV : Hid (actMove os ⟨k,j,nm,l,nm2,i,tx⟩ = if d.kind ≠ 2 ∨ d2.kind ≠ 2 then (os,1)
    else if findV d.kids nm ≠ i then (os,2)
    else if 0 ≤ findV d2.kids nm2 then (os,3)
    else if under os i 33 l = true then (os,5)
    else (turnM (kidsL (kidsL os j (outL nm)) l (putL ⟨nm2,i⟩)) j l,0)):=by
    show _ = _
    simp only [actMove,Int.toNat_natCast,hd,hd2]
  have HOB:=H.to_objs
  rw [← hn] at HOB
  have hbA : b < w.heap.size:=H.lt
  have hBb : B ≤ b:=H.lo
  have HVJ : Hid (∀ g,(vs j).ownBlock = some g → B ≤ g ∧ g < w.heap.size):=fun g hg=>(H.at_ j d hd).2.2.2.2.2.1.lt g hg
  have HVL : Hid (∀ g,(vs l).ownBlock = some g → B ≤ g ∧ g < w.heap.size):=fun g hg=>(H.at_ l d2 hd2).2.2.2.2.2.1.lt g hg
  have HNM : Hid (nm2.size ≤ maxLen):=hnm2
  have HN : Hid (n = os.length):=hn
  have HD : Hid (os[j]? = some d):=hd
  have HD2 : Hid (os[l]? = some d2):=hd2
  have HBD : Hid (Bd os 1000000):=hv
  have hj' : (j : Int) < (n : Int):=by omega
  have hi' : (i : Int) < (n : Int):=by omega
  have hl' : (l : Int) < (n : Int):=by omega
  have hv1:=hv d (List.mem_of_getElem? hd)
  have HKB : Hid (d.kids.length ≤ 1000000 ∧ 0 ≤ d.ver ∧ d.ver ≤ 1000000):=⟨hv1.2.2,hv1.1,hv1.2.1⟩
  have HF0:=Fr.start w b c n ⟨k,j,nm,l,nm2,i,tx⟩ (.slice none 0 0)
  have hA : ∀ o1 o2 o3,Below w.heap.size w (((w.alloc o1).alloc o2).alloc o3):=fun o1 o2 o3=>(((Below.refl _ _).alloc (Nat.le_refl _) _).alloc (by simp) _).alloc (by simp; omega) _
  have HOT : Hid (OwnT w B b c os vs):=H
  have HOBH : Hid (ObjsAt w B w.heap.size (some ⟨b,0,none⟩) n os):=HOB
  clear hv hn hd hd2 hv1 hnm2 H HOB
  go_enter Tryz.func176,Tryz.ntmps176
  go_wp2_with fail
  refine (isDir_b _ n c j d os B w.heap.size _ _ rfl HD.out (by simp; omega) (HOBH.out.below (hA _ _ _) (Nat.le_refl _))).mono ?_
  rintro e W ⟨rfl,hb1⟩
  have HF:=HF0.next hb1
  have hbW : Below w.heap.size w W:=(hA _ _ _).trans (hb1.mono (by simp; omega))
  have HT : Hid (OwnT W B b c os vs):=HOT.out.below hbW
  clear HF0 hb1 hA
  obtain ⟨⟨rv,hr0⟩,hr1⟩:=HF.res
  have q0:=HF.t
  have hzW:=HF.size
  by_cases hk2 : d.kind = 2
  case neg =>
    have t : (d.kind == 2) = false:=by simpa using hk2
    have HV1 : Hid (actMove os ⟨k,j,nm,l,nm2,i,tx⟩ = (os,1)):=by show _ = _; rw [HV.out,if_pos (.inl hk2)]
    clear hk2 HV
    go_wp2_with fail
    exact bodyPost_ret (v:=.tuple #[.agg #[.slice (some ⟨b,0,none⟩) n c],.int .i64 1]) (by rw [results,Tryz.results176]; simp [go_sem,World.cell?_setCell_same _ _ _ hr0]) rfl (do_same HV1.out HF rfl hB HT.out hbW HN.out _)
  have t : (d.kind == 2) = true:=by simpa using hk2
  have q3:=HF.o3
  go_wp2_with fail
  refine (isDir_b _ n c l d2 os B W.heap.size _ _ rfl HD2.out (Nat.le_refl _) ((HOBH.out.below hbW (Nat.le_refl _)).wide (Nat.le_refl _) hbW.size)).mono ?_
  rintro e U ⟨rfl,hb2⟩
  have HFU:=HF.next hb2
  have hbU : Below w.heap.size w U:=hbW.trans (hb2.mono hbW.size)
  have HTU : Hid (OwnT U B b c os vs):=HOT.out.below hbU
  clear HF hb2 hbW HT hr0 hr1 q0 q3 hzW
  obtain ⟨⟨rvu,hr0⟩,hr1⟩:=HFU.res
  have q0:=HFU.t
  have hzU:=HFU.size
  by_cases hk3 : d2.kind = 2
  case neg =>
    have t2 : (d2.kind == 2) = false:=by simpa using hk3
    have HV1 : Hid (actMove os ⟨k,j,nm,l,nm2,i,tx⟩ = (os,1)):=by show _ = _; rw [HV.out,if_pos (.inr hk3)]
    clear hk2 hk3 HV
    go_wp2_with fail
    exact bodyPost_ret (v:=.tuple #[.agg #[.slice (some ⟨b,0,none⟩) n c],.int .i64 1]) (by rw [results,Tryz.results176]; simp [go_sem,World.cell?_setCell_same _ _ _ hr0]) rfl (do_same HV1.out HFU rfl hB HTU.out hbU HN.out _)
  have t2 : (d2.kind == 2) = true:=by simpa using hk3
  have HV2 : Hid (actMove os ⟨k,j,nm,l,nm2,i,tx⟩ = if findV d.kids nm ≠ i then (os,2)
    else if 0 ≤ findV d2.kids nm2 then (os,3)
    else if under os i 33 l = true then (os,5)
    else (turnM (kidsL (kidsL os j (outL nm)) l (putL ⟨nm2,i⟩)) j l,0)):=by show _ = _; rw [HV.out,if_neg (by rintro (h | h); exact h hk2; exact h hk3)]
  clear hk2 hk3 HV
  obtain ⟨y1,y2,y3,y4,y5,y6,y7⟩:=HTU.out.at_ j d HD.out
  obtain ⟨ka,kc,hvj,hents⟩:=y6.at_ y7
  have e5 : U.cell? ⟨b,j * 4 + 3,none⟩ = some (.slice ka d.kids.length kc):=by rw [y5,hvj]
  have hbl:=HTU.out.lt
  have q1:=HFU.o1
  have q2:=HFU.o2
  have q5:=HFU.o5
  have HENT : ∀ q,EntsAt (U.drewN q) B U.heap.size ka d.kids.length d.kids:=fun q=>hents.below (Below.drewN _ _) (Nat.le_refl _)
  clear y1 y2 y3 y4 y5 y6 y7
  go_wp2_with fail
  go_quiet ((go_at_call 208; exact Calls.quiet_of_same (l1Find_any _ _ _ d.kids B U.heap.size _ _ (HENT _))))
  obtain ⟨X,hX⟩ : ∃ X,Hid (X = U.drewN nq):=⟨_,rfl⟩
  rw [← hX.out]
  have hbX : Below U.heap.size U X:=by rw [hX.out]; exact Below.drewN _ _
  have HFX:=HFU.next hbX
  have hbXw : Below w.heap.size w X:=hbU.trans (hbX.mono hbU.size)
  have HTX : Hid (OwnT X B b c os vs):=HOT.out.below hbXw
  clear hX hbX HENT hents e5 hr0 hr1 q0 q1 q2 q5 hbl HTU hbU hzU HFU hvj
  obtain ⟨⟨rvx,hr0⟩,hr1⟩:=HFX.res
  have q0:=HFX.t
  have hzX:=HFX.size
  have hbl:=HTX.out.lt
  by_cases hf : findV d.kids nm = i
  case neg =>
    have tf : (findV d.kids nm != (i : Int)) = true:=by simpa using hf
    have HV1 : Hid (actMove os ⟨k,j,nm,l,nm2,i,tx⟩ = (os,2)):=by show _ = _; rw [HV2.out,if_pos hf]
    clear HV2 hf
    go_wp2_with fail
    exact bodyPost_ret (v:=.tuple #[.agg #[.slice (some ⟨b,0,none⟩) n c],.int .i64 2]) (by rw [results,Tryz.results176]; simp [go_sem,World.cell?_setCell_same _ _ _ hr0]) rfl (do_same HV1.out HFX rfl hB HTX.out hbXw HN.out _)
  have tf : (findV d.kids nm != (i : Int)) = false:=by simpa using hf
  have HV3 : Hid (actMove os ⟨k,j,nm,l,nm2,i,tx⟩ = if 0 ≤ findV d2.kids nm2 then (os,3)
    else if under os i 33 l = true then (os,5)
    else (turnM (kidsL (kidsL os j (outL nm)) l (putL ⟨nm2,i⟩)) j l,0)):=by show _ = _; rw [HV2.out,if_neg (by simpa using hf)]
  clear HV2 hf
  obtain ⟨y1,y2,y3,y4,y5,y6,y7⟩:=HTX.out.at_ l d2 HD2.out
  obtain ⟨kx,cx,hvl,hents⟩:=y6.at_ y7
  have e5 : X.cell? ⟨b,l * 4 + 3,none⟩ = some (.slice kx d2.kids.length cx):=by rw [y5,hvl]
  have q3:=HFX.o3
  have q4:=HFX.o4
  have HENT : ∀ q,EntsAt (X.drewN q) B X.heap.size kx d2.kids.length d2.kids:=fun q=>hents.below (Below.drewN _ _) (Nat.le_refl _)
  clear y1 y2 y3 y4 y5 y6 y7
  go_wp2_with fail
  go_quiet ((go_at_call 208; exact Calls.quiet_of_same (l1Find_any _ _ _ d2.kids B X.heap.size _ _ (HENT _))))
  obtain ⟨Y,hY⟩ : ∃ Y,Hid (Y = X.drewN nq):=⟨_,rfl⟩
  rw [← hY.out]
  have hbY : Below X.heap.size X Y:=by rw [hY.out]; exact Below.drewN _ _
  have HFY:=HFX.next hbY
  have hbYw : Below w.heap.size w Y:=hbXw.trans (hbY.mono hbXw.size)
  have HTY : Hid (OwnT Y B b c os vs):=HOT.out.below hbYw
  clear hY hbY HENT hents e5 hr0 hr1 q0 q3 q4 hbl HTX hbXw hzX HFX hvl tf
  obtain ⟨⟨rvy,hr0⟩,hr1⟩:=HFY.res
  have q0:=HFY.t
  have hzY:=HFY.size
  have hbl:=HTY.out.lt
  by_cases hf2 : 0 ≤ findV d2.kids nm2
  · have HV1 : Hid (actMove os ⟨k,j,nm,l,nm2,i,tx⟩ = (os,3)):=by show _ = _; rw [HV3.out,if_pos hf2]
    clear HV3
    go_wp2_with fail
    exact bodyPost_ret (v:=.tuple #[.agg #[.slice (some ⟨b,0,none⟩) n c],.int .i64 3]) (by rw [results,Tryz.results176]; simp [go_sem,World.cell?_setCell_same _ _ _ hr0]) rfl (do_same HV1.out HFY rfl hB HTY.out hbYw HN.out _)
  have HV4 : Hid (actMove os ⟨k,j,nm,l,nm2,i,tx⟩ = if under os i 33 l = true then (os,5)
    else (turnM (kidsL (kidsL os j (outL nm)) l (putL ⟨nm2,i⟩)) j l,0)):=by show _ = _; rw [HV3.out,if_neg hf2]
  clear HV3
  have q3:=HFY.o3
  have q5:=HFY.o5
  go_wp2_with fail
  refine (l1Under_any _ n c os B Y.heap.size _ _ _ (Nat.le_refl _) ((HOBH.out.below hbYw (Nat.le_refl _)).wide (Nat.le_refl _) hbYw.size)).mono ?_
  rintro e V ⟨rfl,hbV⟩
  have HFV:=HFY.next hbV
  have hbVw : Below w.heap.size w V:=hbYw.trans (hbV.mono hbYw.size)
  have HTV : Hid (OwnT V B b c os vs):=HOT.out.below hbVw
  clear hbV hr0 hr1 q0 q3 q5 hbl HTY hbYw hzY HFY
  obtain ⟨⟨rvv,hr0⟩,hr1⟩:=HFV.res
  have q0:=HFV.t
  have hzV:=HFV.size
  have hbl:=HTV.out.lt
  rcases hu : under os i 33 l with _ | _
  case true =>
    have HV1 : Hid (actMove os ⟨k,j,nm,l,nm2,i,tx⟩ = (os,5)):=by show _ = _; rw [HV4.out,if_pos hu]
    clear HV4 hu
    go_wp2_with fail
    exact bodyPost_ret (v:=.tuple #[.agg #[.slice (some ⟨b,0,none⟩) n c],.int .i64 5]) (by rw [results,Tryz.results176]; simp [go_sem,World.cell?_setCell_same _ _ _ hr0]) rfl (do_same HV1.out HFV rfl hB HTV.out hbVw HN.out _)
  have HV5 : Hid (actMove os ⟨k,j,nm,l,nm2,i,tx⟩ = (turnM (kidsL (kidsL os j (outL nm)) l (putL ⟨nm2,i⟩)) j l,0)):=by show _ = _; rw [HV4.out,if_neg (by rw [hu]; simp)]
  clear HV4 hu
  obtain ⟨y1,y2,y3,y4,y5,y6,y7⟩:=HTV.out.at_ j d HD.out
  obtain ⟨kb,kd,hvk,hents⟩:=y6.at_ y7
  have e5 : V.cell? ⟨b,j * 4 + 3,none⟩ = some (.slice kb d.kids.length kd):=by rw [y5,hvk]
  have HY7 : Hid (∀ e ∈ outL nm d.kids,e.name.size ≤ maxLen):=fun e he=>y7 e (List.mem_filter.1 he).1
  have qt:=HFV.t
  have qo1:=HFV.o1
  have qo2:=HFV.o2
  have hBz : B ≤ V.heap.size:=by omega
  clear y1 y2 y3 y4 y5 y6 y7
  go_upto_region 9 with fail
  clear hf2
  go_cut [6,20,35,48] (fun _ _ _ _ wy=>Hid (∃ vs1,OwnT wy B b c (os.set j { d with kids:=outL nm d.kids }) vs1 ∧ (∀ g,(vs1 l).ownBlock = some g → (g < w.heap.size ∧ (vs l).ownBlock = some g) ∨ w.heap.size + 1 + 1 < g)) ∧ Fr w.heap.size wy b c n ⟨k,j,nm,l,nm2,i,tx⟩ ∧ Below B w wy ∧ Kt w wy b n vs)
  case first =>
    refine wp_region_held_drew (S:=(fun w'=>w'.cell? ⟨w.heap.size,0,none⟩ = some (.slice (some ⟨b,0,none⟩) n c) ∧ w'.cell? ⟨w.heap.size + 1,1,none⟩ = some (.int .i64 j) ∧ w'.cell? ⟨w.heap.size + 1,2,none⟩ = some (.string nm))) (by kernel_rfl) ?_ (fun hHeld=>?_)
    · exact ⟨qt,qo1,qo2⟩
    refine wpAnyH_take (i:=0) (oi:=_) (v:=?v0) rfl (by kernel_rfl) (by kernel_rfl) (by kernel_rfl) (fun _ _ _ h=>h) (Or.inl ⟨by rfl,?y0⟩) (by assumption) ?r0
    case y0=>(intro w' hSw; (try dsimp only at hSw); go_simp; try with_reducible rfl)
    try simp only [Act.put]
    refine wpAnyH_take (i:=1) (oi:=_) (v:=?v1) rfl (by kernel_rfl) (by kernel_rfl) (by kernel_rfl) (fun _ _ _ h=>h) (Or.inl ⟨by rfl,?y1⟩) (by assumption) ?r1
    case y1=>(intro w' hSw; (try dsimp only at hSw); go_simp; try with_reducible rfl)
    try simp only [Act.put]
    refine wpAnyH_take (i:=2) (oi:=_) (v:=?v2) rfl (by kernel_rfl) (by kernel_rfl) (by kernel_rfl) (fun _ _ _ h=>h) (Or.inl ⟨by rfl,?y2⟩) (by assumption) ?r2
    case y2=>(intro w' hSw; (try dsimp only at hSw); go_simp; try with_reducible rfl)
    try simp only [Act.put]
    refine wpAnyH_take (i:=3) (oi:=_) (v:=?v3) rfl (by kernel_rfl) (by kernel_rfl) (by kernel_rfl) (fun _ _ _ h=>h) (Or.inl ⟨by rfl,?y3⟩) (by assumption) ?r3
    case y3=>(intro w' hSw; (try dsimp only at hSw); go_simp; try with_reducible rfl)
    try simp only [Act.put]
    refine wpAnyH_take (i:=4) (oi:=_) (v:=?v4) rfl (by kernel_rfl) (by kernel_rfl) (by kernel_rfl) (fun _ _ _ h=>h) (Or.inl ⟨by rfl,?y4⟩) (by assumption) ?r4
    case y4=>(intro w' hSw; (try dsimp only at hSw); go_simp; try with_reducible rfl)
    try simp only [Act.put]
    refine wpAnyH_take (i:=5) (oi:=_) (v:=?v5) rfl (by kernel_rfl) (by kernel_rfl) (by kernel_rfl) (fun _ _ _ h=>h) (Or.inl ⟨by rfl,?y5⟩) (by assumption) ?r5
    case y5=>(intro w' hSw; (try dsimp only at hSw); go_simp; try with_reducible rfl)
    try simp only [Act.put]
    refine wpAnyH_take (i:=6) (oi:=_) (v:=?v6) rfl (by kernel_rfl) (by kernel_rfl) (by kernel_rfl) (fun _ _ _ h=>h) (Or.inl ⟨by rfl,?y6⟩) (by assumption) ?r6
    case y6=>(intro w' hSw; (try dsimp only at hSw); go_simp; try with_reducible rfl)
    try simp only [Act.put]
    refine wpAnyH_take (i:=7) (oi:=_) (v:=?v7) rfl (by kernel_rfl) (by kernel_rfl) (by kernel_rfl) (fun _ _ _ h=>h) (Or.inl ⟨by rfl,?y7⟩) (by assumption) ?r7
    case y7=>(intro w' hSw; (try dsimp only at hSw); go_simp; try with_reducible rfl)
    try simp only [Act.put]
    refine wpAnyH_take (i:=8) (oi:=_) (v:=?v8) rfl (by kernel_rfl) (by kernel_rfl) (by kernel_rfl) (fun _ _ _ h=>h) (Or.inl ⟨by rfl,?y8⟩) (by assumption) ?r8
    case y8=>(intro w' hSw; (try dsimp only at hSw); go_simp; try with_reducible rfl)
    try simp only [Act.put]
    refine wpAnyH_take (i:=9) (oi:=_) (v:=?v9) rfl (by kernel_rfl) (by kernel_rfl) (by kernel_rfl) (fun _ _ _ h=>h) (Or.inl ⟨by rfl,?y9⟩) (by assumption) ?r9
    case y9=>(intro w' hSw; (try dsimp only at hSw); go_simp; try with_reducible rfl)
    try simp only [Act.put]
    refine wpAnyH_take (i:=11) (oi:=_) (v:=?v11) rfl (by kernel_rfl) (by kernel_rfl) (by kernel_rfl) (fun _ _ _ h=>h) (Or.inl ⟨by rfl,?y11⟩) (by assumption) ?r11
    case y11=>(intro w' hSw; (try dsimp only at hSw); go_simp; try with_reducible rfl)
    try simp only [Act.put]
    refine wpAnyH_take (i:=12) (oi:=_) (v:=?v12) rfl (by kernel_rfl) (by kernel_rfl) (by kernel_rfl) (fun _ _ _ h=>h) (Or.inl ⟨by rfl,?y12⟩) (by assumption) ?r12
    case y12=>(intro w' hSw; (try dsimp only at hSw); go_simp; try with_reducible rfl)
    try simp only [Act.put]
    refine wpAnyH_ready (rs:=[10]) (by kernel_rfl) (by simp) ?_
    refine AllReadyH.cons (o:=_) rfl (fun K hK=>?_) AllReadyH.nil
    go_simp
    refine hK.out _ _ ?_ (fun hHeld=>?_)
    · exact hHeld
    clear hK K
    try simp only [Act.put]
    refine wpAnyH_ready (rs:=[13]) (by kernel_rfl) (by simp) ?_
    refine AllReadyH.cons (o:=_) rfl (fun K hK=>?_) AllReadyH.nil
    go_simp
    refine (out_any _ _ _ d.kids B V.heap.size _ _ (by have:=HKB.out; omega) (by simp) (hents.below (Below.refl _ _).drew (Nat.le_refl _))).mono ?_
    rintro e w2 ⟨⟨v',rfl,ho2⟩,hbo⟩
    have ho3 : OwnEnts w2 B v' (outL nm d.kids):=ho2.out.mono (by simpa using hBz)
    obtain ⟨va,vc,rfl⟩:=ho3.shape
    have K2:=kidsFr (W:=V) (W':=w2) (row:=none) HFV HTV.out (hbVw.mono hB) hBz HD.out hvk ⟨hbo.os,hbo.tape,hbo.output,hbo.size,fun k hk _=>hbo.block k hk⟩ (.inl rfl) (fun g hg=>.inl (HVJ.out g (by rw [hvk]; exact hg)).2) ho3 (fun g hg=>.inr (ho2.out.lt g hg).1)
    have pt:=K2.fr.t
    have po1:=K2.fr.o1
    have po2:=K2.fr.o2
    have f5:=K2.cell
    have g5:=K2.frozen
    have hbl2:=K2.lt
    have hzz2:=K2.size
    have KH : Hid (KidsFr w.heap.size w V w2 B b c n j ⟨k,j,nm,l,nm2,i,tx⟩ os vs (.slice kb d.kids.length kd) (.slice va (outL nm d.kids).length vc) (outL nm d.kids)):=K2
    have HG2 : Hid (∀ g,(Value.slice va (outL nm d.kids).length vc).ownBlock = some g → V.heap.size ≤ g):=fun g hg=>(ho2.out.lt g hg).1
    clear K2 ho2 hbo ho3
    go_wp2_with fail
    refine hK.out _ _ ?_ (fun hHeld=>?_)
    · exact ⟨pt,po1,po2⟩
    clear hK K
    try simp only [Act.put]
    refine wpAnyH_take (i:=14) (oi:=_) (v:=?v14) rfl (by kernel_rfl) (by kernel_rfl) (by kernel_rfl) (fun _ _ _ h=>h) (Or.inl ⟨by rfl,?y14⟩) (by assumption) ?r14
    case y14=>(intro w' hSw; (try dsimp only at hSw); go_simp; try with_reducible rfl)
    try simp only [Act.put]
    refine wpAnyH_take (i:=15) (oi:=_) (v:=?v15) rfl (by kernel_rfl) (by kernel_rfl) (by kernel_rfl) (fun _ _ _ h=>h) (Or.inl ⟨by rfl,?y15⟩) (by assumption) ?r15
    case y15=>(intro w' hSw; (try dsimp only at hSw); go_simp; try with_reducible rfl)
    try simp only [Act.put]
    refine wpAnyH_ready (rs:=[16]) (by kernel_rfl) (by simp) ?_
    refine AllReadyH.cons (o:=_) rfl (fun K hK=>?_) AllReadyH.nil
    go_simp
    refine hK.out _ _ ?_ (fun hHeld=>?_)
    · exact ⟨by rw [World.cell?_setCell_other _ _ _ _ (by simp <;> omega)]; exact pt,by rw [World.cell?_setCell_other _ _ _ _ (by simp <;> omega)]; exact po1,by rw [World.cell?_setCell_other _ _ _ _ (by simp <;> omega)]; exact po2⟩
    clear hK K
    try simp only [Act.put]
    refine wpAnyH_done (by kernel_rfl) ?_ _
    go_wp2_with fail
    go_meet
    refine ⟨⟨_,KH.out.done d HD.out HY7.out,fun g hg=>?_⟩,KH.out.fr.set hbA _ _,KH.out.below.setCell (by simpa using hBb) _,((Kt.of_below hbVw b n vs).kids hbVw.size KH.out (fun g hg=>.inl ⟨j,hj,by rw [hvk]; exact hg⟩)).set _ _⟩
    by_cases e : l = j
    · rw [if_pos e] at hg
      have:=HG2.out g hg
      omega
    · rw [if_neg e] at hg
      exact .inl ⟨(HVL.out g hg).2,hg⟩
  obtain ⟨hT1,hF1,hb1,hk1⟩:=hcut
  clear e5 hents hvk q0 qt qo1 qo2 hzV hbl hBz HFV HTV hbVw hr0 hr1
  obtain ⟨vs1,hT1',hvs1⟩:=hT1.out
  have HT1 : Hid (OwnT wc B b c (os.set j { d with kids:=outL nm d.kids }) vs1):=hT1'
  have HB1 : Hid (Bd (os.set j { d with kids:=outL nm d.kids }) 1000000):=HBD.out.set j ⟨HKB.out.2.1,HKB.out.2.2,Nat.le_trans (outL_le _ _) HKB.out.1⟩
  have hlen1 : (os.set j { d with kids:=outL nm d.kids }).length = n:=by simpa using HN.out.symm
  obtain ⟨e2,he2⟩ : ∃ e2,(os.set j { d with kids:=outL nm d.kids })[l]? = some e2:=⟨(os.set j { d with kids:=outL nm d.kids })[l]'(by omega),by simp⟩
  have HE1 : Hid ((os.set j { d with kids:=outL nm d.kids })[l]? = some e2):=he2
  have hbe:=HB1.out e2 (List.mem_of_getElem? he2)
  have HE2 : Hid (e2.kids.length ≤ 1000000 ∧ 0 ≤ e2.ver ∧ e2.ver ≤ 1000000):=⟨hbe.2.2,hbe.1,hbe.2.1⟩
  obtain ⟨y1,y2,y3,y4,y5,y6,y7⟩:=hT1'.at_ l e2 he2
  obtain ⟨kb2,kd2,hvk,_⟩:=y6.at_ y7
  have e5 : wc.cell? ⟨b,l * 4 + 3,none⟩ = some (.slice kb2 e2.kids.length kd2):=by rw [y5,hvk]
  have HE : Hid (OwnEnts wc B (.slice kb2 e2.kids.length kd2) e2.kids):=by show OwnEnts _ _ _ _; rw [← hvk]; exact y6
  have HY8 : Hid (∀ e ∈ e2.kids,e.name.size ≤ maxLen):=y7
  have HVK : Hid (vs1 l = .slice kb2 e2.kids.length kd2 ∧ (∀ g,(Value.slice kb2 e2.kids.length kd2).ownBlock = some g → g < w.heap.size ∨ w.heap.size + 1 + 1 < g)):=⟨hvk,fun g hg=>by rcases hvs1 g (by rw [hvk]; exact hg) with h | h; exact .inl h.1; exact .inr h⟩
  have HVN : Hid (∀ g,(Value.slice kb2 e2.kids.length kd2).ownBlock = some g → (∃ q,q < n ∧ (vs q).ownBlock = some g) ∨ w.heap.size ≤ g):=fun g hg=>by rcases hvs1 g (by rw [hvk]; exact hg) with h | h; exact .inl ⟨l,hl,h.2⟩; exact .inr (by omega)
  have hbl:=hT1'.lt
  have qt:=hF1.t
  have qo3:=hF1.o3
  have qo4:=hF1.o4
  have qo5:=hF1.o5
  have hz1:=hF1.size
  have hBz : B ≤ wc.heap.size:=by omega
  clear hT1 hT1' hvs1 y1 y2 y3 y4 y5 y6 y7 hvk he2 hbe hlen1
  go_upto_region 10 with fail
  go_cut [] (fun wy=>Hid (∃ vs2,OwnT wy B b c ((os.set j { d with kids:=outL nm d.kids }).set l { e2 with kids:=putL ⟨nm2,i⟩ e2.kids }) vs2) ∧ Fr w.heap.size wy b c n ⟨k,j,nm,l,nm2,i,tx⟩ ∧ Below B w wy ∧ Kt w wy b n vs)
  case first =>
    refine wp_region_held_drew (S:=(fun w'=>w'.cell? ⟨w.heap.size,0,none⟩ = some (.slice (some ⟨b,0,none⟩) n c) ∧ w'.cell? ⟨w.heap.size + 1,3,none⟩ = some (.int .i64 l) ∧ w'.cell? ⟨w.heap.size + 1,4,none⟩ = some (.string nm2) ∧ w'.cell? ⟨w.heap.size + 1,5,none⟩ = some (.int .i64 i))) (by kernel_rfl) ?_ (fun hHeld=>?_)
    · exact ⟨qt,qo3,qo4,qo5⟩
    refine wpAnyH_take (i:=0) (oi:=_) (v:=?vc0) rfl (by kernel_rfl) (by kernel_rfl) (by kernel_rfl) (fun _ _ _ h=>h) (Or.inl ⟨by rfl,?yc0⟩) (by assumption) ?rc0
    case yc0=>(intro w' hSw; (try dsimp only at hSw); go_simp; try with_reducible rfl)
    try simp only [Act.put]
    refine wpAnyH_take (i:=1) (oi:=_) (v:=?vc1) rfl (by kernel_rfl) (by kernel_rfl) (by kernel_rfl) (fun _ _ _ h=>h) (Or.inl ⟨by rfl,?yc1⟩) (by assumption) ?rc1
    case yc1=>(intro w' hSw; (try dsimp only at hSw); go_simp; try with_reducible rfl)
    try simp only [Act.put]
    refine wpAnyH_take (i:=2) (oi:=_) (v:=?vc2) rfl (by kernel_rfl) (by kernel_rfl) (by kernel_rfl) (fun _ _ _ h=>h) (Or.inl ⟨by rfl,?yc2⟩) (by assumption) ?rc2
    case yc2=>(intro w' hSw; (try dsimp only at hSw); go_simp; try with_reducible rfl)
    try simp only [Act.put]
    refine wpAnyH_take (i:=3) (oi:=_) (v:=?vc3) rfl (by kernel_rfl) (by kernel_rfl) (by kernel_rfl) (fun _ _ _ h=>h) (Or.inl ⟨by rfl,?yc3⟩) (by assumption) ?rc3
    case yc3=>(intro w' hSw; (try dsimp only at hSw); go_simp; try with_reducible rfl)
    try simp only [Act.put]
    refine wpAnyH_take (i:=4) (oi:=_) (v:=?vc4) rfl (by kernel_rfl) (by kernel_rfl) (by kernel_rfl) (fun _ _ _ h=>h) (Or.inl ⟨by rfl,?yc4⟩) (by assumption) ?rc4
    case yc4=>(intro w' hSw; (try dsimp only at hSw); go_simp; try with_reducible rfl)
    try simp only [Act.put]
    refine wpAnyH_take (i:=5) (oi:=_) (v:=?vc5) rfl (by kernel_rfl) (by kernel_rfl) (by kernel_rfl) (fun _ _ _ h=>h) (Or.inl ⟨by rfl,?yc5⟩) (by assumption) ?rc5
    case yc5=>(intro w' hSw; (try dsimp only at hSw); go_simp; try with_reducible rfl)
    try simp only [Act.put]
    refine wpAnyH_take (i:=6) (oi:=_) (v:=?vc6) rfl (by kernel_rfl) (by kernel_rfl) (by kernel_rfl) (fun _ _ _ h=>h) (Or.inl ⟨by rfl,?yc6⟩) (by assumption) ?rc6
    case yc6=>(intro w' hSw; (try dsimp only at hSw); go_simp; try with_reducible rfl)
    try simp only [Act.put]
    refine wpAnyH_take (i:=7) (oi:=_) (v:=?vc7) rfl (by kernel_rfl) (by kernel_rfl) (by kernel_rfl) (fun _ _ _ h=>h) (Or.inl ⟨by rfl,?yc7⟩) (by assumption) ?rc7
    case yc7=>(intro w' hSw; (try dsimp only at hSw); go_simp; try with_reducible rfl)
    try simp only [Act.put]
    refine wpAnyH_take (i:=8) (oi:=_) (v:=?vc8) rfl (by kernel_rfl) (by kernel_rfl) (by kernel_rfl) (fun _ _ _ h=>h) (Or.inl ⟨by rfl,?yc8⟩) (by assumption) ?rc8
    case yc8=>(intro w' hSw; (try dsimp only at hSw); go_simp; try with_reducible rfl)
    try simp only [Act.put]
    refine wpAnyH_take (i:=9) (oi:=_) (v:=?vc9) rfl (by kernel_rfl) (by kernel_rfl) (by kernel_rfl) (fun _ _ _ h=>h) (Or.inl ⟨by rfl,?yc9⟩) (by assumption) ?rc9
    case yc9=>(intro w' hSw; (try dsimp only at hSw); go_simp; try with_reducible rfl)
    try simp only [Act.put]
    refine wpAnyH_take (i:=11) (oi:=_) (v:=?vc11) rfl (by kernel_rfl) (by kernel_rfl) (by kernel_rfl) (fun _ _ _ h=>h) (Or.inl ⟨by rfl,?yc11⟩) (by assumption) ?rc11
    case yc11=>(intro w' hSw; (try dsimp only at hSw); go_simp; try with_reducible rfl)
    try simp only [Act.put]
    refine wpAnyH_take (i:=12) (oi:=_) (v:=?vc12) rfl (by kernel_rfl) (by kernel_rfl) (by kernel_rfl) (fun _ _ _ h=>h) (Or.inl ⟨by rfl,?yc12⟩) (by assumption) ?rc12
    case yc12=>(intro w' hSw; (try dsimp only at hSw); go_simp; try with_reducible rfl)
    try simp only [Act.put]
    refine wpAnyH_take (i:=13) (oi:=_) (v:=?vc13) rfl (by kernel_rfl) (by kernel_rfl) (by kernel_rfl) (fun _ _ _ h=>h) (Or.inl ⟨by rfl,?yc13⟩) (by assumption) ?rc13
    case yc13=>(intro w' hSw; (try dsimp only at hSw); go_simp; try with_reducible rfl)
    try simp only [Act.put]
    refine wpAnyH_take (i:=14) (oi:=_) (v:=?vc14) rfl (by kernel_rfl) (by kernel_rfl) (by kernel_rfl) (fun _ _ _ h=>h) (Or.inl ⟨by rfl,?yc14⟩) (by assumption) ?rc14
    case yc14=>(intro w' hSw; (try dsimp only at hSw); go_simp; try with_reducible rfl)
    try simp only [Act.put]
    refine wpAnyH_take (i:=15) (oi:=_) (v:=?vc15) rfl (by kernel_rfl) (by kernel_rfl) (by kernel_rfl) (fun _ _ _ h=>h) (Or.inl ⟨by rfl,?yc15⟩) (by assumption) ?rc15
    case yc15=>(intro w' hSw; (try dsimp only at hSw); go_simp; try with_reducible rfl)
    try simp only [Act.put]
    refine wpAnyH_ready (rs:=[10]) (by kernel_rfl) (by simp) ?_
    refine AllReadyH.cons (o:=_) rfl (fun K hK=>?_) AllReadyH.nil
    go_simp
    refine hK.out _ _ ?_ (fun hHeld=>?_)
    · exact hHeld
    clear hK K
    try simp only [Act.put]
    refine wpAnyH_ready (rs:=[16]) (by kernel_rfl) (by simp) ?_
    refine AllReadyH.cons (o:=_) rfl (fun K hK=>?_) AllReadyH.nil
    go_simp
    refine (put_val B (.slice kb2 e2.kids.length kd2) e2.kids ⟨nm2,i⟩ _ HE2.out.1 (by simpa using hBz) (OwnEnts.of_heap (by rfl) HE.out)).mono ?_
    rintro e w2 ⟨v',rfl,ho2,hg2,ha2⟩
    obtain ⟨va,vc,rfl⟩:=ho2.shape
    have K2:=kidsFr (W:=wc) (W':=w2) hF1 HT1.out hb1 hBz HE1.out HVK.out.1 ⟨hg2.os,hg2.tape,hg2.output,hg2.size,hg2.block⟩ (.inr rfl) (fun g hg=>HVK.out.2 g hg) ho2 ha2
    have pt:=K2.fr.t
    have po3:=K2.fr.o3
    have po4:=K2.fr.o4
    have po5:=K2.fr.o5
    have f5:=K2.cell
    have g5:=K2.frozen
    have hbl2:=K2.lt
    have hzz2:=K2.size
    have KH : Hid (KidsFr w.heap.size w wc w2 B b c n l ⟨k,j,nm,l,nm2,i,tx⟩ (os.set j { d with kids:=outL nm d.kids }) vs1 (.slice kb2 e2.kids.length kd2) (.slice va (putL ⟨nm2,i⟩ e2.kids).length vc) (putL ⟨nm2,i⟩ e2.kids)):=K2
    clear K2 ho2 hg2 ha2
    go_wp2_with fail
    refine hK.out _ _ ?_ (fun hHeld=>?_)
    · exact ⟨pt,po3,po4,po5⟩
    clear hK K
    try simp only [Act.put]
    refine wpAnyH_take (i:=17) (oi:=_) (v:=?vc17) rfl (by kernel_rfl) (by kernel_rfl) (by kernel_rfl) (fun _ _ _ h=>h) (Or.inl ⟨by rfl,?yc17⟩) (by assumption) ?rc17
    case yc17=>(intro w' hSw; (try dsimp only at hSw); go_simp; try with_reducible rfl)
    try simp only [Act.put]
    refine wpAnyH_take (i:=18) (oi:=_) (v:=?vc18) rfl (by kernel_rfl) (by kernel_rfl) (by kernel_rfl) (fun _ _ _ h=>h) (Or.inl ⟨by rfl,?yc18⟩) (by assumption) ?rc18
    case yc18=>(intro w' hSw; (try dsimp only at hSw); go_simp; try with_reducible rfl)
    try simp only [Act.put]
    refine wpAnyH_ready (rs:=[19]) (by kernel_rfl) (by simp) ?_
    refine AllReadyH.cons (o:=_) rfl (fun K hK=>?_) AllReadyH.nil
    go_simp
    refine hK.out _ _ ?_ (fun hHeld=>?_)
    · exact ⟨by rw [World.cell?_setCell_other _ _ _ _ (by simp <;> omega)]; exact pt,by rw [World.cell?_setCell_other _ _ _ _ (by simp <;> omega)]; exact po3,by rw [World.cell?_setCell_other _ _ _ _ (by simp <;> omega)]; exact po4,by rw [World.cell?_setCell_other _ _ _ _ (by simp <;> omega)]; exact po5⟩
    clear hK K
    try simp only [Act.put]
    refine wpAnyH_done (by kernel_rfl) ?_ _
    go_wp2_with fail
    go_meet
    exact ⟨⟨_,KH.out.done e2 HE1.out (fun e he=>by rcases mem_putL he with rfl | h; exact HNM.out; exact HY8.out e h)⟩,KH.out.fr.set hbA _ _,KH.out.below.setCell (by simpa using hBb) _,(hk1.kids (by omega) KH.out HVN.out).set _ _⟩
  obtain ⟨hT2,hF2,hb2,hk2⟩:=hcut
  clear e5 HE qt qo3 qo4 qo5 hz1 hbl hBz HVK HT1 hF1 hb1 hk1 HVN
  obtain ⟨vs2,hT2'⟩:=hT2.out
  obtain ⟨OS2,hOS2⟩ : ∃ OS2,Hid (OS2 = ((os.set j { d with kids:=outL nm d.kids }).set l { e2 with kids:=putL ⟨nm2,i⟩ e2.kids })):=⟨_,rfl⟩
  have HT2 : Hid (OwnT wc B b c OS2 vs2):=by show OwnT _ _ _ _ _ _; rw [hOS2.out]; exact hT2'
  have HK2 : Hid (kidsL (kidsL os j (outL nm)) l (putL ⟨nm2,i⟩) = OS2):=by show _ = _; rw [kidsL_at HD.out,kidsL_at HE1.out,hOS2.out]
  have hlen2 : Hid (n = OS2.length):=by show _ = _; rw [hOS2.out]; simpa using HN.out
  have HB2 : Hid (∀ x ∈ OS2,0 ≤ x.ver ∧ x.ver ≤ 1000000):=fun x hx=>by
    rw [hOS2.out] at hx
    rcases List.mem_or_eq_of_mem_set hx with h1 | rfl
    · exact ⟨(HB1.out x h1).1,(HB1.out x h1).2.1⟩
    · exact ⟨HE2.out.2.1,HE2.out.2.2⟩
  obtain ⟨f1,hf1⟩ : ∃ f1,OS2[j]? = some f1:=⟨OS2[j]'(by have:=hlen2.out; omega),by simp⟩
  have HF1 : Hid (OS2[j]? = some f1):=hf1
  have hb1:=HB2.out f1 (List.mem_of_getElem? hf1)
  have HT3e : Hid (turnL OS2 j = OS2.set j { f1 with ver:=f1.ver + 1 }):=turnL_at hf1
  have q0:=hF2.t
  have q1:=hF2.o1
  have hz1:=hF2.size
  clear hT2 hT2' hf1
  go_wp2_with fail
  refine (turn_any B b c j f1 OS2 vs2 n _ _ rfl hlen2.out HF1.out (by omega) (by omega) HT2.out).mono ?_
  rintro e w3 ⟨rfl,hT3,hg3⟩
  rw [← hlen2.out]
  have hF3:=hF2.grown hg3 (fun g hg=>.inl (by simp at hg; omega))
  have hb3 : Below B w w3:=below_grown hb2 hg3 (fun g hg=>by simp at hg; omega) (by omega)
  have HT3 : Hid (OwnT w3 B b c (turnL OS2 j) vs2):=by show OwnT _ _ _ _ _ _; rw [HT3e.out]; exact hT3
  have hk3 : Kt w w3 b n vs:=hk2.turn (by omega) hg3
  clear hT3 hg3 hF2 hb2 q0 q1 hz1 hb1 hk2
  have q0:=hF3.t
  have z0:=hF3.tree
  have hz3:=hF3.size
  have hF4:=hF3.retree
  have HT4 : Hid (OwnT (w3.setCell ⟨w.heap.size,0,none⟩ (.slice (some ⟨b,0,none⟩) n c)) B b c (turnL OS2 j) vs2):=HT3.out.setBox hF3.tb 0 _
  have hb4 : Below B w (w3.setCell ⟨w.heap.size,0,none⟩ (.slice (some ⟨b,0,none⟩) n c)):=hb3.setCell (by simpa using hB) _
  have s0:=hF4.t
  have s1:=hF4.o1
  have s3:=hF4.o3
  have hz4:=hF4.size
  obtain ⟨⟨rv4,hr4⟩,hr5⟩:=hF4.res
  have HR : Hid (actMove os ⟨k,j,nm,l,nm2,i,tx⟩ = (turnM OS2 j l,0)):=by show _ = _; rw [HV5.out,HK2.out]
  have hlt3 : Hid (n = (turnL OS2 j).length):=by show _ = _; rw [turnL_len]; exact hlen2.out
  by_cases hlj : l = j
  · have t5 : ((l : Int) != (j : Int)) = false:=by simpa using (show (l : Int) = j by omega)
    have HM : Hid (turnM OS2 j l = turnL OS2 j):=by show _ = _; simp [turnM,hlj]
    clear hlj
    go_wp2_with fail
    refine bodyPost_ret (v:=.tuple #[.agg #[.slice (some ⟨b,0,none⟩) n c],.int .i64 0]) (by rw [results,Tryz.results176]; simp [go_sem,World.cell?_setCell_same _ _ _ hr4]) rfl ?_
    rw [HR.out,HM.out]
    exact ⟨vs2,by rw [← hlt3.out],HT4.out.setBox hF4.r 0 _,hb4.setCell (by show B ≤ w.heap.size + 1 + 1; omega) _,(hk3.setNew (Nat.le_refl _) _ _).setNew (by omega) _ _⟩
  · have t5 : ((l : Int) != (j : Int)) = true:=by simp; omega
    have HM : Hid (turnM OS2 j l = turnL (turnL OS2 j) l):=by show _ = _; simp [turnM,hlj]
    obtain ⟨f2,hf2⟩ : ∃ f2,OS2[l]? = some f2:=⟨OS2[l]'(by have:=hlen2.out; omega),by simp⟩
    have HB5 : Hid (0 ≤ f2.ver ∧ f2.ver ≤ 1000000):=HB2.out f2 (List.mem_of_getElem? hf2)
    have HF2 : Hid ((turnL OS2 j)[l]? = some f2):=by show _ = _; rw [HT3e.out,List.getElem?_set_ne (Ne.symm hlj)]; exact hf2
    have HT5e : Hid (turnL (turnL OS2 j) l = (turnL OS2 j).set l { f2 with ver:=f2.ver + 1 }):=turnL_at HF2.out
    clear hlj hf2
    go_wp2_with fail
    refine (turn_any B b c l f2 (turnL OS2 j) vs2 n _ _ rfl hlt3.out HF2.out (by have:=HB5.out; omega) (by have:=HB5.out; omega) HT4.out).mono ?_
    rintro e w5 ⟨rfl,hT5,hg5⟩
    rw [← hlt3.out]
    have hF5:=hF4.grown hg5 (fun g hg=>.inl (by simp at hg; omega))
    have hb5 : Below B w w5:=below_grown hb4 hg5 (fun g hg=>by simp at hg; omega) (by omega)
    have HT5 : Hid (OwnT w5 B b c (turnL (turnL OS2 j) l) vs2):=by show OwnT _ _ _ _ _ _; rw [HT5e.out]; exact hT5
    have hk5 : Kt w w5 b n vs:=(hk3.setNew (Nat.le_refl _) _ _).turn (by simp; omega) hg5
    clear hT5 hg5 s0 s1 s3 hz4 hr4 hr5 q0 z0 hz3
    have q0:=hF5.t
    have z0:=hF5.tree
    have hz5:=hF5.size
    have hF6:=hF5.retree
    have HT6 : Hid (OwnT (w5.setCell ⟨w.heap.size,0,none⟩ (.slice (some ⟨b,0,none⟩) n c)) B b c (turnL (turnL OS2 j) l) vs2):=HT5.out.setBox hF5.tb 0 _
    have hb6 : Below B w (w5.setCell ⟨w.heap.size,0,none⟩ (.slice (some ⟨b,0,none⟩) n c)):=hb5.setCell (by simpa using hB) _
    have s0:=hF6.t
    have hz6:=hF6.size
    obtain ⟨⟨rv6,hr6⟩,hr7⟩:=hF6.res
    have hlt5 : Hid (n = (turnL (turnL OS2 j) l).length):=by show _ = _; rw [turnL_len]; exact hlt3.out
    go_wp2_with fail
    refine bodyPost_ret (v:=.tuple #[.agg #[.slice (some ⟨b,0,none⟩) n c],.int .i64 0]) (by rw [results,Tryz.results176]; simp [go_sem,World.cell?_setCell_same _ _ _ hr6]) rfl ?_
    rw [HR.out,HM.out]
    exact ⟨vs2,by rw [← hlt5.out],HT6.out.setBox hF6.r 0 _,hb6.setCell (by show B ≤ w.heap.size + 1 + 1; omega) _,(hk5.setNew (Nat.le_refl _) _ _).setNew (by omega) _ _⟩
end
section
open Go.RowKit
def actText (os : List LObj) (o : LOp) : List LObj × Int :=
  match os[o.id.toNat]? with
  | some x=>if x.kind ≠ 1 then (os,6) else (os.set o.id.toNat { x with text:=o.text,ver:=x.ver + 1 },0)
  | none=>(os,8)
def actDo (os : List LObj) (o : LOp) : List LObj × Int :=
  if wornB os (opIds o) = true then (os,8) else if o.kind = 1 ∨ o.kind = 2 then actNew os o else if o.kind = 3 then actGone os o else if o.kind = 4 then actMove os o else actText os o
theorem do_pass {w W w2 : World} {A B b c n : Nat} {o : LOp} {vs : Nat → Value} {r : List LObj × Int} {e : Ending} (hF : Fr A W b c n o) (hA : w.heap.size = A) (hb : Below w.heap.size w W) (hB : B ≤ w.heap.size) (hbA : b < A) (hvi : ∀ i g,i < n → (vs i).ownBlock = some g → g < A)
    (h : DoEnd W B b c n vs r e w2) : e = .returned (.tuple #[.agg #[.slice (some ⟨b,0,none⟩) r.1.length c],.int .i64 r.2]) ∧ Fr A w2 b c n o ∧
      ∀ v,DoEnd w B b c n vs r (.returned (.tuple #[.agg #[.slice (some ⟨b,0,none⟩) r.1.length c],.int .i64 r.2])) (w2.setCell ⟨A + 1 + 1,0,none⟩ v):=by
  obtain ⟨vs',rfl,hT,hb2,hk⟩:=h
  have hF2 : Fr A w2 b c n o:=hF.of_blocks hb2.size fun q h1 h2=>hk q (by have:=hF.size; omega) (by omega) fun i hi e=>by have:=hvi i q hi e; omega
  refine ⟨rfl,hF2,fun v=>⟨vs',rfl,hT.setBox hF2.r 0 v,((hb.mono hB).trans hb2).setCell (by show B ≤ A + 1 + 1; omega) _,Kt.setNew (fun q h1 h2 h3=>?_) (by omega) _ _⟩⟩
  rw [hk q (by have:=hb.size; omega) h2 h3]
  exact hb.block q h1
set_option maxHeartbeats 2000000 in
set_option maxRecDepth 20000 in
theorem do_any (B b c n : Nat) (o : LOp) (os : List LObj) (vs : Nat → Value) (w : World) (hok : opOk o = true) (hn : n = os.length) (h32 : 32 ≤ n) (hB : B ≤ w.heap.size) (hv : Bd os 1000000) (hs : OpSz o) (H : OwnT w B b c os vs) :
    Calls Tryz.prog 111 #[.agg #[.slice (some ⟨b,0,none⟩) n c],.agg o.val] w fun e w'=>DoEnd w B b c n vs (actDo os o) e w':=by
  have b1:=opOk_id hok
  have b2:=opOk_dir hok
  have b3:=opOk_dir2 hok
  obtain ⟨i,hi⟩ : ∃ i : Nat,o.id = i:=⟨o.id.toNat,by omega⟩
  obtain ⟨j,hj⟩ : ∃ j : Nat,o.dir = j:=⟨o.dir.toNat,by omega⟩
  obtain ⟨l,hl⟩ : ∃ l : Nat,o.dir2 = l:=⟨o.dir2.toNat,by omega⟩
  obtain ⟨x,hx⟩ : ∃ x,os[i]? = some x:=⟨os[i]'(by omega),by simp⟩
  have hkd : o.kind = 1 ∨ o.kind = 2 ∨ o.kind = 3 ∨ o.kind = 4 ∨ o.kind = 5:=by
    apply Classical.byContradiction
    intro h
    have:=(opOk_nokind h).1
    rw [this] at hok
    cases hok
  have HWO:=fun w hU hO=>worn_any (some ⟨b,0,none⟩) n c os B w.heap.size o w h32 hU hO hs.name hs.name2 hs.text
  have HNEW:=fun w hB H=>new_any B b c n i j o os vs w hi hj hn (by omega) (by omega) hB (fun x hx=>hv x hx) hs.name H
  have HGON:=fun w hB H=>gone_any B b c n i j o os vs w hi hj hn (by omega) (by omega) hB (fun x hx=>hv x hx) hs.name H
  have HMOV:=fun w hB H=>move_any B b c n i j l o os vs w hi hj hl hn (by omega) (by omega) (by omega) hB hv hs.name2 H
  have HV : Hid (actDo os o = if wornB os (opIds o) = true then (os,8) else if o.kind = 1 ∨ o.kind = 2 then actNew os o else if o.kind = 3 then actGone os o else if o.kind = 4 then actMove os o else actText os o):=rfl
  have HTX : Hid (actText os o = if x.kind ≠ 1 then (os,6) else (os.set i { x with text:=o.text,ver:=x.ver + 1 },0)):=by
    show _ = _
    unfold actText
    rw [hi,Int.toNat_natCast,hx]
  have HX : Hid (os[i]? = some x):=hx
  have HN : Hid (n = os.length):=hn
  have HOB : Hid (ObjsAt w B w.heap.size (some ⟨b,0,none⟩) n os):=by show ObjsAt _ _ _ _ _ _; rw [hn]; exact H.to_objs
  have hbA : b < w.heap.size:=H.lt
  have hBb : B ≤ b:=H.lo
  have HVI : Hid (∀ i g,i < n → (vs i).ownBlock = some g → g < w.heap.size):=fun q g hq hg=>((H.at_ q (os[q]'(by omega)) (by simp)).2.2.2.2.2.1.lt g hg).2
  have HVB:=hv x (List.mem_of_getElem? hx)
  have HOT : Hid (OwnT w B b c os vs):=H
  have HTS : Hid (o.text.size ≤ maxLen):=hs.text
  have hiI : (i : Int) < (n : Int):=by omega
  generalize hR : actDo os o = R at HV ⊢
  generalize hW : wornB os (opIds o) = Wn at HV HWO
  generalize hA1 : actNew os o = R1 at HV HNEW
  generalize hA2 : actGone os o = R2 at HV HGON
  generalize hA3 : actMove os o = R3 at HV HMOV
  generalize hA4 : actText os o = R4 at HV HTX
  obtain ⟨k,dd,nm,ll,nm2,ii,tx⟩:=o
  simp only [LOp.val] at *
  subst hi hj hl
  clear hR hW hA1 hA2 hA3 hA4 hv hn b1 b2 b3 hok hs hx H
  have HF0:=Fr.start w b c n ⟨k,j,nm,l,nm2,i,tx⟩ (.slice none 0 0)
  have hA : ∀ o1 o2 o3,Below w.heap.size w (((w.alloc o1).alloc o2).alloc o3):=fun o1 o2 o3=>(((Below.refl _ _).alloc (Nat.le_refl _) _).alloc (by simp) _).alloc (by simp; omega) _
  go_enter Tryz.func111,Tryz.ntmps111
  go_wp2_with fail
  refine (HWO _ (Nat.le_refl _) ((HOB.out.below (hA _ _ _) (Nat.le_refl _)).wide (Nat.le_refl _) (hA _ _ _).size)).mono ?_
  rintro e W ⟨rfl,hb1⟩
  have HF:=HF0.next hb1
  have hbW : Below w.heap.size w W:=(hA _ _ _).trans (hb1.mono (by simp; omega))
  have HT : Hid (OwnT W B b c os vs):=HOT.out.below hbW
  have hBW : B ≤ W.heap.size:=Nat.le_trans hB hbW.size
  clear HF0 hb1 hA HWO
  obtain ⟨⟨rv,hr0⟩,hr1⟩:=HF.res
  have q0:=HF.t
  have hzW:=HF.size
  cases Wn
  case true =>
    have HV1 : Hid (R = (os,8)):=by show _ = _; rw [HV.out]; simp
    clear HV HNEW HGON HMOV hkd
    go_wp2_with fail
    exact bodyPost_ret (v:=.tuple #[.agg #[.slice (some ⟨b,0,none⟩) n c],.int .i64 8]) (by rw [results,Tryz.results111]; simp [go_sem,World.cell?_setCell_same _ _ _ hr0]) rfl (do_same HV1.out HF rfl hB HT.out hbW HN.out _)
  obtain ⟨o0,o1,o2,o3,o4,o5,o6⟩:=(⟨HF.o0,HF.o1,HF.o2,HF.o3,HF.o4,HF.o5,HF.o6⟩ : _ ∧ _ ∧ _ ∧ _ ∧ _ ∧ _ ∧ _)
  rcases hkd with rfl | rfl | rfl | rfl | rfl
  · have HR : Hid (R = R1):=by show _ = _; rw [HV.out]; simp
    clear HV HGON HMOV
    go_wp2_with fail
    refine (HNEW _ hBW HT.out).mono ?_
    rintro e w2 hd
    obtain ⟨rfl,hF2,hend⟩:=do_pass HF rfl hbW hB hbA HVI.out hd
    obtain ⟨⟨rv2,hr2⟩,hr3⟩:=hF2.res
    have hz2:=hF2.size
    clear hd HF HT hr0 hr1 q0 hzW o0 o1 o2 o3 o4 o5 o6
    go_wp2_with fail
    refine bodyPost_ret (v:=.tuple #[.agg #[.slice (some ⟨b,0,none⟩) R1.1.length c],.int .i64 R1.2]) (by rw [results,Tryz.results111]; simp [go_sem,World.cell?_setCell_same _ _ _ hr2]) rfl ?_
    rw [HR.out]
    exact hend _
  · have HR : Hid (R = R1):=by show _ = _; rw [HV.out]; simp
    clear HV HGON HMOV
    go_wp2_with fail
    refine (HNEW _ hBW HT.out).mono ?_
    rintro e w2 hd
    obtain ⟨rfl,hF2,hend⟩:=do_pass HF rfl hbW hB hbA HVI.out hd
    obtain ⟨⟨rv2,hr2⟩,hr3⟩:=hF2.res
    have hz2:=hF2.size
    clear hd HF HT hr0 hr1 q0 hzW o0 o1 o2 o3 o4 o5 o6
    go_wp2_with fail
    refine bodyPost_ret (v:=.tuple #[.agg #[.slice (some ⟨b,0,none⟩) R1.1.length c],.int .i64 R1.2]) (by rw [results,Tryz.results111]; simp [go_sem,World.cell?_setCell_same _ _ _ hr2]) rfl ?_
    rw [HR.out]
    exact hend _
  · have HR : Hid (R = R2):=by show _ = _; rw [HV.out]; simp
    clear HV HNEW HMOV
    go_wp2_with fail
    refine (HGON _ hBW HT.out).mono ?_
    rintro e w2 hd
    obtain ⟨rfl,hF2,hend⟩:=do_pass HF rfl hbW hB hbA HVI.out hd
    obtain ⟨⟨rv2,hr2⟩,hr3⟩:=hF2.res
    have hz2:=hF2.size
    clear hd HF HT hr0 hr1 q0 hzW o0 o1 o2 o3 o4 o5 o6
    go_wp2_with fail
    refine bodyPost_ret (v:=.tuple #[.agg #[.slice (some ⟨b,0,none⟩) R2.1.length c],.int .i64 R2.2]) (by rw [results,Tryz.results111]; simp [go_sem,World.cell?_setCell_same _ _ _ hr2]) rfl ?_
    rw [HR.out]
    exact hend _
  · have HR : Hid (R = R3):=by show _ = _; rw [HV.out]; simp
    clear HV HNEW HGON
    go_wp2_with fail
    refine (HMOV _ hBW HT.out).mono ?_
    rintro e w2 hd
    obtain ⟨rfl,hF2,hend⟩:=do_pass HF rfl hbW hB hbA HVI.out hd
    obtain ⟨⟨rv2,hr2⟩,hr3⟩:=hF2.res
    have hz2:=hF2.size
    clear hd HF HT hr0 hr1 q0 hzW o0 o1 o2 o3 o4 o5 o6
    go_wp2_with fail
    refine bodyPost_ret (v:=.tuple #[.agg #[.slice (some ⟨b,0,none⟩) R3.1.length c],.int .i64 R3.2]) (by rw [results,Tryz.results111]; simp [go_sem,World.cell?_setCell_same _ _ _ hr2]) rfl ?_
    rw [HR.out]
    exact hend _
  · have HR : Hid (R = R4):=by show _ = _; rw [HV.out]; simp
    clear HV HNEW HGON HMOV
    obtain ⟨x1,x2,x3,x4,x5,x6,x7⟩:=HT.out.at_ i x HX.out
    have hbl:=HT.out.lt
    by_cases hk1 : x.kind = 1
    case neg =>
      have t1 : (x.kind != 1) = true:=by simpa using hk1
      have HV1 : Hid (R = (os,6)):=by show _ = _; rw [HR.out,HTX.out,if_pos hk1]
      clear hk1 HR HTX x1 x3 x4 x5 x6 x7
      go_wp2_with fail
      exact bodyPost_ret (v:=.tuple #[.agg #[.slice (some ⟨b,0,none⟩) n c],.int .i64 6]) (by rw [results,Tryz.results111]; simp [go_sem,World.cell?_setCell_same _ _ _ hr0]) rfl (do_same HV1.out HF rfl hB HT.out hbW HN.out _)
    have t1 : (x.kind != 1) = false:=by simpa using hk1
    have HV1 : Hid (R = (os.set i { x with text:=tx,ver:=x.ver + 1 },0)):=by show _ = _; rw [HR.out,HTX.out,if_neg (by simpa using hk1)]
    have z2:=HT.out.frozen (i * 4 + 2)
    have HT1 : Hid (OwnT (W.setCell ⟨b,i * 4 + 2,none⟩ (.string tx)) B b c (os.set i { x with text:=tx }) vs):=HT.out.setText HX.out tx HTS.out
    have HF1:=HF.set hbA (i * 4 + 2) (.string tx)
    have hi1 : Hid ((os.set i { x with text:=tx })[i]? = some { x with text:=tx }):=List.getElem?_set_self (by have:=HN.out; omega)
    have hl1 : Hid (n = (os.set i { x with text:=tx }).length):=by show _ = _; simpa using HN.out
    have p0:=HF1.t
    have p5:=HF1.o5
    have hb1 : Below B w (W.setCell ⟨b,i * 4 + 2,none⟩ (.string tx)):=(hbW.mono hB).setCell (by simpa using hBb) _
    have hk1 : Kt w (W.setCell ⟨b,i * 4 + 2,none⟩ (.string tx)) b n vs:=(Kt.of_below hbW _ _ _).set _ _
    have hz1:=HF1.size
    clear HR HTX x1 x3 x5 x6 x7
    go_wp2_with fail
    refine (turn_any B b c i { x with text:=tx } _ vs n _ _ rfl hl1.out hi1.out (by simp; omega) (by simp; omega) HT1.out).mono ?_
    rintro e w3 ⟨rfl,hT3,hg3⟩
    rw [← hl1.out]
    have hF3:=HF1.grown hg3 (fun g hg=>.inl (by simp at hg; omega))
    have hb3 : Below B w w3:=below_grown hb1 hg3 (fun g hg=>by simp at hg; omega) (by omega)
    have hk3 : Kt w w3 b n vs:=hk1.turn (by omega) hg3
    obtain ⟨⟨rv3,hr3⟩,hr4⟩:=hF3.res
    have hz3:=hF3.size
    have HT3 : Hid (OwnT w3 B b c (os.set i { x with text:=tx,ver:=x.ver + 1 }) vs):=by
      show OwnT _ _ _ _ _ _
      rw [List.set_set] at hT3
      exact hT3
    clear hT3 hg3 p0 p5 hz1 HF1 HT1 hk1 hb1
    go_wp2_with fail
    refine bodyPost_ret (v:=.tuple #[.agg #[.slice (some ⟨b,0,none⟩) n c],.int .i64 0]) (by rw [results,Tryz.results111]; simp [go_sem,World.cell?_setCell_same _ _ _ hr3]) rfl ?_
    rw [HV1.out]
    exact ⟨vs,by simp [HN.out],HT3.out.setBox hF3.r 0 _,hb3.setCell (by show B ≤ w.heap.size + 1 + 1; omega) _,hk3.setNew (by omega) _ _⟩
end
end Go.Proofs.YtloopeipheklpaaGreatDoor
