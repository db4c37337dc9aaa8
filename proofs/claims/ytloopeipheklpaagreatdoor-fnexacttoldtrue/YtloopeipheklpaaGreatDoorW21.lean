/- Lemmas that the proofs of this seat share: DeedC, TrialC, TrialD, SlimM, MarkO, MarkP, KB, MarkW. -/
import Derived.Test.YtloopeipheklpaaGreatDoorW01
import Derived.Test.YtloopeipheklpaaGreatDoorW20
import Derived.Test.YtloopeipheklpaaGreatDoorW08
import Derived.Test.YtloopeipheklpaaGreatDoorW09
import Derived.Deep.RegionWith
import Derived.RowKitTokens
import Derived.Test.YtloopeipheklpaaGreatDoorW07
import Derived.Test.YtloopeipheklpaaGreatDoorW10
import Derived.Test.YtloopeipheklpaaGreatDoorW04
import Derived.Test.YtloopeipheklpaaGreatDoorW03
import Derived.Test.YtloopeipheklpaaGreatDoorW15
import Derived.Test.YtloopeipheklpaaGreatDoorW17
namespace Go.Proofs.YtloopeipheklpaaGreatDoor
section
open Go.RowKit
theorem move_one {os : List LObj} {j : Nat} {d : LObj} (hd : os[j]? = some d) {fo fp : List LEnt → List LEnt} : turnM (kidsL (kidsL os j fo) j fp) j j = os.set j { d with kids:=fp (fo d.kids),ver:=d.ver + 1 }:=by
  have hl:=(List.getElem?_eq_some_iff.1 hd).1
  rw [kidsL_at hd,kidsL_at (o:={ d with kids:=fo d.kids }) (List.getElem?_set_self hl)]
  unfold turnM
  rw [if_pos rfl,turnL_at (o:={ d with kids:=fp (fo d.kids) }) (List.getElem?_set_self (by simpa using hl))]
  simp [List.set_set]
theorem move_two {os : List LObj} {j l : Nat} {d d2 : LObj} (hd : os[j]? = some d) (hd2 : os[l]? = some d2) (hne : ¬ l = j) {fo fp : List LEnt → List LEnt} : turnM (kidsL (kidsL os j fo) l fp) j l = (os.set j { d with kids:=fo d.kids,ver:=d.ver + 1 }).set l { d2 with kids:=fp d2.kids,ver:=d2.ver + 1 }:=by
  have hj:=(List.getElem?_eq_some_iff.1 hd).1
  have hl:=(List.getElem?_eq_some_iff.1 hd2).1
  rw [kidsL_at hd,kidsL_at (o:=d2) (by rw [List.getElem?_set_ne (Ne.symm hne)]; exact hd2)]
  unfold turnM
  have e1 : turnL ((os.set j { d with kids:=fo d.kids }).set l { d2 with kids:=fp d2.kids }) j = ((os.set j { d with kids:=fo d.kids }).set l { d2 with kids:=fp d2.kids }).set j { d with kids:=fo d.kids,ver:=d.ver + 1 } :=
    turnL_at (o:={ d with kids:=fo d.kids }) (by rw [List.getElem?_set_ne hne]; exact List.getElem?_set_self hj)
  rw [if_neg hne,e1,turnL_at (o:={ d2 with kids:=fp d2.kids }) (by rw [List.getElem?_set_ne (Ne.symm hne)]; exact List.getElem?_set_self (by simpa using hl))]
  apply List.ext_getElem?
  intro k
  by_cases h1 : k = l
  · subst h1; simp [hl]
  · by_cases h2 : k = j
    · subst h2; simp [hj,Ne.symm h1]
    · simp [Ne.symm h1,Ne.symm h2]
set_option maxHeartbeats 4000000 in
set_option maxRecDepth 20000 in
theorem moving_do (a : Nat → Addr) (U B b c n : Nat) (o : LOp) (os : List LObj) (vs : Nat → Value) (w : World) (hU : U ≤ B) (HS : Sents w U a) (hB : B ≤ w.heap.size) (hs : specOk os = true) (hn : n = 32) (hok : opOk o = true) (hz : OpSz o) (H : OwnT w B b c os vs) :
    Calls Tryz.prog 298 #[.agg #[.int .i64 o.kind,.int .i64 o.dir,.string o.name,.int .i64 o.dir2,.string o.name2,.int .i64 o.id,.string o.text],.agg #[.slice (some ⟨b,0,none⟩) n c]] w fun e w'=>DeedEnd w a B b c n vs (actMove os o) e w':=by
  have hlen:=ok_len hs
  have b1:=opOk_id hok
  have b2:=opOk_dir hok
  have b3:=opOk_dir2 hok
  have hbl:=H.lt
  obtain ⟨i,hi⟩ : ∃ i : Nat,o.id = i:=⟨o.id.toNat,by omega⟩
  obtain ⟨j,hj⟩ : ∃ j : Nat,o.dir = j:=⟨o.dir.toNat,by omega⟩
  obtain ⟨d,hd⟩ : ∃ d,os[j]? = some d:=⟨os[j]'(by omega),by simp⟩
  have HD : Hid (os[j]? = some d):=hd
  obtain ⟨l,hl⟩ : ∃ l : Nat,o.dir2 = l:=⟨o.dir2.toNat,by omega⟩
  obtain ⟨d2,hd2⟩ : ∃ d2,os[l]? = some d2:=⟨os[l]'(by omega),by simp⟩
  have HD2 : Hid (os[l]? = some d2):=hd2
  have hA : Below w.heap.size w ((w.alloc (Obj.cells #[.int .i64 o.kind,.int .i64 o.dir,.string o.name,.int .i64 o.dir2,.string o.name2,.int .i64 o.id,.string o.text] 302)).alloc (Obj.cells #[.slice (some ⟨b,0,none⟩) n c] 235)):=((Below.refl _ _).alloc (Nat.le_refl _) _).alloc (by simp) _
  have hD0 : DBox ((w.alloc (Obj.cells #[.int .i64 o.kind,.int .i64 o.dir,.string o.name,.int .i64 o.dir2,.string o.name2,.int .i64 o.id,.string o.text] 302)).alloc (Obj.cells #[.slice (some ⟨b,0,none⟩) n c] 235)) w.heap.size b n c o:=⟨by simp [go_sem],by simp [go_sem],by simp [go_sem],by simp [go_sem],by simp [go_sem],by simp [go_sem],by simp [go_sem],by simp [go_sem],by simp⟩
  have HACT : Hid (actMove os o = if d.kind ≠ 2 ∨ d2.kind ≠ 2 then (os,1) else if findV d.kids o.name ≠ o.id then (os,2) else if 0 ≤ findV d2.kids o.name2 then (os,3) else if under os o.id 33 o.dir2 = true then (os,5) else (turnM (kidsL (kidsL os j (outL o.name)) l (putL ⟨o.name2,o.id⟩)) j l,0)):=by
    show _ = _
    unfold actMove
    rw [hj,hl,Int.toNat_natCast,Int.toNat_natCast,hd,hd2]
  have HIJ : Hid (o.id = i ∧ o.dir = j ∧ o.dir2 = l):=⟨hi,hj,hl⟩
  have hcd:=H.at_ j d hd
  have hcd2:=H.at_ l d2 hd2
  obtain ⟨ka,kc,hvd,hEd⟩:=hcd.2.2.2.2.2.1.at_ hcd.2.2.2.2.2.2
  obtain ⟨la,lc,hvd2,hEd2⟩:=hcd2.2.2.2.2.2.1.at_ hcd2.2.2.2.2.2.2
  have hc3 : w.cell? ⟨b,j * 4 + 3,none⟩ = some (.slice ka d.kids.length kc):=by rw [hcd.2.2.2.2.1,hvd]
  have hc4 : w.cell? ⟨b,l * 4 + 3,none⟩ = some (.slice la d2.kids.length lc):=by rw [hcd2.2.2.2.2.1,hvd2]
  have hkb : d.kids.length ≤ 32:=ok_kids hs hd
  have hkb2 : d2.kids.length ≤ 32:=ok_kids hs hd2
  have hasc:=ok_asc hs hd
  have hasc2:=ok_asc hs hd2
  have hver:=ok_ver hs hd
  have hver2:=ok_ver hs hd2
  have HFV : Hid ((findV d.kids o.name = -1 ∧ ∀ e ∈ d.kids,e.name ≠ o.name) ∨ ∃ (k : Nat) (e : LEnt),d.kids[k]? = some e ∧ e.name = o.name ∧ findV d.kids o.name = e.id):=findV_or d.kids o.name
  have HFV2 : Hid ((findV d2.kids o.name2 != -1) = decide (0 ≤ findV d2.kids o.name2)):=findV_neg hs hd2 o.name2
  have HUV : Hid (d2.kind = 2 → underV os (l : Int) (i : Int) = under os (i : Int) 33 (l : Int)):=fun hk=>by
    have hh : hasB os (l : Int) = true:=by
      rw [has_iff]
      refine ⟨by omega,by omega,?_⟩
      rw [Int.toNat_natCast,kindOf_at hd2,hk]; decide
    unfold underV
    rw [hs,hh]; rfl
  have HV : Hid (∀ q g,q < n → (vs q).ownBlock = some g → g < w.heap.size):=fun q g hq hg=>H.vlt (by omega) q g hq hg
  have hjn : j < n:=by omega
  have hln : l < n:=by omega
  have HI1 : Hid (1 ≤ i):=by show 1 ≤ i; omega
  have HSE : Hid (Sents w U a):=HS
  have HOT : Hid (OwnT w B b c os vs):=H
  have HEd : Hid (EntsAt w B w.heap.size ka d.kids.length d.kids):=hEd
  have HEd2 : Hid (EntsAt w B w.heap.size la d2.kids.length d2.kids):=hEd2
  have HOA : Hid (ObjsAt w B w.heap.size (some ⟨b,0,none⟩) n os):=by show ObjsAt _ _ _ _ _ _; rw [hn,← hlen]; exact H.to_objs
  obtain ⟨W0,hW0⟩ : ∃ W0 : World,W0 = ((w.alloc (Obj.cells #[.int .i64 o.kind,.int .i64 o.dir,.string o.name,.int .i64 o.dir2,.string o.name2,.int .i64 o.id,.string o.text] 302)).alloc (Obj.cells #[.slice (some ⟨b,0,none⟩) n c] 235)):=⟨_,rfl⟩
  rw [← hW0] at hA hD0
  have HN : Hid (n = 32 ∧ os.length = 32):=⟨hn,hlen⟩
  have hname2:=hz.name2
  have hUw : U ≤ w.heap.size:=by omega
  have hz0:=hD0.sz
  have e1:=hD0.k1
  have e2:=hD0.k2
  have e3:=hD0.k3
  have e4:=hD0.k4
  have e5:=hD0.k5
  have e7:=hD0.tr
  rw [HIJ.out.1] at e5
  rw [HIJ.out.2.1] at e1
  rw [HIJ.out.2.2] at e3
  clear hi hj hl hn hlen HS H hd hd2 hEd hEd2 hvd hvd2 b1 b2 b3 hs hok hz
  go_enter Tryz.func298,Tryz.ntmps298
  go_upto_region 1 with fail
  rw [← hW0]
  clear hW0
  go_wp2_with fail
  refine (isDir_t b c n j d.kind _ hjn (by have:=hA.size; omega) (by rw [hA.cell (by simpa using hbl)]; exact hcd.2.1)).mono ?_
  rintro z w1 ⟨rfl,hb1⟩
  have h1:=hD0.next hb1
  have hB1 : Below w.heap.size w w1:=hA.trans (hb1.mono hA.size)
  clear hb1 hA hD0 e1 e2 e3 e4 e5 e7
  have e1:=h1.k1
  have e2:=h1.k2
  have e3:=h1.k3
  have e4:=h1.k4
  have e5:=h1.k5
  have e7:=h1.tr
  rw [HIJ.out.1] at e5
  rw [HIJ.out.2.1] at e1
  rw [HIJ.out.2.2] at e3
  rcases t1 : (d.kind == 2) with _ | _
  · have s1 : w1.cell? ⟨1,0,none⟩ = some (.iface 323 (.pointer (some (a 1)))):=(HSE.out.below hB1 hUw).cell 1 (by omega)
    have hne : Hid (d.kind ≠ 2):=by show _ ≠ _; simpa using t1
    go_wp2_with fail
    go_ret
    exact DeedEnd.no 1 (by omega) (by rw [HACT.out,if_pos (by have:=hne.out; omega)]; rfl) HOT.out hB hB1 rfl
  have HK2 : Hid (d.kind = 2):=by show _ = _; simpa using t1
  have hz1:=h1.sz
  go_wp2_with fail
  refine (isDir_t b c n l d2.kind _ hln (by have:=hB1.size; omega) (by rw [hB1.cell (by simpa using hbl)]; exact hcd2.2.1)).mono ?_
  rintro z w1b ⟨rfl,hb1⟩
  have h1b:=h1.next hb1
  have hB1b : Below w.heap.size w w1b:=hB1.trans (hb1.mono hB1.size)
  clear hb1 hB1 h1 e1 e2 e3 e4 e5 e7
  have e1:=h1b.k1
  have e2:=h1b.k2
  have e3:=h1b.k3
  have e4:=h1b.k4
  have e5:=h1b.k5
  have e7:=h1b.tr
  rw [HIJ.out.1] at e5
  rw [HIJ.out.2.1] at e1
  rw [HIJ.out.2.2] at e3
  rcases t1b : (d2.kind == 2) with _ | _
  · have s1 : w1b.cell? ⟨1,0,none⟩ = some (.iface 323 (.pointer (some (a 1)))):=(HSE.out.below hB1b hUw).cell 1 (by omega)
    have hne : Hid (d2.kind ≠ 2):=by show _ ≠ _; simpa using t1b
    go_wp2_with fail
    go_ret
    exact DeedEnd.no 1 (by omega) (by rw [HACT.out,if_pos (by have:=hne.out; omega)]; rfl) HOT.out hB hB1b rfl
  have HK22 : Hid (d2.kind = 2):=by show _ = _; simpa using t1b
  have h1:=h1b
  have hB1:=hB1b
  clear h1b hB1b
  have hz1:=h1.sz
  go_upto_region 3 with fail
  go_cut [21] (fun v wx=>v = .bool (findV d.kids o.name != (i : Int)) ∧ DBox wx w.heap.size b n c o ∧ Below w.heap.size w wx)
  case first =>
    refine wp_region_held_drew (S:=(fun W=>DBox W w.heap.size b n c o)) (by kernel_rfl) ?_ (fun hHeld=>?_)
    · exact h1.next (Below.refl _ _).drew
    refine listH (l2:=#[false,false,false,false,false,false,false,false,false,false,false,false,false]) (by kernel_rfl) ?_
    refine takeH (i:=0) (oi:=_) (v:=?vt3x0) 22 #[true,false,false,false,false,false,false,false,false,false,false,false,false] rfl (by kernel_rfl) (by kernel_rfl) (by kernel_rfl) rfl (by kernel_rfl) (fun _ _ _ h=>h) (Or.inl ⟨by rfl,?yt3x0⟩) (by assumption) ?rt3x0
    case yt3x0=>(intro w' hSw; (try dsimp only at hSw); have x1:=hSw.k1; rw [HIJ.out.2.1] at x1; have x2:=hSw.k2; have x5:=hSw.k5; rw [HIJ.out.1] at x5; have x7:=hSw.tr; go_simp; try with_reducible rfl)
    simp only [Act.put,sT,sS,sZ]
    refine takeH (i:=1) (oi:=_) (v:=?vt3x1) 23 #[true,true,false,false,false,false,false,false,false,false,false,false,false] rfl (by kernel_rfl) (by kernel_rfl) (by kernel_rfl) rfl (by kernel_rfl) (fun _ _ _ h=>h) (Or.inl ⟨by rfl,?yt3x1⟩) (by assumption) ?rt3x1
    case yt3x1=>(intro w' hSw; (try dsimp only at hSw); have x1:=hSw.k1; rw [HIJ.out.2.1] at x1; have x2:=hSw.k2; have x5:=hSw.k5; rw [HIJ.out.1] at x5; have x7:=hSw.tr; go_simp; try with_reducible rfl)
    simp only [Act.put,sT,sS,sZ]
    refine takeH (i:=2) (oi:=_) (v:=?vt3x2) 24 #[true,true,true,false,false,false,false,false,false,false,false,false,false] rfl (by kernel_rfl) (by kernel_rfl) (by kernel_rfl) rfl (by kernel_rfl) (fun _ _ _ h=>h) (Or.inl ⟨by rfl,?yt3x2⟩) (by assumption) ?rt3x2
    case yt3x2=>(intro w' hSw; (try dsimp only at hSw); have x1:=hSw.k1; rw [HIJ.out.2.1] at x1; have x2:=hSw.k2; have x5:=hSw.k5; rw [HIJ.out.1] at x5; have x7:=hSw.tr; go_simp; try with_reducible rfl)
    simp only [Act.put,sT,sS,sZ]
    refine takeH (i:=3) (oi:=_) (v:=?vt3x3) 25 #[true,true,true,true,false,false,false,false,false,false,false,false,false] rfl (by kernel_rfl) (by kernel_rfl) (by kernel_rfl) rfl (by kernel_rfl) (fun _ _ _ h=>h) (Or.inl ⟨by rfl,?yt3x3⟩) (by assumption) ?rt3x3
    case yt3x3=>(intro w' hSw; (try dsimp only at hSw); have x1:=hSw.k1; rw [HIJ.out.2.1] at x1; have x2:=hSw.k2; have x5:=hSw.k5; rw [HIJ.out.1] at x5; have x7:=hSw.tr; go_simp; try with_reducible rfl)
    simp only [Act.put,sT,sS,sZ]
    refine takeH (i:=4) (oi:=_) (v:=?vt3x4) 26 #[true,true,true,true,true,false,false,false,false,false,false,false,false] rfl (by kernel_rfl) (by kernel_rfl) (by kernel_rfl) rfl (by kernel_rfl) (fun _ _ _ h=>h) (Or.inl ⟨by rfl,?yt3x4⟩) (by assumption) ?rt3x4
    case yt3x4=>(intro w' hSw; (try dsimp only at hSw); have x1:=hSw.k1; rw [HIJ.out.2.1] at x1; have x2:=hSw.k2; have x5:=hSw.k5; rw [HIJ.out.1] at x5; have x7:=hSw.tr; go_simp; try with_reducible rfl)
    simp only [Act.put,sT,sS,sZ]
    refine takeH (i:=5) (oi:=_) (v:=?vt3x5) 27 #[true,true,true,true,true,true,false,false,false,false,false,false,false] rfl (by kernel_rfl) (by kernel_rfl) (by kernel_rfl) rfl (by kernel_rfl) (fun _ _ _ h=>h) (Or.inl ⟨by rfl,?yt3x5⟩) (by assumption) ?rt3x5
    case yt3x5=>(intro w' hSw; (try dsimp only at hSw); have x1:=hSw.k1; rw [HIJ.out.2.1] at x1; have x2:=hSw.k2; have x5:=hSw.k5; rw [HIJ.out.1] at x5; have x7:=hSw.tr; go_simp; try with_reducible rfl)
    simp only [Act.put,sT,sS,sZ]
    refine takeH (i:=6) (oi:=_) (v:=?vt3x6) 28 #[true,true,true,true,true,true,true,false,false,false,false,false,false] rfl (by kernel_rfl) (by kernel_rfl) (by kernel_rfl) rfl (by kernel_rfl) (fun _ _ _ h=>h) (Or.inl ⟨by rfl,?yt3x6⟩) (by assumption) ?rt3x6
    case yt3x6=>(intro w' hSw; (try dsimp only at hSw); have x1:=hSw.k1; rw [HIJ.out.2.1] at x1; have x2:=hSw.k2; have x5:=hSw.k5; rw [HIJ.out.1] at x5; have x7:=hSw.tr; go_simp; try with_reducible rfl)
    simp only [Act.put,sT,sS,sZ]
    refine takeH (i:=8) (oi:=_) (v:=?vt3x8) 30 #[true,true,true,true,true,true,true,false,true,false,false,false,false] rfl (by kernel_rfl) (by kernel_rfl) (by kernel_rfl) rfl (by kernel_rfl) (fun _ _ _ h=>h) (Or.inl ⟨by rfl,?yt3x8⟩) (by assumption) ?rt3x8
    case yt3x8=>(intro w' hSw; (try dsimp only at hSw); have x1:=hSw.k1; rw [HIJ.out.2.1] at x1; have x2:=hSw.k2; have x5:=hSw.k5; rw [HIJ.out.1] at x5; have x7:=hSw.tr; go_simp; try with_reducible rfl)
    simp only [Act.put,sT,sS,sZ]
    refine takeH (i:=9) (oi:=_) (v:=?vt3x9) 31 #[true,true,true,true,true,true,true,false,true,true,false,false,false] rfl (by kernel_rfl) (by kernel_rfl) (by kernel_rfl) rfl (by kernel_rfl) (fun _ _ _ h=>h) (Or.inl ⟨by rfl,?yt3x9⟩) (by assumption) ?rt3x9
    case yt3x9=>(intro w' hSw; (try dsimp only at hSw); have x1:=hSw.k1; rw [HIJ.out.2.1] at x1; have x2:=hSw.k2; have x5:=hSw.k5; rw [HIJ.out.1] at x5; have x7:=hSw.tr; go_simp; try with_reducible rfl)
    simp only [Act.put,sT,sS,sZ]
    refine takeH (i:=10) (oi:=_) (v:=?vt3x10) 32 #[true,true,true,true,true,true,true,false,true,true,true,false,false] rfl (by kernel_rfl) (by kernel_rfl) (by kernel_rfl) rfl (by kernel_rfl) (fun _ _ _ h=>h) (Or.inl ⟨by rfl,?yt3x10⟩) (by assumption) ?rt3x10
    case yt3x10=>(intro w' hSw; (try dsimp only at hSw); have x1:=hSw.k1; rw [HIJ.out.2.1] at x1; have x2:=hSw.k2; have x5:=hSw.k5; rw [HIJ.out.1] at x5; have x7:=hSw.tr; go_simp; try with_reducible rfl)
    simp only [Act.put,sT,sS,sZ]
    refine wpAnyH_ready (rs:=[7]) (by kernel_rfl) (by simp) ?_
    refine AllReadyH.cons (o:=_) rfl (fun K hK=>?_) AllReadyH.nil
    go_simp
    refine (find_t b c n j ka d.kids.length kc d.kids B w.heap.size o.name _ hjn (by have:=hB1.size; simp; omega) (by rw [World.cell?_drew,hB1.cell (by simpa using hbl)]; exact hc3) (by omega) hasc (by have:=hB1.size; simpa using this) (HEd.out.below (hB1.trans ((Below.refl _ _).drew.mono hB1.size)) (Nat.le_refl _))).mono ?_
    rintro z w2 ⟨rfl,hb2⟩
    have h2:=(h1.next (Below.refl _ _).drew).next hb2
    go_wp2_with fail
    refine hK.out _ _ ?_ (fun hHeld=>?_)
    · exact h2
    clear hK K
    try simp only [Act.put]
    refine listH (l2:=#[true,true,true,true,true,true,true,true,true,true,true,false,false]) (by kernel_rfl) ?_
    refine takeH (i:=11) (oi:=_) (v:=?vt3x11) 33 #[true,true,true,true,true,true,true,true,true,true,true,true,false] rfl (by kernel_rfl) (by kernel_rfl) (by kernel_rfl) rfl (by kernel_rfl) (fun _ _ _ h=>h) (Or.inl ⟨by rfl,?yt3x11⟩) (by assumption) ?rt3x11
    case yt3x11=>(intro w' hSw; (try dsimp only at hSw); have x1:=hSw.k1; rw [HIJ.out.2.1] at x1; have x2:=hSw.k2; have x5:=hSw.k5; rw [HIJ.out.1] at x5; have x7:=hSw.tr; go_simp; try with_reducible rfl)
    simp only [Act.put,sT,sS,sZ]
    refine wpAnyH_ready (rs:=[12]) (by kernel_rfl) (by simp) ?_
    refine AllReadyH.cons (o:=_) rfl (fun K hK=>?_) AllReadyH.nil
    go_simp
    refine hK.out _ _ ?_ (fun hHeld=>?_)
    · exact h2
    clear hK K
    try simp only [Act.put]
    refine listH (l2:=#[true,true,true,true,true,true,true,true,true,true,true,true,true]) (by kernel_rfl) ?_
    refine wpAnyH_done (by kernel_rfl) ?_ _
    go_wp2_with fail
    go_meet
    exact ⟨rfl,h2,hB1.trans (((Below.refl _ _).drew.mono hB1.size).trans (hb2.mono hB1.size))⟩
  obtain ⟨rfl,h3,hB3⟩:=hcut
  clear h1 hB1 e1 e2 e3 e4 e5 e7
  have e1:=h3.k1
  have e2:=h3.k2
  have e3:=h3.k3
  have e4:=h3.k4
  have e5:=h3.k5
  have e7:=h3.tr
  rw [HIJ.out.1] at e5
  rw [HIJ.out.2.1] at e1
  rw [HIJ.out.2.2] at e3
  rcases t2 : (findV d.kids o.name != (i : Int)) with _ | _
  case true =>
    have s2 : wc.cell? ⟨2,0,none⟩ = some (.iface 323 (.pointer (some (a 2)))):=(HSE.out.below hB3 hUw).cell 2 (by omega)
    have hf : Hid (findV d.kids o.name ≠ o.id):=by show _ ≠ _; rw [HIJ.out.1]; simpa using t2
    go_wp2_with fail
    go_ret
    exact DeedEnd.no 2 (by omega) (by rw [HACT.out,if_neg (by rw [HK2.out,HK22.out]; simp),if_pos hf.out]; rfl) HOT.out hB hB3 rfl
  have hf : Hid (findV d.kids o.name = o.id):=by show _ = _; rw [HIJ.out.1]; simpa using t2
  have hz3:=h3.sz
  go_wp2_with fail
  refine (find_t b c n l la d2.kids.length lc d2.kids B w.heap.size o.name2 _ hln (by have:=hB3.size; omega) (by rw [hB3.cell (by simpa using hbl)]; exact hc4) (by omega) hasc2 hB3.size (HEd2.out.below hB3 (Nat.le_refl _))).mono ?_
  rintro z w2 ⟨rfl,hb2⟩
  have h2:=h3.next hb2
  have hB2 : Below w.heap.size w w2:=hB3.trans (hb2.mono hB3.size)
  clear hb2 hB3 h3 e1 e2 e3 e4 e5 e7
  have e1:=h2.k1
  have e2:=h2.k2
  have e3:=h2.k3
  have e4:=h2.k4
  have e5:=h2.k5
  have e7:=h2.tr
  rw [HIJ.out.1] at e5
  rw [HIJ.out.2.1] at e1
  rw [HIJ.out.2.2] at e3
  rcases f0 : decide (0 ≤ findV d2.kids o.name2) with _ | _
  case true =>
    have t3 : (findV d2.kids o.name2 != -1) = true:=by rw [HFV2.out]; exact f0
    have s3 : w2.cell? ⟨3,0,none⟩ = some (.iface 323 (.pointer (some (a 3)))):=(HSE.out.below hB2 hUw).cell 3 (by omega)
    have hf2 : Hid (0 ≤ findV d2.kids o.name2):=by show _ ≤ _; simpa using f0
    clear f0
    go_wp2_with fail
    go_ret
    exact DeedEnd.no 3 (by omega) (by rw [HACT.out,if_neg (by rw [HK2.out,HK22.out]; simp),if_neg (by rw [hf.out]; simp),if_pos (by have:=hf2.out; omega)]; rfl) HOT.out hB hB2 rfl
  have t3 : (findV d2.kids o.name2 != -1) = false:=by rw [HFV2.out]; exact f0
  have hf2 : Hid (findV d2.kids o.name2 < 0):=by show _ < _; simpa using f0
  clear f0
  have hz2:=h2.sz
  go_wp2_with fail
  refine (implUnder (some ⟨b,0,none⟩) n c os B w.heap.size (l : Int) (i : Int) _ hB2.size (HOA.out.below hB2 (Nat.le_refl _))).mono ?_
  rintro z w3 ⟨rfl,hb3⟩
  rw [HUV.out HK22.out]
  have h3:=h2.next hb3
  have hB3 : Below w.heap.size w w3:=hB2.trans (hb3.mono hB2.size)
  clear hb3 hB2 h2 e1 e2 e3 e4 e5 e7
  have e1:=h3.k1
  have e2:=h3.k2
  have e3:=h3.k3
  have e4:=h3.k4
  have e5:=h3.k5
  have e7:=h3.tr
  rw [HIJ.out.1] at e5
  rw [HIJ.out.2.1] at e1
  rw [HIJ.out.2.2] at e3
  rcases t4 : under os (i : Int) 33 (l : Int) with _ | _
  case true =>
    have s5 : w3.cell? ⟨5,0,none⟩ = some (.iface 323 (.pointer (some (a 5)))):=(HSE.out.below hB3 hUw).cell 5 (by omega)
    have hu : Hid (under os o.id 33 o.dir2 = true):=by show _ = _; rw [HIJ.out.1,HIJ.out.2.2]; exact t4
    go_wp2_with fail
    go_ret
    exact DeedEnd.no 5 (by omega) (by rw [HACT.out,if_neg (by rw [HK2.out,HK22.out]; simp),if_neg (by rw [hf.out]; simp),if_neg (by have:=hf2.out; omega),if_pos hu.out]; rfl) HOT.out hB hB3 rfl
  have hu : Hid (under os o.id 33 o.dir2 = false):=by show _ = _; rw [HIJ.out.1,HIJ.out.2.2]; exact t4
  have HEN : Hid (∃ (k : Nat) (e : LEnt),d.kids[k]? = some e ∧ e.name = o.name):=by
    rcases HFV.out with ⟨h,_⟩ | ⟨k,e,q1,q2,_⟩
    · rw [hf.out,HIJ.out.1] at h; omega
    · exact ⟨k,e,q1,q2⟩
  have hz3:=h3.sz
  go_wp2_with fail
  obtain ⟨ek,ee,he1,he2⟩:=HEN.out
  have HLV:=leave_t B b c n j ek d ee os vs w3 (by rw [HN.out.2]; exact HN.out.1) HD.out hasc (by omega) he1 (by omega) (HOT.out.below hB3)
  rw [he2] at HLV
  refine HLV.mono ?_
  rintro z W4 ⟨rfl,vs4,hP4'⟩
  have hvf : ∀ q g,q < n → (vs q).ownBlock = some g → g < w.heap.size ∨ w.heap.size + 1 < g:=fun q g hq hg=>.inl (HV.out q g hq hg)
  have hP4:=(DPost.same HOT.out hB hB3).trans hP4'
  have h4:=h3.post hP4' hbl hvf
  have hvf4:=hP4'.vfar hz3 hvf
  clear HLV hP4' he1 he2 h3 e1 e2 e3 e4 e5 e7
  have e1:=h4.k1
  have e2:=h4.k2
  have e3:=h4.k3
  have e4:=h4.k4
  have e5:=h4.k5
  have e7:=h4.tr
  rw [HIJ.out.1] at e5
  rw [HIJ.out.2.1] at e1
  rw [HIJ.out.2.2] at e3
  have hBW4 : B ≤ W4.heap.size:=by have:=hP4.below.size; omega
  have hz4:=h4.sz
  go_wp2_with fail
  refine (turn_t B b c n j { d with kids:=outL o.name d.kids } _ vs4 W4 (by rw [List.length_set,HN.out.2]; exact HN.out.1) (List.getElem?_set_self (by rw [HN.out.2,← HN.out.1]; exact hjn)) (by show _ ≤ d.ver; omega) (by show d.ver ≤ _; omega) hBW4 hP4.own).mono ?_
  rintro z W5 ⟨rfl,hP5'⟩
  obtain ⟨vs5,hvs5⟩ : ∃ v5,v5 = vs4:=⟨_,rfl⟩
  have hP5:=hP4.trans hP5'
  have h5:=h4.post hP5' hbl hvf4
  have hvf5:=hP5'.vfar hz4 hvf4
  rw [← hvs5] at hP5 hvf5
  clear hvs5 hP5' hP4 h4 e1 e2 e3 e4 e5 e7
  have e1:=h5.k1
  have e2:=h5.k2
  have e3:=h5.k3
  have e4:=h5.k4
  have e5:=h5.k5
  have e7:=h5.tr
  rw [HIJ.out.1] at e5
  rw [HIJ.out.2.1] at e1
  rw [HIJ.out.2.2] at e3
  have hBW5 : B ≤ W5.heap.size:=by have:=hP5.below.size; omega
  have hz5:=h5.sz
  go_wp2_with fail
  by_cases hlj : l = j
  case neg =>
    have HGL : Hid (((os.set j { d with kids:=outL o.name d.kids }).set j { d with kids:=outL o.name d.kids,ver:=d.ver + 1 })[l]? = some d2):=(by show _ = _; rw [List.getElem?_set_ne (Ne.symm hlj),List.getElem?_set_ne (Ne.symm hlj)]; exact HD2.out)
    refine (enter_t B b c n l d2 ⟨o.name2,(i : Int)⟩ _ vs5 W5 (by rw [List.length_set,List.length_set,HN.out.2]; exact HN.out.1) HGL.out hasc2 (by omega) hname2 hBW5 hP5.own).mono ?_
    rintro z W6 ⟨rfl,vs6,hP6'⟩
    have h6:=h5.post hP6' hbl hvf5
    have hP6:=hP5.trans hP6'
    clear hP6' hP5 h5 e1 e2 e3 e4 e5 e7
    have e1:=h6.k1
    have e2:=h6.k2
    have e3:=h6.k3
    have e4:=h6.k4
    have e5:=h6.k5
    have e7:=h6.tr
    rw [HIJ.out.1] at e5
    rw [HIJ.out.2.1] at e1
    rw [HIJ.out.2.2] at e3
    have hBW6 : B ≤ W6.heap.size:=by have:=hP6.below.size; omega
    have hz6:=h6.sz
    have tn : ((l : Int) != (j : Int)) = true:=by simp; omega
    go_wp2_with fail
    refine (turn_t B b c n l { d2 with kids:=putL ⟨o.name2,(i : Int)⟩ d2.kids } _ vs6 W6 (by simp [HN.out.2]; exact HN.out.1) (List.getElem?_set_self (by simp [HN.out.2]; have:=HN.out.1; omega)) (by show _ ≤ d2.ver; omega) (by show d2.ver ≤ _; omega) hBW6 hP6.own).mono ?_
    rintro z W7 ⟨rfl,hP7'⟩
    obtain ⟨vs9,hP⟩ : ∃ v9,DPost w W7 B b c n _ vs v9:=⟨_,hP6.trans hP7'⟩
    clear hP6 hP7' e1 e2 e3 e4 e5 e7
    go_wp2_with fail
    go_ret
    refine ⟨0,vs9,?_,by omega,rfl,?_⟩
    · rw [HACT.out,if_neg (by rw [HK2.out,HK22.out]; simp),if_neg (by rw [hf.out]; simp),if_neg (by have:=hf2.out; omega),if_neg (by rw [hu.out]; simp)]; rfl
    · rw [HACT.out,if_neg (by rw [HK2.out,HK22.out]; simp),if_neg (by rw [hf.out]; simp),if_neg (by have:=hf2.out; omega),if_neg (by rw [hu.out]; simp),HIJ.out.1]
      show DPost w W7 B b c n (turnM (kidsL (kidsL os j (outL o.name)) l (putL ⟨o.name2,(i : Int)⟩)) j l) vs vs9
      rw [move_two HD.out HD2.out hlj]
      simpa [List.set_set] using hP
  case pos =>
    have HGL : Hid (((os.set j { d with kids:=outL o.name d.kids }).set j { d with kids:=outL o.name d.kids,ver:=d.ver + 1 })[l]? = some { d with kids:=outL o.name d.kids,ver:=d.ver + 1 }):=(by show _ = _; rw [hlj]; exact List.getElem?_set_self (by rw [List.length_set,HN.out.2,← HN.out.1]; exact hjn))
    refine (enter_t B b c n l { d with kids:=outL o.name d.kids,ver:=d.ver + 1 } ⟨o.name2,(i : Int)⟩ _ vs5 W5 (by rw [List.length_set,List.length_set,HN.out.2]; exact HN.out.1) HGL.out (asc_out hasc o.name) (by have:=outL_le o.name d.kids; show (outL o.name d.kids).length ≤ _; omega) hname2 hBW5 hP5.own).mono ?_
    rintro z W6 ⟨rfl,vs6,hP6'⟩
    have h6:=h5.post hP6' hbl hvf5
    have hP6:=hP5.trans hP6'
    clear hP6' hP5 h5 e1 e2 e3 e4 e5 e7
    have e1:=h6.k1
    have e2:=h6.k2
    have e3:=h6.k3
    have e4:=h6.k4
    have e5:=h6.k5
    have e7:=h6.tr
    rw [HIJ.out.1] at e5
    rw [HIJ.out.2.1] at e1
    rw [HIJ.out.2.2] at e3
    have hBW6 : B ≤ W6.heap.size:=by have:=hP6.below.size; omega
    have hz6:=h6.sz
    have tn : ((l : Int) != (j : Int)) = false:=by simp; omega
    obtain ⟨vs9,hP⟩ : ∃ v9,DPost w W6 B b c n _ vs v9:=⟨_,hP6⟩
    clear hP6 e2 e4 e5 e7
    have HLJ : Hid (l = j):=hlj
    clear hlj
    go_wp2_with fail
    go_ret
    refine ⟨0,vs9,?_,by omega,rfl,?_⟩
    · rw [HACT.out,if_neg (by rw [HK2.out,HK22.out]; simp),if_neg (by rw [hf.out]; simp),if_neg (by have:=hf2.out; omega),if_neg (by rw [hu.out]; simp)]; rfl
    · rw [HACT.out,if_neg (by rw [HK2.out,HK22.out]; simp),if_neg (by rw [hf.out]; simp),if_neg (by have:=hf2.out; omega),if_neg (by rw [hu.out]; simp),HIJ.out.1]
      show DPost w W6 B b c n (turnM (kidsL (kidsL os j (outL o.name)) l (putL ⟨o.name2,(i : Int)⟩)) j l) vs vs9
      have HLJ':=HLJ.out
      subst HLJ'
      rw [move_one HD.out]
      simpa [List.set_set] using hP
end
section
open Go.RowKit
set_option maxHeartbeats 2000000 in
set_option maxRecDepth 20000 in
theorem worn_t (b c n : Nat) (o : LOp) (os : List LObj) (vs : Nat → Value) (B : Nat) (w : World) (hs : specOk os = true) (hn : n = 32) (hz : OpSz o) (H : OwnT w B b c os vs) :
    Calls Tryz.prog 217 #[.agg #[.slice (some ⟨b,0,none⟩) n c],.agg #[.int .i64 o.kind,.int .i64 o.dir,.string o.name,.int .i64 o.dir2,.string o.name2,.int .i64 o.id,.string o.text]] w fun e w'=>e = .returned (.bool (wornB os (opIds o))) ∧ Below w.heap.size w w':=by
  have hlen:=ok_len hs
  have HBD : Hid (∀ i ∈ opIds o,i < 32):=opIds_bd o
  have HOT : Hid (OwnT w B b c os vs):=H
  have HOK : Hid (∀ (k : Nat),k < 32 → ∃ p,os[k]? = some p ∧ 0 ≤ p.ver ∧ p.ver ≤ 1000000):=fun k hk=>by
    have ho : os[k]? = some (os[k]'(by omega)):=by simp [show k < os.length by omega]
    exact ⟨_,ho,ok_ver hs ho⟩
  have hbl:=H.lt
  have HN : Hid (n = 32):=hn
  have hA : Below w.heap.size w ((w.alloc (Obj.cells #[.slice (some ⟨b,0,none⟩) n c] 235)).alloc (Obj.cells #[.int .i64 o.kind,.int .i64 o.dir,.string o.name,.int .i64 o.dir2,.string o.name2,.int .i64 o.id,.string o.text] 130)):=((Below.refl _ _).alloc (Nat.le_refl _) _).alloc (by simp) _
  clear hn hlen hs H
  go_enter Tryz.func217,Tryz.ntmps217
  go_wp2_with fail
  refine (implOpIds o _ hz).mono ?_
  rintro e w1 ⟨⟨v1,rfl,hv1⟩,hb1⟩
  obtain ⟨ia,ic,rfl,hI⟩:=hv1.out.at_
  have hB1 : Below w.heap.size w w1:=hA.trans (hb1.mono (by simp; omega))
  have t0 : w1.cell? ⟨w.heap.size,0,none⟩ = some (.slice (some ⟨b,0,none⟩) n c):=by rw [hb1.cell (by simp; omega)]; simp [go_sem]
  have hz1 : w.heap.size + 1 < w1.heap.size:=by have:=hb1.size; simp at this; omega
  obtain ⟨m,hm⟩ : ∃ m,m = (opIds o).length:=⟨_,rfl⟩
  have hle:=opIds_le o
  rw [← hm] at hI hle ⊢
  have HM : Hid (m = (opIds o).length):=hm
  have HII : Hid (IntsAt w1 ((w.alloc (Obj.cells #[.slice (some ⟨b,0,none⟩) n c] 235)).alloc (Obj.cells #[.int .i64 o.kind,.int .i64 o.dir,.string o.name,.int .i64 o.dir2,.string o.name2,.int .i64 o.id,.string o.text] 130)).heap.size w1.heap.size ia m (opIds o)):=hI
  have HB1 : Hid (Below w.heap.size w w1):=hB1
  clear hv1 hb1 hI hm hA
  go_wp2_with fail
  go_loopg [10] m (fun g i wr=>∃ j : Nat,j ≤ m ∧ Hid (g = m - j) ∧ i = .int .i64 j ∧ Hid (∀ q,q < j → ∀ k,(opIds o)[q]? = some k → oldB os k = false) ∧ wr = w1)
  case atStart=>exact ⟨0,Nat.zero_le _,rfl,rfl,fun q hq=>by omega,rfl⟩
  case round =>
    obtain ⟨j,hj,hk,rfl,hq,rfl⟩:=hrel
    by_cases hlt : j < m
    · obtain ⟨g,k,rfl,hg1,hg2,hek,hc0⟩:=HII.out.2 j hlt
      have HEK : Hid ((opIds o)[j]? = some k):=hek
      have hk32 : k < 32:=HBD.out k (List.mem_of_getElem? hek)
      obtain ⟨p,hp,hp0,hp1⟩:=HOK.out k hk32
      have HP : Hid (os[k]? = some p):=hp
      have hver : wr.cell? ⟨b,k * 4 + 1,none⟩ = some (.int .i64 p.ver):=by rw [HB1.out.cell (by simpa using hbl)]; exact (HOT.out.at_ k p hp).2.2.1
      have hkn : (k : Int) < (n : Int):=by have:=HN.out; omega
      have hk0 : (0 : Int) ≤ (k : Int):=by omega
      have hltI : (j : Int) < (m : Int):=by omega
      have hbw : b < wr.heap.size:=by have:=HB1.out.size; omega
      clear hek hp
      rcases t1 : (p.ver == 1000000) with _ | _
      · have HF : Hid (oldB os k = false):=by show _ = _; unfold oldB; rw [HP.out]; simp at t1 ⊢; omega
        go_wp2_with fail
        go_roundg (m - (j + 1))
        case measure=>have:=hk.out; omega
        case rel =>
          refine ⟨j + 1,by omega,rfl,by go_num,fun q hq2 k2 hk2=>?_,rfl⟩
          by_cases e : q = j
          · subst e; rw [HEK.out] at hk2; cases hk2; exact HF.out
          · exact hq.out q (by omega) k2 hk2
      · have HF : Hid (wornB os (opIds o) = true):=by
          show _ = _
          unfold wornB
          rw [List.any_eq_true]
          refine ⟨k,List.mem_of_getElem? HEK.out,?_⟩
          unfold oldB; rw [HP.out]; simp at t1 ⊢; omega
        go_wp2_with fail
        go_ret
        exact ⟨ret_bool (by rw [HF.out]),HB1.out⟩
    · have HF : Hid (wornB os (opIds o) = false):=by
        show _ = _
        unfold wornB
        rw [List.any_eq_false]
        intro k hk2
        obtain ⟨q,hq2,rfl⟩:=List.getElem_of_mem hk2
        have:=hq.out q (by have:=HM.out; omega) (opIds o)[q] (by simp [hq2])
        simp [this]
      go_wp2_with fail
      go_ret
      exact ⟨ret_bool (by rw [HF.out]),HB1.out⟩
theorem deedOf1 (o : LOp) (w : World) (hk : o.kind = 1) : Calls Tryz.prog 218 #[.agg #[.int .i64 o.kind,.int .i64 o.dir,.string o.name,.int .i64 o.dir2,.string o.name2,.int .i64 o.id,.string o.text]] w fun e w'=>e = .returned (.iface 299 (.agg #[.int .i64 o.kind,.int .i64 o.dir,.string o.name,.int .i64 o.dir2,.string o.name2,.int .i64 o.id,.string o.text,.int .i64 1])) ∧ Below w.heap.size w w':=by
  have h1 : (o.kind == 1) = true:=by rw [hk]; rfl
  clear hk
  go_enter Tryz.func218,Tryz.ntmps218
  go_wp2_with fail
  go_ret
  exact ⟨rfl,(Below.refl _ _).alloc (Nat.le_refl _) _⟩
theorem deedOf2 (o : LOp) (w : World) (hk : o.kind = 2) : Calls Tryz.prog 218 #[.agg #[.int .i64 o.kind,.int .i64 o.dir,.string o.name,.int .i64 o.dir2,.string o.name2,.int .i64 o.id,.string o.text]] w fun e w'=>e = .returned (.iface 299 (.agg #[.int .i64 o.kind,.int .i64 o.dir,.string o.name,.int .i64 o.dir2,.string o.name2,.int .i64 o.id,.string o.text,.int .i64 2])) ∧ Below w.heap.size w w':=by
  have h1 : (o.kind == 1) = false:=by rw [hk]; rfl
  have h2 : (o.kind == 2) = true:=by rw [hk]; rfl
  clear hk
  go_enter Tryz.func218,Tryz.ntmps218
  go_wp2_with fail
  go_ret
  exact ⟨rfl,(Below.refl _ _).alloc (Nat.le_refl _) _⟩
theorem deedOf3 (o : LOp) (w : World) (hk : o.kind = 3) : Calls Tryz.prog 218 #[.agg #[.int .i64 o.kind,.int .i64 o.dir,.string o.name,.int .i64 o.dir2,.string o.name2,.int .i64 o.id,.string o.text]] w fun e w'=>e = .returned (.iface 301 (.agg #[.int .i64 o.kind,.int .i64 o.dir,.string o.name,.int .i64 o.dir2,.string o.name2,.int .i64 o.id,.string o.text])) ∧ Below w.heap.size w w':=by
  have h1 : (o.kind == 1) = false:=by rw [hk]; rfl
  have h2 : (o.kind == 2) = false:=by rw [hk]; rfl
  have h3 : (o.kind == 3) = true:=by rw [hk]; rfl
  clear hk
  go_enter Tryz.func218,Tryz.ntmps218
  go_wp2_with fail
  go_ret
  exact ⟨rfl,(Below.refl _ _).alloc (Nat.le_refl _) _⟩
theorem deedOf4 (o : LOp) (w : World) (hk : o.kind = 4) : Calls Tryz.prog 218 #[.agg #[.int .i64 o.kind,.int .i64 o.dir,.string o.name,.int .i64 o.dir2,.string o.name2,.int .i64 o.id,.string o.text]] w fun e w'=>e = .returned (.iface 302 (.agg #[.int .i64 o.kind,.int .i64 o.dir,.string o.name,.int .i64 o.dir2,.string o.name2,.int .i64 o.id,.string o.text])) ∧ Below w.heap.size w w':=by
  have h1 : (o.kind == 1) = false:=by rw [hk]; rfl
  have h2 : (o.kind == 2) = false:=by rw [hk]; rfl
  have h3 : (o.kind == 3) = false:=by rw [hk]; rfl
  have h4 : (o.kind == 4) = true:=by rw [hk]; rfl
  clear hk
  go_enter Tryz.func218,Tryz.ntmps218
  go_wp2_with fail
  go_ret
  exact ⟨rfl,(Below.refl _ _).alloc (Nat.le_refl _) _⟩
theorem deedOf5 (o : LOp) (w : World) (hk : o.kind = 5) : Calls Tryz.prog 218 #[.agg #[.int .i64 o.kind,.int .i64 o.dir,.string o.name,.int .i64 o.dir2,.string o.name2,.int .i64 o.id,.string o.text]] w fun e w'=>e = .returned (.iface 303 (.agg #[.int .i64 o.kind,.int .i64 o.dir,.string o.name,.int .i64 o.dir2,.string o.name2,.int .i64 o.id,.string o.text])) ∧ Below w.heap.size w w':=by
  have h1 : (o.kind == 1) = false:=by rw [hk]; rfl
  have h2 : (o.kind == 2) = false:=by rw [hk]; rfl
  have h3 : (o.kind == 3) = false:=by rw [hk]; rfl
  have h4 : (o.kind == 4) = false:=by rw [hk]; rfl
  clear hk
  go_enter Tryz.func218,Tryz.ntmps218
  go_wp2_with fail
  go_ret
  exact ⟨rfl,(Below.refl _ _).alloc (Nat.le_refl _) _⟩
theorem mM229 (v : Value) (w : World) : (Go.method 477 299 v "loop.example/shieling/impl.do").run Tryz.prog w = .ok (278, v) w := by kernel_rfl
theorem mM231 (v : Value) (w : World) : (Go.method 477 301 v "loop.example/shieling/impl.do").run Tryz.prog w = .ok (295, v) w := by kernel_rfl
theorem mM232 (v : Value) (w : World) : (Go.method 477 302 v "loop.example/shieling/impl.do").run Tryz.prog w = .ok (298, v) w := by kernel_rfl
theorem mM233 (v : Value) (w : World) : (Go.method 477 303 v "loop.example/shieling/impl.do").run Tryz.prog w = .ok (301, v) w := by kernel_rfl
structure ABox (W : World) (S b n c : Nat) (o : LOp) : Prop where
  k0 : W.cell? ⟨S + 1,0,none⟩ = some (.int .i64 o.kind)
  k1 : W.cell? ⟨S + 1,1,none⟩ = some (.int .i64 o.dir)
  k2 : W.cell? ⟨S + 1,2,none⟩ = some (.string o.name)
  k3 : W.cell? ⟨S + 1,3,none⟩ = some (.int .i64 o.dir2)
  k4 : W.cell? ⟨S + 1,4,none⟩ = some (.string o.name2)
  k5 : W.cell? ⟨S + 1,5,none⟩ = some (.int .i64 o.id)
  k6 : W.cell? ⟨S + 1,6,none⟩ = some (.string o.text)
  tr : W.cell? ⟨S,0,none⟩ = some (.slice (some ⟨b,0,none⟩) n c)
  sz : S + 1 < W.heap.size
theorem ABox.next {W W' : World} {S b n c : Nat} {o : LOp} (h : ABox W S b n c o) (hb : Below W.heap.size W W') : ABox W' S b n c o:=by
  have h0 : ∀ j,W'.cell? ⟨S,j,none⟩ = W.cell? ⟨S,j,none⟩:=fun j=>hb.cell (by have:=h.sz; simp; omega)
  have h1 : ∀ j,W'.cell? ⟨S + 1,j,none⟩ = W.cell? ⟨S + 1,j,none⟩:=fun j=>hb.cell (by have:=h.sz; simp; omega)
  exact ⟨by rw [h1]; exact h.k0,by rw [h1]; exact h.k1,by rw [h1]; exact h.k2,by rw [h1]; exact h.k3,by rw [h1]; exact h.k4,by rw [h1]; exact h.k5,by rw [h1]; exact h.k6,by rw [h0]; exact h.tr,by have:=h.sz; have:=hb.size; omega⟩
theorem ABox.after {w w3 w4 : World} {B b c n : Nat} {o : LOp} {os' : List LObj} {vs vs' : Nat → Value} (h : ABox w3 w.heap.size b n c o) (hp : DPost w3 w4 B b c n os' vs vs') (hb : b < w.heap.size) (hv : ∀ q g,q < n → (vs q).ownBlock = some g → g < w.heap.size) : ABox w4 w.heap.size b n c o:=by
  have hk : ∀ q,w.heap.size ≤ q → q ≤ w.heap.size + 1 → w4.heap[q]? = w3.heap[q]?:=fun q h1 h2=>hp.kt q (by have:=h.sz; omega) (by omega) fun i hi e=>by have:=hv i q hi e; omega
  have h0 : ∀ j,w4.cell? ⟨w.heap.size,j,none⟩ = w3.cell? ⟨w.heap.size,j,none⟩:=fun j=>World.cell?_of_block (w:=w3) (hk _ (by simp) (by simp))
  have h1 : ∀ j,w4.cell? ⟨w.heap.size + 1,j,none⟩ = w3.cell? ⟨w.heap.size + 1,j,none⟩:=fun j=>World.cell?_of_block (w:=w3) (hk _ (by simp) (by simp))
  exact ⟨by rw [h1]; exact h.k0,by rw [h1]; exact h.k1,by rw [h1]; exact h.k2,by rw [h1]; exact h.k3,by rw [h1]; exact h.k4,by rw [h1]; exact h.k5,by rw [h1]; exact h.k6,by rw [h0]; exact h.tr,by have:=h.sz; have:=hp.below.size; omega⟩
set_option maxHeartbeats 4000000 in
set_option maxRecDepth 20000 in
theorem attempt_any (a : Nat → Addr) (U B b c n : Nat) (o : LOp) (os : List LObj) (vs : Nat → Value) (w : World) (hU : U ≤ B) (HS : Sents w U a) (hB : B ≤ w.heap.size) (hs : specOk os = true) (hn : n = 32) (hz : OpSz o) (H : OwnT w B b c os vs) (hok : opOk o = true) :
    Calls Tryz.prog 184 #[.agg #[.slice (some ⟨b,0,none⟩) n c],.agg #[.int .i64 o.kind,.int .i64 o.dir,.string o.name,.int .i64 o.dir2,.string o.name2,.int .i64 o.id,.string o.text]] w fun e w'=>DeedEnd w a B b c n vs (actDo os o) e w':=by
  have hUw : U ≤ w.heap.size:=by omega
  have hbl:=H.lt
  have HV : Hid (∀ q g,q < n → (vs q).ownBlock = some g → g < w.heap.size):=fun q g hq hg=>H.vlt (by rw [hn,ok_len hs]) q g hq hg
  have hOP:=fun w=>implOpOk o w hz
  simp only [LOp.val] at hOP
  rw [hok] at hOP
  have hA : Below w.heap.size w ((w.alloc (Obj.cells #[.slice (some ⟨b,0,none⟩) n c] 235)).alloc (Obj.cells #[.int .i64 o.kind,.int .i64 o.dir,.string o.name,.int .i64 o.dir2,.string o.name2,.int .i64 o.id,.string o.text] 130)):=((Below.refl _ _).alloc (Nat.le_refl _) _).alloc (by simp) _
  have h0 : ABox ((w.alloc (Obj.cells #[.slice (some ⟨b,0,none⟩) n c] 235)).alloc (Obj.cells #[.int .i64 o.kind,.int .i64 o.dir,.string o.name,.int .i64 o.dir2,.string o.name2,.int .i64 o.id,.string o.text] 130)) w.heap.size b n c o:=⟨by simp [go_sem],by simp [go_sem],by simp [go_sem],by simp [go_sem],by simp [go_sem],by simp [go_sem],by simp [go_sem],by simp [go_sem],by simp⟩
  have HN : Hid (n = 32):=hn
  clear hn
  go_enter Tryz.func184,Tryz.ntmps184
  go_wp2_with fail
  refine (hOP _).mono ?_
  rintro e w1 ⟨rfl,hb1⟩
  have h1:=h0.next hb1
  have hB1 : Below w.heap.size w w1:=hA.trans (hb1.mono hA.size)
  clear hb1 h0 hA hOP
  have e0:=h1.k0
  have e1:=h1.k1
  have e2:=h1.k2
  have e3:=h1.k3
  have e4:=h1.k4
  have e5:=h1.k5
  have e6:=h1.k6
  have e7:=h1.tr
  go_wp2_with fail
  refine (worn_t b c n o os vs B w1 hs HN.out hz (H.below hB1)).mono ?_
  rintro e w2 ⟨rfl,hb2⟩
  have h2:=h1.next hb2
  have hB2 : Below w.heap.size w w2:=hB1.trans (hb2.mono hB1.size)
  clear hb2 h1 hB1 e0 e1 e2 e3 e4 e5 e6 e7
  rcases tw : wornB os (opIds o) with _ | _
  case true =>
    have s0 : w2.cell? ⟨0,0,none⟩ = some (.iface 323 (.pointer (some (a 0)))):=(HS.below hB2 hUw).cell 0 (by omega)
    have HW : Hid (wornB os (opIds o) = true):=tw
    go_wp2_with fail
    go_ret
    exact DeedEnd.no 8 (by omega) (by unfold actDo; rw [if_pos HW.out]; rfl) H hB hB2 rfl
  have HW : Hid (wornB os (opIds o) = false):=tw
  clear tw
  have hkd : o.kind = 1 ∨ o.kind = 2 ∨ o.kind = 3 ∨ o.kind = 4 ∨ o.kind = 5:=by
    apply Classical.byContradiction
    intro h
    have:=(opOk_nokind h).1
    rw [this] at hok
    cases hok
  go_wp2_with fail
  rcases hkd with hk | hk | hk | hk | hk
  · have hkd : Hid (o.kind = 1):=hk
    have HACT : Hid (actDo os o = actNew os o):=by show _ = _; unfold actDo; rw [if_neg (by rw [HW.out]; simp)]; simp [hkd.out]
    clear hk
    go_upto_region 3 with fail
    have h2d:=h2.next (Below.refl _ _).drew
    have hB2d : Below w.heap.size w w2.drew:=hB2.trans ((Below.refl _ _).drew.mono hB2.size)
    refine wp_region_held_drew (S:=(fun W=>ABox W w.heap.size b n c o)) (by kernel_rfl) ?_ (fun hHeld=>?_)
    · exact h2d
    refine listH (l2:=#[false,false,false,false,false]) (by kernel_rfl) ?_
    refine takeH (i:=0) (oi:=_) (v:=?vt1x0) 14 #[true,false,false,false,false] rfl (by kernel_rfl) (by kernel_rfl) (by kernel_rfl) rfl (by kernel_rfl) (fun _ _ _ h=>h) (Or.inl ⟨by rfl,?yt1x0⟩) (by assumption) ?rt1x0
    case yt1x0=>(intro w' hSw; (try dsimp only at hSw); have x0:=hSw.k0; have x1:=hSw.k1; have x2:=hSw.k2; have x3:=hSw.k3; have x4:=hSw.k4; have x5:=hSw.k5; have x6:=hSw.k6; have x7:=hSw.tr; go_simp; try with_reducible rfl)
    simp only [Act.put,sT,sS,sZ]
    refine takeH (i:=2) (oi:=_) (v:=?vt1x2) 16 #[true,false,true,false,false] rfl (by kernel_rfl) (by kernel_rfl) (by kernel_rfl) rfl (by kernel_rfl) (fun _ _ _ h=>h) (Or.inl ⟨by rfl,?yt1x2⟩) (by assumption) ?rt1x2
    case yt1x2=>(intro w' hSw; (try dsimp only at hSw); have x0:=hSw.k0; have x1:=hSw.k1; have x2:=hSw.k2; have x3:=hSw.k3; have x4:=hSw.k4; have x5:=hSw.k5; have x6:=hSw.k6; have x7:=hSw.tr; go_simp; try with_reducible rfl)
    simp only [Act.put,sT,sS,sZ]
    refine wpAnyH_ready (rs:=[1]) (by kernel_rfl) (by simp) ?_
    refine AllReadyH.cons (o:=_) rfl (fun K hK=>?_) AllReadyH.nil
    go_simp
    refine (deedOf1 o _ hkd.out).mono ?_
    rintro e w3 ⟨rfl,hb3⟩
    have h3:=h2d.next hb3
    have hB3 : Below w.heap.size w w3:=hB2d.trans (hb3.mono hB2d.size)
    go_wp2_with fail
    refine hK.out _ _ ?_ (fun hHeld=>?_)
    · exact h3
    clear hK K
    try simp only [Act.put]
    refine listH (l2:=#[true,true,true,false,false]) (by kernel_rfl) ?_
    refine wpAnyH_ready (rs:=[3]) (by kernel_rfl) (by simp) ?_
    refine AllReadyH.cons (o:=_) rfl (fun K hK=>?_) AllReadyH.nil
    go_simp
    rw [mM229]
    dsimp only [Result.andThen]
    go_simp
    refine (making_do 1 a U B b c n o os vs w3 hU (HS.below hB3 hUw) (by have:=hB3.size; omega) hs HN.out hok hz (H.below hB3) (by rw [hkd.out]; simp)).mono ?_
    rintro e w4 ⟨k9,vs9,hk1,hk2,rfl,hP⟩
    have h4 : True:=trivial
    go_wp2_with fail
    refine hK.out _ _ ?_ (fun hHeld=>?_)
    · exact h3.after hP hbl HV.out
    clear hK K
    try simp only [Act.put]
    refine listH (l2:=#[true,true,true,true,false]) (by kernel_rfl) ?_
    refine wpAnyH_ready (rs:=[4]) (by kernel_rfl) (by simp) ?_
    refine AllReadyH.cons (o:=_) rfl (fun K hK=>?_) AllReadyH.nil
    go_simp
    refine hK.out _ _ ?_ (fun hHeld=>?_)
    · exact h3.after hP hbl HV.out
    clear hK K
    try simp only [Act.put]
    refine listH (l2:=#[true,true,true,true,true]) (by kernel_rfl) ?_
    refine wpAnyH_done (by kernel_rfl) ?_ _
    go_wp2_with fail
    go_ret
    exact ⟨k9,vs9,by rw [HACT.out]; exact hk1,hk2,rfl,by rw [HACT.out]; exact (DPost.same H hB hB3).trans hP⟩
  · have hkd : Hid (o.kind = 2):=hk
    have HACT : Hid (actDo os o = actNew os o):=by show _ = _; unfold actDo; rw [if_neg (by rw [HW.out]; simp)]; simp [hkd.out]
    clear hk
    go_upto_region 3 with fail
    have h2d:=h2.next (Below.refl _ _).drew
    have hB2d : Below w.heap.size w w2.drew:=hB2.trans ((Below.refl _ _).drew.mono hB2.size)
    refine wp_region_held_drew (S:=(fun W=>ABox W w.heap.size b n c o)) (by kernel_rfl) ?_ (fun hHeld=>?_)
    · exact h2d
    refine listH (l2:=#[false,false,false,false,false]) (by kernel_rfl) ?_
    refine takeH (i:=0) (oi:=_) (v:=?vt2x0) 14 #[true,false,false,false,false] rfl (by kernel_rfl) (by kernel_rfl) (by kernel_rfl) rfl (by kernel_rfl) (fun _ _ _ h=>h) (Or.inl ⟨by rfl,?yt2x0⟩) (by assumption) ?rt2x0
    case yt2x0=>(intro w' hSw; (try dsimp only at hSw); have x0:=hSw.k0; have x1:=hSw.k1; have x2:=hSw.k2; have x3:=hSw.k3; have x4:=hSw.k4; have x5:=hSw.k5; have x6:=hSw.k6; have x7:=hSw.tr; go_simp; try with_reducible rfl)
    simp only [Act.put,sT,sS,sZ]
    refine takeH (i:=2) (oi:=_) (v:=?vt2x2) 16 #[true,false,true,false,false] rfl (by kernel_rfl) (by kernel_rfl) (by kernel_rfl) rfl (by kernel_rfl) (fun _ _ _ h=>h) (Or.inl ⟨by rfl,?yt2x2⟩) (by assumption) ?rt2x2
    case yt2x2=>(intro w' hSw; (try dsimp only at hSw); have x0:=hSw.k0; have x1:=hSw.k1; have x2:=hSw.k2; have x3:=hSw.k3; have x4:=hSw.k4; have x5:=hSw.k5; have x6:=hSw.k6; have x7:=hSw.tr; go_simp; try with_reducible rfl)
    simp only [Act.put,sT,sS,sZ]
    refine wpAnyH_ready (rs:=[1]) (by kernel_rfl) (by simp) ?_
    refine AllReadyH.cons (o:=_) rfl (fun K hK=>?_) AllReadyH.nil
    go_simp
    refine (deedOf2 o _ hkd.out).mono ?_
    rintro e w3 ⟨rfl,hb3⟩
    have h3:=h2d.next hb3
    have hB3 : Below w.heap.size w w3:=hB2d.trans (hb3.mono hB2d.size)
    go_wp2_with fail
    refine hK.out _ _ ?_ (fun hHeld=>?_)
    · exact h3
    clear hK K
    try simp only [Act.put]
    refine listH (l2:=#[true,true,true,false,false]) (by kernel_rfl) ?_
    refine wpAnyH_ready (rs:=[3]) (by kernel_rfl) (by simp) ?_
    refine AllReadyH.cons (o:=_) rfl (fun K hK=>?_) AllReadyH.nil
    go_simp
    rw [mM229]
    dsimp only [Result.andThen]
    go_simp
    refine (making_do 2 a U B b c n o os vs w3 hU (HS.below hB3 hUw) (by have:=hB3.size; omega) hs HN.out hok hz (H.below hB3) (by rw [hkd.out]; simp)).mono ?_
    rintro e w4 ⟨k9,vs9,hk1,hk2,rfl,hP⟩
    have h4 : True:=trivial
    go_wp2_with fail
    refine hK.out _ _ ?_ (fun hHeld=>?_)
    · exact h3.after hP hbl HV.out
    clear hK K
    try simp only [Act.put]
    refine listH (l2:=#[true,true,true,true,false]) (by kernel_rfl) ?_
    refine wpAnyH_ready (rs:=[4]) (by kernel_rfl) (by simp) ?_
    refine AllReadyH.cons (o:=_) rfl (fun K hK=>?_) AllReadyH.nil
    go_simp
    refine hK.out _ _ ?_ (fun hHeld=>?_)
    · exact h3.after hP hbl HV.out
    clear hK K
    try simp only [Act.put]
    refine listH (l2:=#[true,true,true,true,true]) (by kernel_rfl) ?_
    refine wpAnyH_done (by kernel_rfl) ?_ _
    go_wp2_with fail
    go_ret
    exact ⟨k9,vs9,by rw [HACT.out]; exact hk1,hk2,rfl,by rw [HACT.out]; exact (DPost.same H hB hB3).trans hP⟩
  · have hkd : Hid (o.kind = 3):=hk
    have HACT : Hid (actDo os o = actGone os o):=by show _ = _; unfold actDo; rw [if_neg (by rw [HW.out]; simp)]; simp [hkd.out]
    clear hk
    go_upto_region 3 with fail
    have h2d:=h2.next (Below.refl _ _).drew
    have hB2d : Below w.heap.size w w2.drew:=hB2.trans ((Below.refl _ _).drew.mono hB2.size)
    refine wp_region_held_drew (S:=(fun W=>ABox W w.heap.size b n c o)) (by kernel_rfl) ?_ (fun hHeld=>?_)
    · exact h2d
    refine listH (l2:=#[false,false,false,false,false]) (by kernel_rfl) ?_
    refine takeH (i:=0) (oi:=_) (v:=?vt3x0) 14 #[true,false,false,false,false] rfl (by kernel_rfl) (by kernel_rfl) (by kernel_rfl) rfl (by kernel_rfl) (fun _ _ _ h=>h) (Or.inl ⟨by rfl,?yt3x0⟩) (by assumption) ?rt3x0
    case yt3x0=>(intro w' hSw; (try dsimp only at hSw); have x0:=hSw.k0; have x1:=hSw.k1; have x2:=hSw.k2; have x3:=hSw.k3; have x4:=hSw.k4; have x5:=hSw.k5; have x6:=hSw.k6; have x7:=hSw.tr; go_simp; try with_reducible rfl)
    simp only [Act.put,sT,sS,sZ]
    refine takeH (i:=2) (oi:=_) (v:=?vt3x2) 16 #[true,false,true,false,false] rfl (by kernel_rfl) (by kernel_rfl) (by kernel_rfl) rfl (by kernel_rfl) (fun _ _ _ h=>h) (Or.inl ⟨by rfl,?yt3x2⟩) (by assumption) ?rt3x2
    case yt3x2=>(intro w' hSw; (try dsimp only at hSw); have x0:=hSw.k0; have x1:=hSw.k1; have x2:=hSw.k2; have x3:=hSw.k3; have x4:=hSw.k4; have x5:=hSw.k5; have x6:=hSw.k6; have x7:=hSw.tr; go_simp; try with_reducible rfl)
    simp only [Act.put,sT,sS,sZ]
    refine wpAnyH_ready (rs:=[1]) (by kernel_rfl) (by simp) ?_
    refine AllReadyH.cons (o:=_) rfl (fun K hK=>?_) AllReadyH.nil
    go_simp
    refine (deedOf3 o _ hkd.out).mono ?_
    rintro e w3 ⟨rfl,hb3⟩
    have h3:=h2d.next hb3
    have hB3 : Below w.heap.size w w3:=hB2d.trans (hb3.mono hB2d.size)
    go_wp2_with fail
    refine hK.out _ _ ?_ (fun hHeld=>?_)
    · exact h3
    clear hK K
    try simp only [Act.put]
    refine listH (l2:=#[true,true,true,false,false]) (by kernel_rfl) ?_
    refine wpAnyH_ready (rs:=[3]) (by kernel_rfl) (by simp) ?_
    refine AllReadyH.cons (o:=_) rfl (fun K hK=>?_) AllReadyH.nil
    go_simp
    rw [mM231]
    dsimp only [Result.andThen]
    go_simp
    refine (going_do a U B b c n o os vs w3 hU (HS.below hB3 hUw) (by have:=hB3.size; omega) hs HN.out hok (H.below hB3)).mono ?_
    rintro e w4 ⟨k9,vs9,hk1,hk2,rfl,hP⟩
    have h4 : True:=trivial
    go_wp2_with fail
    refine hK.out _ _ ?_ (fun hHeld=>?_)
    · exact h3.after hP hbl HV.out
    clear hK K
    try simp only [Act.put]
    refine listH (l2:=#[true,true,true,true,false]) (by kernel_rfl) ?_
    refine wpAnyH_ready (rs:=[4]) (by kernel_rfl) (by simp) ?_
    refine AllReadyH.cons (o:=_) rfl (fun K hK=>?_) AllReadyH.nil
    go_simp
    refine hK.out _ _ ?_ (fun hHeld=>?_)
    · exact h3.after hP hbl HV.out
    clear hK K
    try simp only [Act.put]
    refine listH (l2:=#[true,true,true,true,true]) (by kernel_rfl) ?_
    refine wpAnyH_done (by kernel_rfl) ?_ _
    go_wp2_with fail
    go_ret
    exact ⟨k9,vs9,by rw [HACT.out]; exact hk1,hk2,rfl,by rw [HACT.out]; exact (DPost.same H hB hB3).trans hP⟩
  · have hkd : Hid (o.kind = 4):=hk
    have HACT : Hid (actDo os o = actMove os o):=by show _ = _; unfold actDo; rw [if_neg (by rw [HW.out]; simp)]; simp [hkd.out]
    clear hk
    go_upto_region 3 with fail
    have h2d:=h2.next (Below.refl _ _).drew
    have hB2d : Below w.heap.size w w2.drew:=hB2.trans ((Below.refl _ _).drew.mono hB2.size)
    refine wp_region_held_drew (S:=(fun W=>ABox W w.heap.size b n c o)) (by kernel_rfl) ?_ (fun hHeld=>?_)
    · exact h2d
    refine listH (l2:=#[false,false,false,false,false]) (by kernel_rfl) ?_
    refine takeH (i:=0) (oi:=_) (v:=?vt4x0) 14 #[true,false,false,false,false] rfl (by kernel_rfl) (by kernel_rfl) (by kernel_rfl) rfl (by kernel_rfl) (fun _ _ _ h=>h) (Or.inl ⟨by rfl,?yt4x0⟩) (by assumption) ?rt4x0
    case yt4x0=>(intro w' hSw; (try dsimp only at hSw); have x0:=hSw.k0; have x1:=hSw.k1; have x2:=hSw.k2; have x3:=hSw.k3; have x4:=hSw.k4; have x5:=hSw.k5; have x6:=hSw.k6; have x7:=hSw.tr; go_simp; try with_reducible rfl)
    simp only [Act.put,sT,sS,sZ]
    refine takeH (i:=2) (oi:=_) (v:=?vt4x2) 16 #[true,false,true,false,false] rfl (by kernel_rfl) (by kernel_rfl) (by kernel_rfl) rfl (by kernel_rfl) (fun _ _ _ h=>h) (Or.inl ⟨by rfl,?yt4x2⟩) (by assumption) ?rt4x2
    case yt4x2=>(intro w' hSw; (try dsimp only at hSw); have x0:=hSw.k0; have x1:=hSw.k1; have x2:=hSw.k2; have x3:=hSw.k3; have x4:=hSw.k4; have x5:=hSw.k5; have x6:=hSw.k6; have x7:=hSw.tr; go_simp; try with_reducible rfl)
    simp only [Act.put,sT,sS,sZ]
    refine wpAnyH_ready (rs:=[1]) (by kernel_rfl) (by simp) ?_
    refine AllReadyH.cons (o:=_) rfl (fun K hK=>?_) AllReadyH.nil
    go_simp
    refine (deedOf4 o _ hkd.out).mono ?_
    rintro e w3 ⟨rfl,hb3⟩
    have h3:=h2d.next hb3
    have hB3 : Below w.heap.size w w3:=hB2d.trans (hb3.mono hB2d.size)
    go_wp2_with fail
    refine hK.out _ _ ?_ (fun hHeld=>?_)
    · exact h3
    clear hK K
    try simp only [Act.put]
    refine listH (l2:=#[true,true,true,false,false]) (by kernel_rfl) ?_
    refine wpAnyH_ready (rs:=[3]) (by kernel_rfl) (by simp) ?_
    refine AllReadyH.cons (o:=_) rfl (fun K hK=>?_) AllReadyH.nil
    go_simp
    rw [mM232]
    dsimp only [Result.andThen]
    go_simp
    refine (moving_do a U B b c n o os vs w3 hU (HS.below hB3 hUw) (by have:=hB3.size; omega) hs HN.out hok hz (H.below hB3)).mono ?_
    rintro e w4 ⟨k9,vs9,hk1,hk2,rfl,hP⟩
    have h4 : True:=trivial
    go_wp2_with fail
    refine hK.out _ _ ?_ (fun hHeld=>?_)
    · exact h3.after hP hbl HV.out
    clear hK K
    try simp only [Act.put]
    refine listH (l2:=#[true,true,true,true,false]) (by kernel_rfl) ?_
    refine wpAnyH_ready (rs:=[4]) (by kernel_rfl) (by simp) ?_
    refine AllReadyH.cons (o:=_) rfl (fun K hK=>?_) AllReadyH.nil
    go_simp
    refine hK.out _ _ ?_ (fun hHeld=>?_)
    · exact h3.after hP hbl HV.out
    clear hK K
    try simp only [Act.put]
    refine listH (l2:=#[true,true,true,true,true]) (by kernel_rfl) ?_
    refine wpAnyH_done (by kernel_rfl) ?_ _
    go_wp2_with fail
    go_ret
    exact ⟨k9,vs9,by rw [HACT.out]; exact hk1,hk2,rfl,by rw [HACT.out]; exact (DPost.same H hB hB3).trans hP⟩
  · have hkd : Hid (o.kind = 5):=hk
    have HACT : Hid (actDo os o = actText os o):=by show _ = _; unfold actDo; rw [if_neg (by rw [HW.out]; simp)]; simp [hkd.out]
    clear hk
    go_upto_region 3 with fail
    have h2d:=h2.next (Below.refl _ _).drew
    have hB2d : Below w.heap.size w w2.drew:=hB2.trans ((Below.refl _ _).drew.mono hB2.size)
    refine wp_region_held_drew (S:=(fun W=>ABox W w.heap.size b n c o)) (by kernel_rfl) ?_ (fun hHeld=>?_)
    · exact h2d
    refine listH (l2:=#[false,false,false,false,false]) (by kernel_rfl) ?_
    refine takeH (i:=0) (oi:=_) (v:=?vt5x0) 14 #[true,false,false,false,false] rfl (by kernel_rfl) (by kernel_rfl) (by kernel_rfl) rfl (by kernel_rfl) (fun _ _ _ h=>h) (Or.inl ⟨by rfl,?yt5x0⟩) (by assumption) ?rt5x0
    case yt5x0=>(intro w' hSw; (try dsimp only at hSw); have x0:=hSw.k0; have x1:=hSw.k1; have x2:=hSw.k2; have x3:=hSw.k3; have x4:=hSw.k4; have x5:=hSw.k5; have x6:=hSw.k6; have x7:=hSw.tr; go_simp; try with_reducible rfl)
    simp only [Act.put,sT,sS,sZ]
    refine takeH (i:=2) (oi:=_) (v:=?vt5x2) 16 #[true,false,true,false,false] rfl (by kernel_rfl) (by kernel_rfl) (by kernel_rfl) rfl (by kernel_rfl) (fun _ _ _ h=>h) (Or.inl ⟨by rfl,?yt5x2⟩) (by assumption) ?rt5x2
    case yt5x2=>(intro w' hSw; (try dsimp only at hSw); have x0:=hSw.k0; have x1:=hSw.k1; have x2:=hSw.k2; have x3:=hSw.k3; have x4:=hSw.k4; have x5:=hSw.k5; have x6:=hSw.k6; have x7:=hSw.tr; go_simp; try with_reducible rfl)
    simp only [Act.put,sT,sS,sZ]
    refine wpAnyH_ready (rs:=[1]) (by kernel_rfl) (by simp) ?_
    refine AllReadyH.cons (o:=_) rfl (fun K hK=>?_) AllReadyH.nil
    go_simp
    refine (deedOf5 o _ hkd.out).mono ?_
    rintro e w3 ⟨rfl,hb3⟩
    have h3:=h2d.next hb3
    have hB3 : Below w.heap.size w w3:=hB2d.trans (hb3.mono hB2d.size)
    go_wp2_with fail
    refine hK.out _ _ ?_ (fun hHeld=>?_)
    · exact h3
    clear hK K
    try simp only [Act.put]
    refine listH (l2:=#[true,true,true,false,false]) (by kernel_rfl) ?_
    refine wpAnyH_ready (rs:=[3]) (by kernel_rfl) (by simp) ?_
    refine AllReadyH.cons (o:=_) rfl (fun K hK=>?_) AllReadyH.nil
    go_simp
    rw [mM233]
    dsimp only [Result.andThen]
    go_simp
    refine (writing_do a U B b c n o os vs w3 hU (HS.below hB3 hUw) (by have:=hB3.size; omega) hs HN.out hok hz (H.below hB3)).mono ?_
    rintro e w4 ⟨k9,vs9,hk1,hk2,rfl,hP⟩
    have h4 : True:=trivial
    go_wp2_with fail
    refine hK.out _ _ ?_ (fun hHeld=>?_)
    · exact h3.after hP hbl HV.out
    clear hK K
    try simp only [Act.put]
    refine listH (l2:=#[true,true,true,true,false]) (by kernel_rfl) ?_
    refine wpAnyH_ready (rs:=[4]) (by kernel_rfl) (by simp) ?_
    refine AllReadyH.cons (o:=_) rfl (fun K hK=>?_) AllReadyH.nil
    go_simp
    refine hK.out _ _ ?_ (fun hHeld=>?_)
    · exact h3.after hP hbl HV.out
    clear hK K
    try simp only [Act.put]
    refine listH (l2:=#[true,true,true,true,true]) (by kernel_rfl) ?_
    refine wpAnyH_done (by kernel_rfl) ?_ _
    go_wp2_with fail
    go_ret
    exact ⟨k9,vs9,by rw [HACT.out]; exact hk1,hk2,rfl,by rw [HACT.out]; exact (DPost.same H hB hB3).trans hP⟩
end
section
open Go.RowKit
theorem turnM_len (os : List LObj) (j l : Nat) : (turnM os j l).length = os.length:=by
  have h : ∀ os k,(turnL os k).length = os.length:=fun os k=>by unfold turnL; split <;> simp
  unfold turnM
  split <;> simp [h]
theorem actDo_len (os : List LObj) (o : LOp) : (actDo os o).1.length = os.length:=by
  unfold actDo
  repeat' split
  · rfl
  · unfold actNew; repeat' split
    all_goals simp
  · unfold actGone; repeat' split
    all_goals simp
  · unfold actMove; repeat' split
    all_goals simp [turnM_len,kidsL_len]
  · unfold actText; repeat' split
    all_goals simp
theorem ObjsAt.sizes {w : World} {L U n : Nat} {a : Option Addr} {os : List LObj} (h : ObjsAt w L U a n os) : ∀ o ∈ os,o.text.size ≤ maxLen ∧ ∀ e ∈ o.kids,e.name.size ≤ maxLen:=by
  intro o ho
  obtain ⟨i,hi,rfl⟩:=List.getElem_of_mem ho
  have hn : n ≠ 0:=by have:=h.len; omega
  obtain ⟨b,off,-,-,-,hc⟩:=h.at_ hn
  obtain ⟨o',ka,kn,kc,he,hs,-,-,-,-,hk⟩:=hc i (by have:=h.len; omega)
  have : o' = os[i]:=by simp [hi] at he; exact he.symm
  subst this
  refine ⟨hs,fun e he2=>?_⟩
  obtain ⟨j,hj,rfl⟩:=List.getElem_of_mem he2
  have hkn : kn ≠ 0:=by have:=hk.len; omega
  obtain ⟨_,_,-,-,-,hc2⟩:=hk.at_ hkn
  obtain ⟨e',h1,h2,-⟩:=hc2 j (by have:=hk.len; omega)
  have : e' = (os[i].kids)[j]:=by simp [hj] at h1; exact h1.symm
  rw [← this]
  exact h2
end
section
open Go.RowKit
end
section
open Go.RowKit
end
section
open Go.RowKit
end
section
end
section
open Go.RowKit
end
end Go.Proofs.YtloopeipheklpaaGreatDoor
