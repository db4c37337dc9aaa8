/- Lemmas that the proofs of this seat share: DeedB. -/
import Derived.Test.YtloopeipheklpaaGreatDoorW01
import Derived.Test.YtloopeipheklpaaGreatDoorW19
import Derived.Deep.DeepCutAuto
namespace Go.Proofs.YtloopeipheklpaaGreatDoor
open Go.RowKit
set_option maxHeartbeats 4000000 in
set_option maxRecDepth 20000 in
theorem writing_do (a : Nat → Addr) (U B b c n : Nat) (o : LOp) (os : List LObj) (vs : Nat → Value) (w : World) (hU : U ≤ B) (HS : Sents w U a) (hB : B ≤ w.heap.size) (hs : specOk os = true) (hn : n = 32) (hok : opOk o = true) (hz : OpSz o) (H : OwnT w B b c os vs) :
    Calls Tryz.prog 301 #[.agg #[.int .i64 o.kind,.int .i64 o.dir,.string o.name,.int .i64 o.dir2,.string o.name2,.int .i64 o.id,.string o.text],.agg #[.slice (some ⟨b,0,none⟩) n c]] w fun e w'=>DeedEnd w a B b c n vs (actText os o) e w':=by
  have hlen:=ok_len hs
  have b1:=opOk_id hok
  have b2:=opOk_dir hok
  have b3:=opOk_dir2 hok
  have hbl:=H.lt
  obtain ⟨i,hi⟩ : ∃ i : Nat,o.id = i:=⟨o.id.toNat,by omega⟩
  obtain ⟨x,hx⟩ : ∃ x,os[i]? = some x:=⟨os[i]'(by omega),by simp⟩
  have HX : Hid (os[i]? = some x):=hx
  have hA : Below w.heap.size w ((w.alloc (Obj.cells #[.int .i64 o.kind,.int .i64 o.dir,.string o.name,.int .i64 o.dir2,.string o.name2,.int .i64 o.id,.string o.text] 303)).alloc (Obj.cells #[.slice (some ⟨b,0,none⟩) n c] 235)):=((Below.refl _ _).alloc (Nat.le_refl _) _).alloc (by simp) _
  have hD0 : DBox ((w.alloc (Obj.cells #[.int .i64 o.kind,.int .i64 o.dir,.string o.name,.int .i64 o.dir2,.string o.name2,.int .i64 o.id,.string o.text] 303)).alloc (Obj.cells #[.slice (some ⟨b,0,none⟩) n c] 235)) w.heap.size b n c o:=⟨by simp [go_sem],by simp [go_sem],by simp [go_sem],by simp [go_sem],by simp [go_sem],by simp [go_sem],by simp [go_sem],by simp [go_sem],by simp⟩
  have HACT : Hid (actText os o = if x.kind ≠ 1 then (os,6) else (os.set i { x with text:=o.text,ver:=x.ver + 1 },0)):=by
    show _ = _
    unfold actText
    rw [hi,Int.toNat_natCast,hx]
  have HIJ : Hid (o.id = i):=hi
  have hver:=ok_ver hs hx
  have hin : i < n:=by omega
  have hin' : (i : Int) < (n : Int):=by omega
  have hi0 : (0 : Int) ≤ (i : Int):=by omega
  have HSE : Hid (Sents w U a):=HS
  have HOT : Hid (OwnT w B b c os vs):=H
  have HV : Hid (∀ q g,q < n → (vs q).ownBlock = some g → g < w.heap.size):=fun q g hq hg=>H.vlt (by omega) q g hq hg
  obtain ⟨W0,hW0⟩ : ∃ W0 : World,W0 = ((w.alloc (Obj.cells #[.int .i64 o.kind,.int .i64 o.dir,.string o.name,.int .i64 o.dir2,.string o.name2,.int .i64 o.id,.string o.text] 303)).alloc (Obj.cells #[.slice (some ⟨b,0,none⟩) n c] 235)):=⟨_,rfl⟩
  rw [← hW0] at hA hD0
  have HN : Hid (n = 32 ∧ os.length = 32):=⟨hn,hlen⟩
  have htx:=hz.text
  have hUw : U ≤ w.heap.size:=by omega
  have hz0:=hD0.sz
  have e5:=hD0.k5
  have e6:=hD0.k6
  have e7:=hD0.tr
  rw [HIJ.out] at e5
  have hOT0:=HOT.out.below hA
  obtain ⟨-,p0,p1,p2,-,-,-⟩:=hOT0.at_ i x HX.out
  have z2:=hOT0.frozen (i * 4 + 2)
  have HOT0 : Hid (OwnT W0 B b c os vs):=hOT0
  have hbl0 : b < W0.heap.size:=hOT0.lt
  clear hi hn hlen HS H hx b1 b2 b3 hs hok hz hOT0
  go_enter Tryz.func301,Tryz.ntmps301
  go_upto_region 1 with fail
  rw [← hW0]
  clear hW0
  rcases t1 : (x.kind != 1) with _ | _
  case true =>
    have s6 : W0.cell? ⟨6,0,none⟩ = some (.iface 323 (.pointer (some (a 6)))):=(HSE.out.below hA hUw).cell 6 (by omega)
    have hne : Hid (x.kind ≠ 1):=by show _ ≠ _; simpa using t1
    go_wp2_with fail
    go_ret
    exact DeedEnd.no 6 (by omega) (by rw [HACT.out,if_pos (by have:=hne.out; omega)]; rfl) HOT.out hB hA rfl
  have hne : Hid (x.kind = 1):=by show _ = _; simpa using t1
  go_upto_region 4 with fail
  have hP1 : DPost w (W0.setCell ⟨b,i * 4 + 2,none⟩ (.string o.text)) B b c n (os.set i { x with text:=o.text }) vs vs :=
    ⟨HOT0.out.setText HX.out o.text htx,(hA.mono hB).setCell HOT.out.lo _,Kt.set (Kt.of_below hA b n vs) _ _,fun q g hq hg=>.inl hg⟩
  have h1 : DBox (W0.setCell ⟨b,i * 4 + 2,none⟩ (.string o.text)) w.heap.size b n c o:=hD0.of (by simp) fun q hq1 hq2=>Below.heap_setCell W0 ⟨b,i * 4 + 2,none⟩ _ q (by show q ≠ b; omega)
  generalize W0.setCell ⟨b,i * 4 + 2,none⟩ (.string o.text) = W1 at *
  clear p0 p1 p2 z2 e5 e6 e7 hD0
  have e5:=h1.k5
  have e7:=h1.tr
  rw [HIJ.out] at e5
  have hz1:=h1.sz
  have hBW1 : B ≤ W1.heap.size:=by omega
  go_wp2_with fail
  refine (turn_t B b c n i { x with text:=o.text } _ vs W1 (by rw [List.length_set,HN.out.2]; exact HN.out.1) (List.getElem?_set_self (by rw [HN.out.2,← HN.out.1]; exact hin)) (by show _ ≤ x.ver; omega) (by show x.ver ≤ _; omega) hBW1 hP1.own).mono ?_
  rintro z W6 ⟨rfl,hP6⟩
  have hP:=hP1.trans hP6
  clear hP6 hP1 e5 e7
  go_wp2_with fail
  go_ret
  refine ⟨0,vs,?_,by omega,rfl,?_⟩
  · rw [HACT.out,if_neg (by have:=hne.out; omega)]; rfl
  · rw [HACT.out,if_neg (by have:=hne.out; omega)]
    simpa [List.set_set] using hP
set_option maxHeartbeats 4000000 in
set_option maxRecDepth 20000 in
theorem going_do (a : Nat → Addr) (U B b c n : Nat) (o : LOp) (os : List LObj) (vs : Nat → Value) (w : World) (hU : U ≤ B) (HS : Sents w U a) (hB : B ≤ w.heap.size) (hs : specOk os = true) (hn : n = 32) (hok : opOk o = true)  (H : OwnT w B b c os vs) :
    Calls Tryz.prog 295 #[.agg #[.int .i64 o.kind,.int .i64 o.dir,.string o.name,.int .i64 o.dir2,.string o.name2,.int .i64 o.id,.string o.text],.agg #[.slice (some ⟨b,0,none⟩) n c]] w fun e w'=>DeedEnd w a B b c n vs (actGone os o) e w':=by
  have hlen:=ok_len hs
  have b1:=opOk_id hok
  have b2:=opOk_dir hok
  have b3:=opOk_dir2 hok
  have hbl:=H.lt
  obtain ⟨i,hi⟩ : ∃ i : Nat,o.id = i:=⟨o.id.toNat,by omega⟩
  obtain ⟨x,hx⟩ : ∃ x,os[i]? = some x:=⟨os[i]'(by omega),by simp⟩
  have HX : Hid (os[i]? = some x):=hx
  obtain ⟨j,hj⟩ : ∃ j : Nat,o.dir = j:=⟨o.dir.toNat,by omega⟩
  obtain ⟨d,hd⟩ : ∃ d,os[j]? = some d:=⟨os[j]'(by omega),by simp⟩
  have HD : Hid (os[j]? = some d):=hd
  have hA : Below w.heap.size w ((w.alloc (Obj.cells #[.int .i64 o.kind,.int .i64 o.dir,.string o.name,.int .i64 o.dir2,.string o.name2,.int .i64 o.id,.string o.text] 301)).alloc (Obj.cells #[.slice (some ⟨b,0,none⟩) n c] 235)):=((Below.refl _ _).alloc (Nat.le_refl _) _).alloc (by simp) _
  have hD0 : DBox ((w.alloc (Obj.cells #[.int .i64 o.kind,.int .i64 o.dir,.string o.name,.int .i64 o.dir2,.string o.name2,.int .i64 o.id,.string o.text] 301)).alloc (Obj.cells #[.slice (some ⟨b,0,none⟩) n c] 235)) w.heap.size b n c o:=⟨by simp [go_sem],by simp [go_sem],by simp [go_sem],by simp [go_sem],by simp [go_sem],by simp [go_sem],by simp [go_sem],by simp [go_sem],by simp⟩
  have HACT : Hid (actGone os o = if d.kind ≠ 2 then (os,1) else if findV d.kids o.name ≠ o.id then (os,2) else if 0 < x.kids.length then (os,4) else ((os.set j { d with kids:=outL o.name d.kids,ver:=d.ver + 1 }).set i ⟨0,x.ver + 1,⟨#[]⟩,[]⟩,0)):=by
    show _ = _
    unfold actGone
    rw [hi,hj,Int.toNat_natCast,Int.toNat_natCast,hd,hx]
  have HIJ : Hid (o.id = i ∧ o.dir = j):=⟨hi,hj⟩
  have hcd:=H.at_ j d hd
  have hcx:=H.at_ i x hx
  obtain ⟨ka,kc,hvd,hEd⟩:=hcd.2.2.2.2.2.1.at_ hcd.2.2.2.2.2.2
  obtain ⟨xa,xc,hvx,_⟩:=hcx.2.2.2.2.2.1.at_ hcx.2.2.2.2.2.2
  have hc3 : w.cell? ⟨b,j * 4 + 3,none⟩ = some (.slice ka d.kids.length kc):=by rw [hcd.2.2.2.2.1,hvd]
  have hx3 : w.cell? ⟨b,i * 4 + 3,none⟩ = some (.slice xa x.kids.length xc):=by rw [hcx.2.2.2.2.1,hvx]
  have hkb : d.kids.length ≤ 32:=ok_kids hs hd
  have hkx : x.kids.length ≤ 32:=ok_kids hs hx
  have hasc:=ok_asc hs hd
  have hver:=ok_ver hs hd
  have hverx:=ok_ver hs hx
  have HFV : Hid ((findV d.kids o.name = -1 ∧ ∀ e ∈ d.kids,e.name ≠ o.name) ∨ ∃ (k : Nat) (e : LEnt),d.kids[k]? = some e ∧ e.name = o.name ∧ findV d.kids o.name = e.id):=findV_or d.kids o.name
  have HV : Hid (∀ q g,q < n → (vs q).ownBlock = some g → g < w.heap.size):=fun q g hq hg=>H.vlt (by omega) q g hq hg
  have hjn : j < n:=by omega
  have hin : i < n:=by omega
  have hin' : (i : Int) < (n : Int):=by omega
  have hi0 : (0 : Int) ≤ (i : Int):=by omega
  have HSE : Hid (Sents w U a):=HS
  have HOT : Hid (OwnT w B b c os vs):=H
  have HEd : Hid (EntsAt w B w.heap.size ka d.kids.length d.kids):=hEd
  obtain ⟨W0,hW0⟩ : ∃ W0 : World,W0 = ((w.alloc (Obj.cells #[.int .i64 o.kind,.int .i64 o.dir,.string o.name,.int .i64 o.dir2,.string o.name2,.int .i64 o.id,.string o.text] 301)).alloc (Obj.cells #[.slice (some ⟨b,0,none⟩) n c] 235)):=⟨_,rfl⟩
  rw [← hW0] at hA hD0
  have HN : Hid (n = 32 ∧ os.length = 32):=⟨hn,hlen⟩
  have hUw : U ≤ w.heap.size:=by omega
  have hz0:=hD0.sz
  have e1:=hD0.k1
  have e2:=hD0.k2
  have e5:=hD0.k5
  have e7:=hD0.tr
  rw [HIJ.out.1] at e5
  rw [HIJ.out.2] at e1
  clear hi hj hn hlen HS H hd hx hEd hcx hvd hvx b1 b2 b3 hs hok
  go_enter Tryz.func295,Tryz.ntmps295
  go_upto_region 1 with fail
  rw [← hW0]
  clear hW0
  go_wp2_with fail
  refine (isDir_t b c n j d.kind _ hjn (by have:=hA.size; omega) (by rw [hA.cell (by simpa using hbl)]; exact hcd.2.1)).mono ?_
  rintro z w1 ⟨rfl,hb1⟩
  have h1:=hD0.next hb1
  have hB1 : Below w.heap.size w w1:=hA.trans (hb1.mono hA.size)
  clear hb1 hA hD0 e1 e2 e5 e7
  have e1:=h1.k1
  have e2:=h1.k2
  have e5:=h1.k5
  have e7:=h1.tr
  rw [HIJ.out.1] at e5
  rw [HIJ.out.2] at e1
  rcases t1 : (d.kind == 2) with _ | _
  · have s1 : w1.cell? ⟨1,0,none⟩ = some (.iface 323 (.pointer (some (a 1)))):=(HSE.out.below hB1 hUw).cell 1 (by omega)
    have hne : Hid (d.kind ≠ 2):=by show _ ≠ _; simpa using t1
    go_wp2_with fail
    go_ret
    exact DeedEnd.no 1 (by omega) (by rw [HACT.out,if_pos (by have:=hne.out; omega)]; rfl) HOT.out hB hB1 rfl
  have HK2 : Hid (d.kind = 2):=by show _ = _; simpa using t1
  have hz1:=h1.sz
  go_upto_region 3 with fail
  go_cut [13] (fun v wx=>v = .bool (findV d.kids o.name != (i : Int)) ∧ DBox wx w.heap.size b n c o ∧ Below w.heap.size w wx)
  case first =>
    refine wp_region_held_drew (S:=(fun W=>DBox W w.heap.size b n c o)) (by kernel_rfl) ?_ (fun hHeld=>?_)
    · exact h1.next (Below.refl _ _).drew
    refine listH (l2:=#[false,false,false,false,false,false,false,false,false,false,false,false,false]) (by kernel_rfl) ?_
    refine takeH (i:=0) (oi:=_) (v:=?vt1x0) 14 #[true,false,false,false,false,false,false,false,false,false,false,false,false] rfl (by kernel_rfl) (by kernel_rfl) (by kernel_rfl) rfl (by kernel_rfl) (fun _ _ _ h=>h) (Or.inl ⟨by rfl,?yt1x0⟩) (by assumption) ?rt1x0
    case yt1x0=>(intro w' hSw; (try dsimp only at hSw); have x1:=hSw.k1; rw [HIJ.out.2] at x1; have x2:=hSw.k2; have x5:=hSw.k5; rw [HIJ.out.1] at x5; have x7:=hSw.tr; go_simp; try with_reducible rfl)
    simp only [Act.put,sT,sS,sZ]
    refine takeH (i:=1) (oi:=_) (v:=?vt1x1) 15 #[true,true,false,false,false,false,false,false,false,false,false,false,false] rfl (by kernel_rfl) (by kernel_rfl) (by kernel_rfl) rfl (by kernel_rfl) (fun _ _ _ h=>h) (Or.inl ⟨by rfl,?yt1x1⟩) (by assumption) ?rt1x1
    case yt1x1=>(intro w' hSw; (try dsimp only at hSw); have x1:=hSw.k1; rw [HIJ.out.2] at x1; have x2:=hSw.k2; have x5:=hSw.k5; rw [HIJ.out.1] at x5; have x7:=hSw.tr; go_simp; try with_reducible rfl)
    simp only [Act.put,sT,sS,sZ]
    refine takeH (i:=2) (oi:=_) (v:=?vt1x2) 16 #[true,true,true,false,false,false,false,false,false,false,false,false,false] rfl (by kernel_rfl) (by kernel_rfl) (by kernel_rfl) rfl (by kernel_rfl) (fun _ _ _ h=>h) (Or.inl ⟨by rfl,?yt1x2⟩) (by assumption) ?rt1x2
    case yt1x2=>(intro w' hSw; (try dsimp only at hSw); have x1:=hSw.k1; rw [HIJ.out.2] at x1; have x2:=hSw.k2; have x5:=hSw.k5; rw [HIJ.out.1] at x5; have x7:=hSw.tr; go_simp; try with_reducible rfl)
    simp only [Act.put,sT,sS,sZ]
    refine takeH (i:=3) (oi:=_) (v:=?vt1x3) 17 #[true,true,true,true,false,false,false,false,false,false,false,false,false] rfl (by kernel_rfl) (by kernel_rfl) (by kernel_rfl) rfl (by kernel_rfl) (fun _ _ _ h=>h) (Or.inl ⟨by rfl,?yt1x3⟩) (by assumption) ?rt1x3
    case yt1x3=>(intro w' hSw; (try dsimp only at hSw); have x1:=hSw.k1; rw [HIJ.out.2] at x1; have x2:=hSw.k2; have x5:=hSw.k5; rw [HIJ.out.1] at x5; have x7:=hSw.tr; go_simp; try with_reducible rfl)
    simp only [Act.put,sT,sS,sZ]
    refine takeH (i:=4) (oi:=_) (v:=?vt1x4) 18 #[true,true,true,true,true,false,false,false,false,false,false,false,false] rfl (by kernel_rfl) (by kernel_rfl) (by kernel_rfl) rfl (by kernel_rfl) (fun _ _ _ h=>h) (Or.inl ⟨by rfl,?yt1x4⟩) (by assumption) ?rt1x4
    case yt1x4=>(intro w' hSw; (try dsimp only at hSw); have x1:=hSw.k1; rw [HIJ.out.2] at x1; have x2:=hSw.k2; have x5:=hSw.k5; rw [HIJ.out.1] at x5; have x7:=hSw.tr; go_simp; try with_reducible rfl)
    simp only [Act.put,sT,sS,sZ]
    refine takeH (i:=5) (oi:=_) (v:=?vt1x5) 19 #[true,true,true,true,true,true,false,false,false,false,false,false,false] rfl (by kernel_rfl) (by kernel_rfl) (by kernel_rfl) rfl (by kernel_rfl) (fun _ _ _ h=>h) (Or.inl ⟨by rfl,?yt1x5⟩) (by assumption) ?rt1x5
    case yt1x5=>(intro w' hSw; (try dsimp only at hSw); have x1:=hSw.k1; rw [HIJ.out.2] at x1; have x2:=hSw.k2; have x5:=hSw.k5; rw [HIJ.out.1] at x5; have x7:=hSw.tr; go_simp; try with_reducible rfl)
    simp only [Act.put,sT,sS,sZ]
    refine takeH (i:=6) (oi:=_) (v:=?vt1x6) 20 #[true,true,true,true,true,true,true,false,false,false,false,false,false] rfl (by kernel_rfl) (by kernel_rfl) (by kernel_rfl) rfl (by kernel_rfl) (fun _ _ _ h=>h) (Or.inl ⟨by rfl,?yt1x6⟩) (by assumption) ?rt1x6
    case yt1x6=>(intro w' hSw; (try dsimp only at hSw); have x1:=hSw.k1; rw [HIJ.out.2] at x1; have x2:=hSw.k2; have x5:=hSw.k5; rw [HIJ.out.1] at x5; have x7:=hSw.tr; go_simp; try with_reducible rfl)
    simp only [Act.put,sT,sS,sZ]
    refine takeH (i:=8) (oi:=_) (v:=?vt1x8) 22 #[true,true,true,true,true,true,true,false,true,false,false,false,false] rfl (by kernel_rfl) (by kernel_rfl) (by kernel_rfl) rfl (by kernel_rfl) (fun _ _ _ h=>h) (Or.inl ⟨by rfl,?yt1x8⟩) (by assumption) ?rt1x8
    case yt1x8=>(intro w' hSw; (try dsimp only at hSw); have x1:=hSw.k1; rw [HIJ.out.2] at x1; have x2:=hSw.k2; have x5:=hSw.k5; rw [HIJ.out.1] at x5; have x7:=hSw.tr; go_simp; try with_reducible rfl)
    simp only [Act.put,sT,sS,sZ]
    refine takeH (i:=9) (oi:=_) (v:=?vt1x9) 23 #[true,true,true,true,true,true,true,false,true,true,false,false,false] rfl (by kernel_rfl) (by kernel_rfl) (by kernel_rfl) rfl (by kernel_rfl) (fun _ _ _ h=>h) (Or.inl ⟨by rfl,?yt1x9⟩) (by assumption) ?rt1x9
    case yt1x9=>(intro w' hSw; (try dsimp only at hSw); have x1:=hSw.k1; rw [HIJ.out.2] at x1; have x2:=hSw.k2; have x5:=hSw.k5; rw [HIJ.out.1] at x5; have x7:=hSw.tr; go_simp; try with_reducible rfl)
    simp only [Act.put,sT,sS,sZ]
    refine takeH (i:=10) (oi:=_) (v:=?vt1x10) 24 #[true,true,true,true,true,true,true,false,true,true,true,false,false] rfl (by kernel_rfl) (by kernel_rfl) (by kernel_rfl) rfl (by kernel_rfl) (fun _ _ _ h=>h) (Or.inl ⟨by rfl,?yt1x10⟩) (by assumption) ?rt1x10
    case yt1x10=>(intro w' hSw; (try dsimp only at hSw); have x1:=hSw.k1; rw [HIJ.out.2] at x1; have x2:=hSw.k2; have x5:=hSw.k5; rw [HIJ.out.1] at x5; have x7:=hSw.tr; go_simp; try with_reducible rfl)
    simp only [Act.put,sT,sS,sZ]
    refine wpAnyH_ready (rs:=[7]) (by kernel_rfl) (by simp) ?_
    refine AllReadyH.cons (o:=_) rfl (fun K hK=>?_) AllReadyH.nil
    go_simp
    refine (find_t b c n j ka d.kids.length kc d.kids B w.heap.size o.name _ hjn (by have:=hB1.size; simp; omega) (by rw [World.cell?_drew,hB1.cell (by simpa using hbl)]; exact hc3) (by omega) hasc (by have:=hB1.size; simpa using this) (HEd.out.below (hB1.trans ((Below.refl _ _).drew.mono hB1.size)) (Nat.le_refl _))).mono ?_
    rintro z w2 ⟨rfl,hb2⟩
    have h2:=(h1.next (Below.refl _ _).drew).next hb2
    go_wp2_with fail
    refine hK.out _ _ ?_ (fun hHeld=>?_)
    · exact h2
    clear hK K
    try simp only [Act.put]
    refine listH (l2:=#[true,true,true,true,true,true,true,true,true,true,true,false,false]) (by kernel_rfl) ?_
    refine takeH (i:=11) (oi:=_) (v:=?vt1x11) 25 #[true,true,true,true,true,true,true,true,true,true,true,true,false] rfl (by kernel_rfl) (by kernel_rfl) (by kernel_rfl) rfl (by kernel_rfl) (fun _ _ _ h=>h) (Or.inl ⟨by rfl,?yt1x11⟩) (by assumption) ?rt1x11
    case yt1x11=>(intro w' hSw; (try dsimp only at hSw); have x1:=hSw.k1; rw [HIJ.out.2] at x1; have x2:=hSw.k2; have x5:=hSw.k5; rw [HIJ.out.1] at x5; have x7:=hSw.tr; go_simp; try with_reducible rfl)
    simp only [Act.put,sT,sS,sZ]
    refine wpAnyH_ready (rs:=[12]) (by kernel_rfl) (by simp) ?_
    refine AllReadyH.cons (o:=_) rfl (fun K hK=>?_) AllReadyH.nil
    go_simp
    refine hK.out _ _ ?_ (fun hHeld=>?_)
    · exact h2
    clear hK K
    try simp only [Act.put]
    refine listH (l2:=#[true,true,true,true,true,true,true,true,true,true,true,true,true]) (by kernel_rfl) ?_
    refine wpAnyH_done (by kernel_rfl) ?_ _
    go_wp2_with fail
    go_meet
    exact ⟨rfl,h2,hB1.trans (((Below.refl _ _).drew.mono hB1.size).trans (hb2.mono hB1.size))⟩
  obtain ⟨rfl,h3,hB3⟩:=hcut
  clear h1 hB1 e1 e2 e5 e7
  have e1:=h3.k1
  have e2:=h3.k2
  have e5:=h3.k5
  have e7:=h3.tr
  rw [HIJ.out.1] at e5
  rw [HIJ.out.2] at e1
  rcases t2 : (findV d.kids o.name != (i : Int)) with _ | _
  case true =>
    have s2 : wc.cell? ⟨2,0,none⟩ = some (.iface 323 (.pointer (some (a 2)))):=(HSE.out.below hB3 hUw).cell 2 (by omega)
    have hf : Hid (findV d.kids o.name ≠ o.id):=by show _ ≠ _; rw [HIJ.out.1]; simpa using t2
    go_wp2_with fail
    go_ret
    exact DeedEnd.no 2 (by omega) (by rw [HACT.out,if_neg (by rw [HK2.out]; simp),if_pos hf.out]; rfl) HOT.out hB hB3 rfl
  have hf : Hid (findV d.kids o.name = o.id):=by show _ = _; rw [HIJ.out.1]; simpa using t2
  have hx3' : wc.cell? ⟨b,i * 4 + 3,none⟩ = some (.slice xa x.kids.length xc):=by rw [hB3.cell (by simpa using hbl)]; exact hx3
  have hz3:=h3.sz
  have hbl3 : b < wc.heap.size:=by have:=hB3.size; omega
  by_cases hlen : 0 < x.kids.length
  · have s4 : wc.cell? ⟨4,0,none⟩ = some (.iface 323 (.pointer (some (a 4)))):=(HSE.out.below hB3 hUw).cell 4 (by omega)
    have hlI : (0 : Int) < (x.kids.length : Int):=by omega
    have hg : Hid (0 < x.kids.length):=hlen
    go_wp2_with fail
    go_ret
    exact DeedEnd.no 4 (by omega) (by rw [HACT.out,if_neg (by rw [HK2.out]; simp),if_neg (by rw [hf.out]; simp),if_pos hg.out]; rfl) HOT.out hB hB3 rfl
  have hg : Hid (x.kids.length = 0):=by show _ = _; omega
  have hlI : ¬ (0 : Int) < (x.kids.length : Int):=by omega
  have HEN : Hid (∃ (k : Nat) (e : LEnt),d.kids[k]? = some e ∧ e.name = o.name):=by
    rcases HFV.out with ⟨h,_⟩ | ⟨k,e,q1,q2,_⟩
    · rw [hf.out,HIJ.out.1] at h; omega
    · exact ⟨k,e,q1,q2⟩
  have HNE : Hid (j ≠ i):=by
    intro e
    have h9:=HX.out
    rw [← e,HD.out] at h9
    cases h9
    obtain ⟨k,e,q1,_⟩:=HEN.out
    have:=(List.getElem?_eq_some_iff.1 q1).1
    have:=hg.out
    omega
  clear hlen
  go_wp2_with fail
  obtain ⟨ek,ee,he1,he2⟩:=HEN.out
  have HLV:=leave_t B b c n j ek d ee os vs wc (by rw [HN.out.2]; exact HN.out.1) HD.out hasc (by omega) he1 (by omega) (HOT.out.below hB3)
  rw [he2] at HLV
  refine HLV.mono ?_
  rintro z W4 ⟨rfl,vs4,hP4'⟩
  have hvf : ∀ q g,q < n → (vs q).ownBlock = some g → g < w.heap.size ∨ w.heap.size + 1 < g:=fun q g hq hg=>.inl (HV.out q g hq hg)
  have hP4:=(DPost.same HOT.out hB hB3).trans hP4'
  have h4:=h3.post hP4' hbl hvf
  have hvf4:=hP4'.vfar hz3 hvf
  clear HLV hP4' he1 he2 e1 e2 e5 e7 h3 hx3'
  have e1:=h4.k1
  have e2:=h4.k2
  have e5:=h4.k5
  have e7:=h4.tr
  rw [HIJ.out.1] at e5
  rw [HIJ.out.2] at e1
  have hBW4 : B ≤ W4.heap.size:=by have:=hP4.below.size; omega
  have hz4:=h4.sz
  go_wp2_with fail
  refine (turn_t B b c n j { d with kids:=outL o.name d.kids } _ vs4 W4 (by rw [List.length_set,HN.out.2]; exact HN.out.1) (List.getElem?_set_self (by rw [HN.out.2,← HN.out.1]; exact hjn)) (by show _ ≤ d.ver; omega) (by show d.ver ≤ _; omega) hBW4 hP4.own).mono ?_
  rintro z W5 ⟨rfl,hP5'⟩
  have hP5:=hP4.trans hP5'
  have h5:=h4.post hP5' hbl hvf4
  clear hP5' hP4 h4 e1 e2 e5 e7
  have e1:=h5.k1
  have e2:=h5.k2
  have e5:=h5.k5
  have e7:=h5.tr
  rw [HIJ.out.1] at e5
  rw [HIJ.out.2] at e1
  have hBW5 : B ≤ W5.heap.size:=by have:=hP5.below.size; omega
  have hz5:=h5.sz
  have HX5 : Hid (((os.set j { d with kids:=outL o.name d.kids }).set j { d with kids:=outL o.name d.kids,ver:=d.ver + 1 })[i]? = some x):=by
    show _ = _
    rw [List.getElem?_set_ne HNE.out,List.getElem?_set_ne HNE.out]; exact HX.out
  obtain ⟨-,p0,p1,p2,p3,-,-⟩:=hP5.own.at_ i x HX5.out
  have y0:=hP5.own.frozen (i * 4)
  have y1:=hP5.own.frozen (i * 4 + 1)
  have y2:=hP5.own.frozen (i * 4 + 2)
  have y3:=hP5.own.frozen (i * 4 + 3)
  have hbl5 : b < W5.heap.size:=hP5.own.lt
  have hOT6:=(OwnT.of_heap (w':=W5.drew) (by rfl) hP5.own).put4 HX5.out 0 x.ver
  have hput : put4 W5.drew b i 0 x.ver = (((W5.drew.setCell ⟨b,i * 4,none⟩ (.int .i64 0)).setCell ⟨b,i * 4 + 1,none⟩ (.int .i64 x.ver)).setCell ⟨b,i * 4 + 2,none⟩ (.string ⟨#[]⟩)).setCell ⟨b,i * 4 + 3,none⟩ (.slice none 0 0):=rfl
  have hD9 : DBox ((((W5.drew.setCell ⟨b,i * 4,none⟩ (.int .i64 0)).setCell ⟨b,i * 4 + 1,none⟩ (.int .i64 x.ver)).setCell ⟨b,i * 4 + 2,none⟩ (.string ⟨#[]⟩)).setCell ⟨b,i * 4 + 3,none⟩ (.slice none 0 0)) w.heap.size b n c o:=by
    rw [← hput]
    exact h5.of (by rw [put4_size]; exact Nat.le_refl _) fun q hq1 hq2=>put4_block W5.drew b i 0 x.ver (by omega)
  have hv9 : ((((W5.drew.setCell ⟨b,i * 4,none⟩ (.int .i64 0)).setCell ⟨b,i * 4 + 1,none⟩ (.int .i64 x.ver)).setCell ⟨b,i * 4 + 2,none⟩ (.string ⟨#[]⟩)).setCell ⟨b,i * 4 + 3,none⟩ (.slice none 0 0)).cell? ⟨b,i * 4 + 1,none⟩ = some (.int .i64 x.ver):=by
    rw [← hput]
    exact (hOT6.at_ i _ (List.getElem?_set_self (by simp [HN.out.2]; have:=HN.out.1; omega))).2.2.1
  have hP6 : DPost W5 (put4 W5.drew b i 0 x.ver) B b c n _ vs4 _ :=
    ⟨hOT6,put4_below i 0 x.ver (Below.refl B W5).drew HOT.out.lo,Kt.put4 (Kt.of_below (Below.refl _ _).drew b n vs4),fun q g hq hg=>by
      by_cases e : q = i
      · simp [e,Value.ownBlock] at hg
      · simp only [e,if_false] at hg; exact .inl hg⟩
  go_upto_region 9 with fail
  go_cut [] (fun wx=>wx = put4 W5.drew b i 0 x.ver)
  case first =>
    refine wp_region_held_drew (S:=(fun W=>DBox W w.heap.size b n c o ∧ W.cell? ⟨b,i * 4 + 1,none⟩ = some (.int .i64 x.ver))) (by kernel_rfl) ?_ (fun hHeld=>?_)
    · exact ⟨h5.next (Below.refl _ _).drew,by rw [World.cell?_drew]; exact p1⟩
    refine listH (l2:=#[false,false,false,false,false,false,false,false,false,false,false,false,false,false,false,false,false,false]) (by kernel_rfl) ?_
    refine takeH (i:=0) (oi:=_) (v:=?vt2x0) 53 #[true,false,false,false,false,false,false,false,false,false,false,false,false,false,false,false,false,false] rfl (by kernel_rfl) (by kernel_rfl) (by kernel_rfl) rfl (by kernel_rfl) (fun _ _ _ h=>h) (Or.inl ⟨by rfl,?yt2x0⟩) (by assumption) ?rt2x0
    case yt2x0=>(intro w' hSw; (try dsimp only at hSw); have x1:=hSw.1.k1; rw [HIJ.out.2] at x1; have x2:=hSw.1.k2; have x5:=hSw.1.k5; rw [HIJ.out.1] at x5; have x7:=hSw.1.tr; have xv:=hSw.2; go_simp; try with_reducible rfl)
    simp only [Act.put,sT,sS,sZ]
    refine takeH (i:=1) (oi:=_) (v:=?vt2x1) 54 #[true,true,false,false,false,false,false,false,false,false,false,false,false,false,false,false,false,false] rfl (by kernel_rfl) (by kernel_rfl) (by kernel_rfl) rfl (by kernel_rfl) (fun _ _ _ h=>h) (Or.inl ⟨by rfl,?yt2x1⟩) (by assumption) ?rt2x1
    case yt2x1=>(intro w' hSw; (try dsimp only at hSw); have x1:=hSw.1.k1; rw [HIJ.out.2] at x1; have x2:=hSw.1.k2; have x5:=hSw.1.k5; rw [HIJ.out.1] at x5; have x7:=hSw.1.tr; have xv:=hSw.2; go_simp; try with_reducible rfl)
    simp only [Act.put,sT,sS,sZ]
    refine takeH (i:=2) (oi:=_) (v:=?vt2x2) 55 #[true,true,true,false,false,false,false,false,false,false,false,false,false,false,false,false,false,false] rfl (by kernel_rfl) (by kernel_rfl) (by kernel_rfl) rfl (by kernel_rfl) (fun _ _ _ h=>h) (Or.inl ⟨by rfl,?yt2x2⟩) (by assumption) ?rt2x2
    case yt2x2=>(intro w' hSw; (try dsimp only at hSw); have x1:=hSw.1.k1; rw [HIJ.out.2] at x1; have x2:=hSw.1.k2; have x5:=hSw.1.k5; rw [HIJ.out.1] at x5; have x7:=hSw.1.tr; have xv:=hSw.2; go_simp; try with_reducible rfl)
    simp only [Act.put,sT,sS,sZ]
    refine takeH (i:=3) (oi:=_) (v:=?vt2x3) 56 #[true,true,true,true,false,false,false,false,false,false,false,false,false,false,false,false,false,false] rfl (by kernel_rfl) (by kernel_rfl) (by kernel_rfl) rfl (by kernel_rfl) (fun _ _ _ h=>h) (Or.inl ⟨by rfl,?yt2x3⟩) (by assumption) ?rt2x3
    case yt2x3=>(intro w' hSw; (try dsimp only at hSw); have x1:=hSw.1.k1; rw [HIJ.out.2] at x1; have x2:=hSw.1.k2; have x5:=hSw.1.k5; rw [HIJ.out.1] at x5; have x7:=hSw.1.tr; have xv:=hSw.2; go_simp; try with_reducible rfl)
    simp only [Act.put,sT,sS,sZ]
    refine takeH (i:=4) (oi:=_) (v:=?vt2x4) 57 #[true,true,true,true,true,false,false,false,false,false,false,false,false,false,false,false,false,false] rfl (by kernel_rfl) (by kernel_rfl) (by kernel_rfl) rfl (by kernel_rfl) (fun _ _ _ h=>h) (Or.inl ⟨by rfl,?yt2x4⟩) (by assumption) ?rt2x4
    case yt2x4=>(intro w' hSw; (try dsimp only at hSw); have x1:=hSw.1.k1; rw [HIJ.out.2] at x1; have x2:=hSw.1.k2; have x5:=hSw.1.k5; rw [HIJ.out.1] at x5; have x7:=hSw.1.tr; have xv:=hSw.2; go_simp; try with_reducible rfl)
    simp only [Act.put,sT,sS,sZ]
    refine takeH (i:=5) (oi:=_) (v:=?vt2x5) 58 #[true,true,true,true,true,true,false,false,false,false,false,false,false,false,false,false,false,false] rfl (by kernel_rfl) (by kernel_rfl) (by kernel_rfl) rfl (by kernel_rfl) (fun _ _ _ h=>h) (Or.inl ⟨by rfl,?yt2x5⟩) (by assumption) ?rt2x5
    case yt2x5=>(intro w' hSw; (try dsimp only at hSw); have x1:=hSw.1.k1; rw [HIJ.out.2] at x1; have x2:=hSw.1.k2; have x5:=hSw.1.k5; rw [HIJ.out.1] at x5; have x7:=hSw.1.tr; have xv:=hSw.2; go_simp; try with_reducible rfl)
    simp only [Act.put,sT,sS,sZ]
    refine takeH (i:=6) (oi:=_) (v:=?vt2x6) 59 #[true,true,true,true,true,true,true,false,false,false,false,false,false,false,false,false,false,false] rfl (by kernel_rfl) (by kernel_rfl) (by kernel_rfl) rfl (by kernel_rfl) (fun _ _ _ h=>h) (Or.inl ⟨by rfl,?yt2x6⟩) (by assumption) ?rt2x6
    case yt2x6=>(intro w' hSw; (try dsimp only at hSw); have x1:=hSw.1.k1; rw [HIJ.out.2] at x1; have x2:=hSw.1.k2; have x5:=hSw.1.k5; rw [HIJ.out.1] at x5; have x7:=hSw.1.tr; have xv:=hSw.2; go_simp; try with_reducible rfl)
    simp only [Act.put,sT,sS,sZ]
    refine takeH (i:=7) (oi:=_) (v:=?vt2x7) 60 #[true,true,true,true,true,true,true,true,false,false,false,false,false,false,false,false,false,false] rfl (by kernel_rfl) (by kernel_rfl) (by kernel_rfl) rfl (by kernel_rfl) (fun _ _ _ h=>h) (Or.inl ⟨by rfl,?yt2x7⟩) (by assumption) ?rt2x7
    case yt2x7=>(intro w' hSw; (try dsimp only at hSw); have x1:=hSw.1.k1; rw [HIJ.out.2] at x1; have x2:=hSw.1.k2; have x5:=hSw.1.k5; rw [HIJ.out.1] at x5; have x7:=hSw.1.tr; have xv:=hSw.2; go_simp; try with_reducible rfl)
    simp only [Act.put,sT,sS,sZ]
    refine takeH (i:=8) (oi:=_) (v:=?vt2x8) 61 #[true,true,true,true,true,true,true,true,true,false,false,false,false,false,false,false,false,false] rfl (by kernel_rfl) (by kernel_rfl) (by kernel_rfl) rfl (by kernel_rfl) (fun _ _ _ h=>h) (Or.inl ⟨by rfl,?yt2x8⟩) (by assumption) ?rt2x8
    case yt2x8=>(intro w' hSw; (try dsimp only at hSw); have x1:=hSw.1.k1; rw [HIJ.out.2] at x1; have x2:=hSw.1.k2; have x5:=hSw.1.k5; rw [HIJ.out.1] at x5; have x7:=hSw.1.tr; have xv:=hSw.2; go_simp; try with_reducible rfl)
    simp only [Act.put,sT,sS,sZ]
    refine takeH (i:=9) (oi:=_) (v:=?vt2x9) 62 #[true,true,true,true,true,true,true,true,true,true,false,false,false,false,false,false,false,false] rfl (by kernel_rfl) (by kernel_rfl) (by kernel_rfl) rfl (by kernel_rfl) (fun _ _ _ h=>h) (Or.inl ⟨by rfl,?yt2x9⟩) (by assumption) ?rt2x9
    case yt2x9=>(intro w' hSw; (try dsimp only at hSw); have x1:=hSw.1.k1; rw [HIJ.out.2] at x1; have x2:=hSw.1.k2; have x5:=hSw.1.k5; rw [HIJ.out.1] at x5; have x7:=hSw.1.tr; have xv:=hSw.2; go_simp; try with_reducible rfl)
    simp only [Act.put,sT,sS,sZ]
    refine takeH (i:=10) (oi:=_) (v:=?vt2x10) 63 #[true,true,true,true,true,true,true,true,true,true,true,false,false,false,false,false,false,false] rfl (by kernel_rfl) (by kernel_rfl) (by kernel_rfl) rfl (by kernel_rfl) (fun _ _ _ h=>h) (Or.inl ⟨by rfl,?yt2x10⟩) (by assumption) ?rt2x10
    case yt2x10=>(intro w' hSw; (try dsimp only at hSw); have x1:=hSw.1.k1; rw [HIJ.out.2] at x1; have x2:=hSw.1.k2; have x5:=hSw.1.k5; rw [HIJ.out.1] at x5; have x7:=hSw.1.tr; have xv:=hSw.2; go_simp; try with_reducible rfl)
    simp only [Act.put,sT,sS,sZ]
    refine takeH (i:=11) (oi:=_) (v:=?vt2x11) 64 #[true,true,true,true,true,true,true,true,true,true,true,true,false,false,false,false,false,false] rfl (by kernel_rfl) (by kernel_rfl) (by kernel_rfl) rfl (by kernel_rfl) (fun _ _ _ h=>h) (Or.inl ⟨by rfl,?yt2x11⟩) (by assumption) ?rt2x11
    case yt2x11=>(intro w' hSw; (try dsimp only at hSw); have x1:=hSw.1.k1; rw [HIJ.out.2] at x1; have x2:=hSw.1.k2; have x5:=hSw.1.k5; rw [HIJ.out.1] at x5; have x7:=hSw.1.tr; have xv:=hSw.2; go_simp; try with_reducible rfl)
    simp only [Act.put,sT,sS,sZ]
    refine takeH (i:=12) (oi:=_) (v:=?vt2x12) 65 #[true,true,true,true,true,true,true,true,true,true,true,true,true,false,false,false,false,false] rfl (by kernel_rfl) (by kernel_rfl) (by kernel_rfl) rfl (by kernel_rfl) (fun _ _ _ h=>h) (Or.inl ⟨by rfl,?yt2x12⟩) (by assumption) ?rt2x12
    case yt2x12=>(intro w' hSw; (try dsimp only at hSw); have x1:=hSw.1.k1; rw [HIJ.out.2] at x1; have x2:=hSw.1.k2; have x5:=hSw.1.k5; rw [HIJ.out.1] at x5; have x7:=hSw.1.tr; have xv:=hSw.2; go_simp; try with_reducible rfl)
    simp only [Act.put,sT,sS,sZ]
    refine takeH (i:=13) (oi:=_) (v:=?vt2x13) 66 #[true,true,true,true,true,true,true,true,true,true,true,true,true,true,false,false,false,false] rfl (by kernel_rfl) (by kernel_rfl) (by kernel_rfl) rfl (by kernel_rfl) (fun _ _ _ h=>h) (Or.inl ⟨by rfl,?yt2x13⟩) (by assumption) ?rt2x13
    case yt2x13=>(intro w' hSw; (try dsimp only at hSw); have x1:=hSw.1.k1; rw [HIJ.out.2] at x1; have x2:=hSw.1.k2; have x5:=hSw.1.k5; rw [HIJ.out.1] at x5; have x7:=hSw.1.tr; have xv:=hSw.2; go_simp; try with_reducible rfl)
    simp only [Act.put,sT,sS,sZ]
    refine takeH (i:=14) (oi:=_) (v:=?vt2x14) 67 #[true,true,true,true,true,true,true,true,true,true,true,true,true,true,true,false,false,false] rfl (by kernel_rfl) (by kernel_rfl) (by kernel_rfl) rfl (by kernel_rfl) (fun _ _ _ h=>h) (Or.inl ⟨by rfl,?yt2x14⟩) (by assumption) ?rt2x14
    case yt2x14=>(intro w' hSw; (try dsimp only at hSw); have x1:=hSw.1.k1; rw [HIJ.out.2] at x1; have x2:=hSw.1.k2; have x5:=hSw.1.k5; rw [HIJ.out.1] at x5; have x7:=hSw.1.tr; have xv:=hSw.2; go_simp; try with_reducible rfl)
    simp only [Act.put,sT,sS,sZ]
    refine takeH (i:=15) (oi:=_) (v:=?vt2x15) 68 #[true,true,true,true,true,true,true,true,true,true,true,true,true,true,true,true,false,false] rfl (by kernel_rfl) (by kernel_rfl) (by kernel_rfl) rfl (by kernel_rfl) (fun _ _ _ h=>h) (Or.inl ⟨by rfl,?yt2x15⟩) (by assumption) ?rt2x15
    case yt2x15=>(intro w' hSw; (try dsimp only at hSw); have x1:=hSw.1.k1; rw [HIJ.out.2] at x1; have x2:=hSw.1.k2; have x5:=hSw.1.k5; rw [HIJ.out.1] at x5; have x7:=hSw.1.tr; have xv:=hSw.2; go_simp; try with_reducible rfl)
    simp only [Act.put,sT,sS,sZ]
    refine takeH (i:=16) (oi:=_) (v:=?vt2x16) 69 #[true,true,true,true,true,true,true,true,true,true,true,true,true,true,true,true,true,false] rfl (by kernel_rfl) (by kernel_rfl) (by kernel_rfl) rfl (by kernel_rfl) (fun _ _ _ h=>h) (Or.inl ⟨by rfl,?yt2x16⟩) (by assumption) ?rt2x16
    case yt2x16=>(intro w' hSw; (try dsimp only at hSw); have x1:=hSw.1.k1; rw [HIJ.out.2] at x1; have x2:=hSw.1.k2; have x5:=hSw.1.k5; rw [HIJ.out.1] at x5; have x7:=hSw.1.tr; have xv:=hSw.2; go_simp; try with_reducible rfl)
    simp only [Act.put,sT,sS,sZ]
    refine wpAnyH_ready (rs:=[17]) (by kernel_rfl) (by simp) ?_
    refine AllReadyH.cons (o:=_) rfl (fun K hK=>?_) AllReadyH.nil
    go_simp
    refine hK.out _ _ ?_ (fun hHeld=>?_)
    · exact ⟨hD9,hv9⟩
    clear hK K
    try simp only [Act.put]
    refine listH (l2:=#[true,true,true,true,true,true,true,true,true,true,true,true,true,true,true,true,true,true]) (by kernel_rfl) ?_
    refine wpAnyH_done (by kernel_rfl) ?_ _
    go_wp2_with fail
    go_meet
    exact hput.symm
  obtain rfl:=hcut
  have hP7:=hP5.trans hP6
  rw [← hput] at hD9
  clear hput hv9 hP6 hP5 hOT6 p0 p1 p2 p3 y0 y1 y2 y3 e1 e2 e5 e7 h5
  generalize put4 W5.drew b i 0 x.ver = W6 at *
  have e1:=hD9.k1
  have e2:=hD9.k2
  have e5:=hD9.k5
  have e7:=hD9.tr
  rw [HIJ.out.1] at e5
  rw [HIJ.out.2] at e1
  have hBW6 : B ≤ W6.heap.size:=by have:=hP7.below.size; omega
  have hz6:=hD9.sz
  go_wp2_with fail
  refine (turn_t B b c n i ⟨0,x.ver,⟨#[]⟩,[]⟩ _ _ W6 (by simp [HN.out.2]; exact HN.out.1) (List.getElem?_set_self (by simp [HN.out.2]; have:=HN.out.1; omega)) (by show _ ≤ x.ver; omega) (by show x.ver ≤ _; omega) hBW6 hP7.own).mono ?_
  rintro z W7 ⟨rfl,hP8⟩
  obtain ⟨vs9,hP⟩ : ∃ v9,DPost w W7 B b c n _ vs v9:=⟨_,hP7.trans hP8⟩
  clear hP7 hP8 e1 e2 e5 e7
  go_wp2_with fail
  go_ret
  refine ⟨0,vs9,?_,by omega,rfl,?_⟩
  · rw [HACT.out,if_neg (by rw [HK2.out]; simp),if_neg (by rw [hf.out]; simp),if_neg (by have:=hg.out; omega)]; rfl
  · rw [HACT.out,if_neg (by rw [HK2.out]; simp),if_neg (by rw [hf.out]; simp),if_neg (by have:=hg.out; omega)]
    simpa [List.set_set] using hP
end Go.Proofs.YtloopeipheklpaaGreatDoor
