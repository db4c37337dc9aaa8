/- Lemmas that the proofs of this seat share: TrialB, IsA, CodeA, DeedA. -/
import Derived.Test.YtloopeipheklpaaGreatDoorW18
import Derived.Test.YtloopeipheklpaaGreatDoorW16
import Derived.Test.YtloopeipheklpaaGreatDoorW01
import Derived.LaidEql
import Derived.Stop.Asserts
import Derived.RowKitTokens
import Derived.Below
import Derived.Test.YtloopeipheklpaaGreatDoorW17
import Derived.Test.YtloopeipheklpaaGreatDoorW04
namespace Go.Proofs.YtloopeipheklpaaGreatDoor
section
open Go.RowKit
structure DPost (w w' : World) (B b c n : Nat) (os' : List LObj) (vs vs' : Nat → Value) : Prop where
  own : OwnT w' B b c os' vs'
  below : Below B w w'
  kt : Kt w w' b n vs
  sub : ∀ i g,i < n → (vs' i).ownBlock = some g → (vs i).ownBlock = some g ∨ w.heap.size ≤ g
theorem DPost.trans {w w1 w2 : World} {B b c n : Nat} {os1 os2 : List LObj} {vs vs1 vs2 : Nat → Value} (h1 : DPost w w1 B b c n os1 vs vs1) (h2 : DPost w1 w2 B b c n os2 vs1 vs2) : DPost w w2 B b c n os2 vs vs2:=by
  have hs:=h1.below.size
  refine ⟨h2.own,h1.below.trans h2.below,fun q hq hne hv=>?_,fun i g hi hg=>?_⟩
  · rw [h2.kt q (by omega) hne (fun i hi e=>?_)]
    · exact h1.kt q hq hne hv
    · rcases h1.sub i q hi e with h | h
      · exact hv i hi h
      · omega
  · rcases h2.sub i g hi hg with h | h
    · exact h1.sub i g hi h
    · exact .inr (by omega)
theorem DPost.same {w w' : World} {B b c n : Nat} {os : List LObj} {vs : Nat → Value} (h : OwnT w B b c os vs) (hB : B ≤ w.heap.size) (hb : Below w.heap.size w w') : DPost w w' B b c n os vs vs :=
  ⟨h.below hb,hb.mono hB,fun q hq _ _=>hb.block q hq,fun _ _ _ h=>.inl h⟩
theorem isDir_t (b c n k : Nat) (kd : Int) (w : World) (hk : k < n) (hb : b < w.heap.size) (h0 : w.cell? ⟨b,k * 4,none⟩ = some (.int .i64 kd)) :
    Calls Tryz.prog 279 #[.agg #[.slice (some ⟨b,0,none⟩) n c],.int .i64 k] w fun e w'=>e = .returned (.bool (kd == 2)) ∧ Below w.heap.size w w':=by
  have hkI : (k : Int) < (n : Int):=by omega
  have hk0 : (0 : Int) ≤ (k : Int):=by omega
  go_enter Tryz.func279,Tryz.ntmps279
  go_wp2_with fail
  go_ret
  exact ⟨rfl,(Below.refl _ _).alloc (Nat.le_refl _) _⟩
theorem find_t (b c n k : Nat) (a : Option Addr) (kn kc : Nat) (es : List LEnt) (L U : Nat) (name : ByteArray) (w : World) (hk : k < n) (hb : b < w.heap.size) (h3 : w.cell? ⟨b,k * 4 + 3,none⟩ = some (.slice a kn kc)) (hn : kn ≤ 1048576) (ha : Asc es) (hU : U ≤ w.heap.size) (H : EntsAt w L U a kn es) :
    Calls Tryz.prog 280 #[.agg #[.slice (some ⟨b,0,none⟩) n c],.int .i64 k,.string name] w fun e w'=>e = .returned (.int .i64 (findV es name)) ∧ Below w.heap.size w w':=by
  have hkI : (k : Int) < (n : Int):=by omega
  have hk0 : (0 : Int) ≤ (k : Int):=by omega
  have hA : ∀ o1 : Obj,Below w.heap.size w (w.alloc o1):=fun o1=>(Below.refl _ _).alloc (Nat.le_refl _) _
  go_enter Tryz.func280,Tryz.ntmps280
  go_wp2_with fail
  refine (findKid_any a kn kc es L U name _ hn ha (by simp; omega) (H.below (hA _) hU)).mono ?_
  rintro z w1 ⟨rfl,hb1⟩
  go_wp2_with fail
  go_ret
  exact ⟨rfl,(hA _).trans (hb1.mono (by simp))⟩
theorem turn_t (B b c n j : Nat) (d : LObj) (os : List LObj) (vs : Nat → Value) (w : World) (hn : n = os.length) (hd : os[j]? = some d) (hv0 : -1000000000 ≤ d.ver) (hv1 : d.ver ≤ 1000000000) (hB : B ≤ w.heap.size) (H : OwnT w B b c os vs) :
    Calls Tryz.prog 272 #[.agg #[.slice (some ⟨b,0,none⟩) n c],.int .i64 j] w fun e w'=>e = .returned (.tuple #[]) ∧ DPost w w' B b c n (os.set j { d with ver:=d.ver + 1 }) vs vs:=by
  have HD : Hid (os[j]? = some d):=hd
  have hlt : j < n:=by rw [hn]; exact (List.getElem?_eq_some_iff.1 hd).1
  have hbl:=H.lt
  have hc1 : w.cell? ⟨b,j * 4 + 1,none⟩ = some (.int .i64 d.ver):=(H.at_ j d hd).2.2.1
  have hf1 : w.frozen? ⟨b,j * 4 + 1,none⟩ = false:=H.frozen _
  have hjI : (j : Int) < (n : Int):=by omega
  have hj0 : (0 : Int) ≤ (j : Int):=by omega
  have HOT : Hid (OwnT w B b c os vs):=H
  clear hd hn H
  go_enter Tryz.func272,Tryz.ntmps272
  go_wp2_with fail
  go_end0
  have hlo:=HOT.out.lo
  refine ⟨rfl,(HOT.out.setVer HD.out (d.ver + 1)).alloc _,((Below.refl B w).setCell hlo _).alloc (by simpa using hB) _,fun q hq hne _=>?_,fun _ _ _ h=>.inl h⟩
  rw [(World.grownBy_alloc _ _ none).block q (by simpa using hq) (by simp)]
  exact Below.heap_setCell _ _ _ q hne
set_option maxHeartbeats 2000000 in
set_option maxRecDepth 20000 in
theorem enter_t (B b c n j : Nat) (d : LObj) (x : LEnt) (os : List LObj) (vs : Nat → Value) (w : World) (hn : n = os.length) (hd : os[j]? = some d) (ha : Asc d.kids) (hkb : d.kids.length ≤ 1000000) (hx : x.name.size ≤ maxLen) (hB : B ≤ w.heap.size) (H : OwnT w B b c os vs) :
    Calls Tryz.prog 282 #[.agg #[.slice (some ⟨b,0,none⟩) n c],.int .i64 j,.string x.name,.int .i64 x.id] w fun e w'=>e = .returned (.tuple #[]) ∧ ∃ vs',DPost w w' B b c n (os.set j { d with kids:=putL x d.kids }) vs vs':=by
  have HD : Hid (os[j]? = some d):=hd
  have HN : Hid (n = os.length):=hn
  have hlt : j < n:=by rw [hn]; exact (List.getElem?_eq_some_iff.1 hd).1
  have hbl:=H.lt
  obtain ⟨_,_,_,_,q3,q5,q6⟩:=H.at_ j d hd
  obtain ⟨a0,c0,hvs⟩:=q5.shape
  obtain ⟨a1,c1,hv1,hE0⟩:=q5.at_ q6
  rw [hvs] at hv1
  simp only [Value.slice.injEq,true_and] at hv1
  obtain ⟨rfl,rfl⟩:=hv1
  obtain ⟨kn,hkn⟩ : ∃ kn,kn = d.kids.length:=⟨_,rfl⟩
  have HKN : Hid (kn = d.kids.length):=hkn
  rw [hvs,← hkn] at q3
  have HVS : Hid (vs j = .slice a0 kn c0):=by show _ = _; rw [hvs,hkn]
  rw [← hkn] at hE0 hkb
  have hE : Hid (EntsAt w B w.heap.size a0 kn d.kids):=hE0
  have HKV0 : Hid (OwnEnts w B (.slice a0 kn c0) d.kids):=by show OwnEnts _ _ _ _; rw [← HVS.out]; exact q5
  have HNM : Hid (∀ e ∈ d.kids,e.name.size ≤ maxLen):=q6
  have HOT : Hid (OwnT w B b c os vs):=H
  have hfz : w.frozen? ⟨b,j * 4 + 3,none⟩ = false:=H.frozen _
  have hnb : (Value.slice a0 kn c0).ownBlock ≠ some b:=H.kids_ne (by rw [← HVS.out]; exact q5)
  have hA : ∀ o1 : Obj,Below w.heap.size w (w.alloc o1):=fun o1=>(Below.refl _ _).alloc (Nat.le_refl _) _
  have hjI : (j : Int) < (n : Int):=by omega
  have hj0 : (0 : Int) ≤ (j : Int):=by omega
  clear hd hn q5 q6 hE0 hvs hkn H
  go_enter Tryz.func282,Tryz.ntmps282
  go_wp2_with fail
  refine (place2_any a0 kn c0 d.kids B w.heap.size x.name _ (by omega) ha (by simp) (hE.out.below (hA _) (Nat.le_refl _))).mono ?_
  rintro z w1 ⟨⟨p,pb,rfl,hple,hlow,hhigh⟩,hb1⟩
  have HPL : Hid (Low d.kids x.name p ∧ High d.kids x.name p):=⟨hlow,hhigh⟩
  have hp0 : p ≤ kn:=by rw [HKN.out]; exact hple
  have hbw : Below w.heap.size w w1:=(hA _).trans (hb1.mono (by simp))
  have t0 : w1.cell? ⟨w.heap.size,0,none⟩ = some (.slice (some ⟨b,0,none⟩) n c):=by rw [hb1.cell (by simp)]; simp [go_sem]
  have t1 : w1.cell? ⟨b,j * 4 + 3,none⟩ = some (.slice a0 kn c0):=by rw [hbw.cell (by simpa using hbl)]; exact q3
  have t2 : w1.frozen? ⟨b,j * 4 + 3,none⟩ = false:=by rw [hbw.frozen (by simpa using hbl)]; exact hfz
  have hz1 : w.heap.size < w1.heap.size:=by have:=hb1.size; simp at this; omega
  have HKV : Hid (OwnEnts w1 B (.slice a0 kn c0) d.kids):=own_block HKV0.out fun q hq=>hbw.block q (World.ownsRow.lt HKV0.out q hq).2
  have hne1 : (Value.slice a0 kn c0).ownBlock ≠ some w.heap.size:=fun e=>by have:=(World.ownsRow.lt HKV0.out _ e).2; omega
  have hne2:=hnb
  have HBW : Hid (Below w.heap.size w w1):=hbw
  clear hple hlow hhigh hb1 hbw hnb hfz q3
  go_wp2_with fail
  go_upto_region 3 with fail
  refine wp_region_held_drew (S:=(fun W=>W.cell? ⟨w.heap.size,0,none⟩ = some (.slice (some ⟨b,0,none⟩) n c))) (by kernel_rfl) ?_ (fun hHeld=>?_)
  · exact t0
  refine listH (l2:=#[false,false,false,false,false,false,false,false,false,false,false,false,false,false]) (by kernel_rfl) ?_
  refine takeH (i:=0) (oi:=_) (v:=?vt1x0) 24 #[true,false,false,false,false,false,false,false,false,false,false,false,false,false] rfl (by kernel_rfl) (by kernel_rfl) (by kernel_rfl) rfl (by kernel_rfl) (fun _ _ _ h=>h) (Or.inl ⟨by rfl,?yt1x0⟩) (by assumption) ?rt1x0
  case yt1x0=>(intro w' hSw; (try dsimp only at hSw); have x0:=hSw; go_simp; try with_reducible rfl)
  simp only [Act.put,sT,sS,sZ]
  refine takeH (i:=1) (oi:=_) (v:=?vt1x1) 25 #[true,true,false,false,false,false,false,false,false,false,false,false,false,false] rfl (by kernel_rfl) (by kernel_rfl) (by kernel_rfl) rfl (by kernel_rfl) (fun _ _ _ h=>h) (Or.inl ⟨by rfl,?yt1x1⟩) (by assumption) ?rt1x1
  case yt1x1=>(intro w' hSw; (try dsimp only at hSw); have x0:=hSw; go_simp; try with_reducible rfl)
  simp only [Act.put,sT,sS,sZ]
  refine takeH (i:=2) (oi:=_) (v:=?vt1x2) 26 #[true,true,true,false,false,false,false,false,false,false,false,false,false,false] rfl (by kernel_rfl) (by kernel_rfl) (by kernel_rfl) rfl (by kernel_rfl) (fun _ _ _ h=>h) (Or.inl ⟨by rfl,?yt1x2⟩) (by assumption) ?rt1x2
  case yt1x2=>(intro w' hSw; (try dsimp only at hSw); have x0:=hSw; go_simp; try with_reducible rfl)
  simp only [Act.put,sT,sS,sZ]
  refine takeH (i:=3) (oi:=_) (v:=?vt1x3) 27 #[true,true,true,true,false,false,false,false,false,false,false,false,false,false] rfl (by kernel_rfl) (by kernel_rfl) (by kernel_rfl) rfl (by kernel_rfl) (fun _ _ _ h=>h) (Or.inl ⟨by rfl,?yt1x3⟩) (by assumption) ?rt1x3
  case yt1x3=>(intro w' hSw; (try dsimp only at hSw); have x0:=hSw; go_simp; try with_reducible rfl)
  simp only [Act.put,sT,sS,sZ]
  refine takeH (i:=4) (oi:=_) (v:=?vt1x4) 28 #[true,true,true,true,true,false,false,false,false,false,false,false,false,false] rfl (by kernel_rfl) (by kernel_rfl) (by kernel_rfl) rfl (by kernel_rfl) (fun _ _ _ h=>h) (Or.inl ⟨by rfl,?yt1x4⟩) (by assumption) ?rt1x4
  case yt1x4=>(intro w' hSw; (try dsimp only at hSw); have x0:=hSw; go_simp; try with_reducible rfl)
  simp only [Act.put,sT,sS,sZ]
  refine takeH (i:=5) (oi:=_) (v:=?vt1x5) 29 #[true,true,true,true,true,true,false,false,false,false,false,false,false,false] rfl (by kernel_rfl) (by kernel_rfl) (by kernel_rfl) rfl (by kernel_rfl) (fun _ _ _ h=>h) (Or.inl ⟨by rfl,?yt1x5⟩) (by assumption) ?rt1x5
  case yt1x5=>(intro w' hSw; (try dsimp only at hSw); have x0:=hSw; go_simp; try with_reducible rfl)
  simp only [Act.put,sT,sS,sZ]
  refine takeH (i:=6) (oi:=_) (v:=?vt1x6) 30 #[true,true,true,true,true,true,true,false,false,false,false,false,false,false] rfl (by kernel_rfl) (by kernel_rfl) (by kernel_rfl) rfl (by kernel_rfl) (fun _ _ _ h=>h) (Or.inl ⟨by rfl,?yt1x6⟩) (by assumption) ?rt1x6
  case yt1x6=>(intro w' hSw; (try dsimp only at hSw); have x0:=hSw; go_simp; try with_reducible rfl)
  simp only [Act.put,sT,sS,sZ]
  refine takeH (i:=7) (oi:=_) (v:=?vt1x7) 31 #[true,true,true,true,true,true,true,true,false,false,false,false,false,false] rfl (by kernel_rfl) (by kernel_rfl) (by kernel_rfl) rfl (by kernel_rfl) (fun _ _ _ h=>h) (Or.inl ⟨by rfl,?yt1x7⟩) (by assumption) ?rt1x7
  case yt1x7=>(intro w' hSw; (try dsimp only at hSw); have x0:=hSw; go_simp; try with_reducible rfl)
  simp only [Act.put,sT,sS,sZ]
  refine takeH (i:=8) (oi:=_) (v:=?vt1x8) 32 #[true,true,true,true,true,true,true,true,true,false,false,false,false,false] rfl (by kernel_rfl) (by kernel_rfl) (by kernel_rfl) rfl (by kernel_rfl) (fun _ _ _ h=>h) (Or.inl ⟨by rfl,?yt1x8⟩) (by assumption) ?rt1x8
  case yt1x8=>(intro w' hSw; (try dsimp only at hSw); have x0:=hSw; go_simp; try with_reducible rfl)
  simp only [Act.put,sT,sS,sZ]
  refine wpAnyH_ready (rs:=[9]) (by kernel_rfl) (by simp) ?_
  refine AllReadyH.cons (o:=_) rfl (fun K hK=>?_) AllReadyH.nil
  go_simp
  refine hK.out _ _ ?_ (fun hHeld=>?_)
  · exact (by rw [World.cell?_drew,World.grownBy.cell_far (World.grownBy_alloc w1 _ none) _ (by simp; omega) (by simp)]; exact t0)
  clear hK K
  try simp only [Act.put]
  refine listH (l2:=#[true,true,true,true,true,true,true,true,true,true,false,false,false,false]) (by kernel_rfl) ?_
  refine wpAnyH_ready (rs:=[10]) (by kernel_rfl) (by simp) ?_
  refine AllReadyH.cons (o:=_) rfl (fun K hK=>?_) AllReadyH.nil
  go_simp
  refine (insert_any B a0 kn c0 p d.kids x w1.heap.size ((w1.alloc (Obj.cells #[.string x.name,.int .i64 x.id] 247)).drew) HKN.out hp0 (by omega) (by simp; omega) (own_block HKV.out fun q hq=>(World.grownBy_alloc w1 _ none).block q (World.ownsRow.lt HKV.out q hq).2 (by simp)) (heap_alloc_new w1 _) (fun e=>by have:=(World.ownsRow.lt HKV.out _ e).2; omega)).mono ?_
  rintro e w2 ⟨a',c',rfl,hpost⟩
  have hgr : ((w1.alloc (Obj.cells #[.string x.name,.int .i64 x.id] 247)).drew).grownBy w2 (Value.slice a0 kn c0).ownBlock:=hpost.2.1
  have s0 : w2.cell? ⟨w.heap.size,0,none⟩ = some (.slice (some ⟨b,0,none⟩) n c):=by rw [hgr.cell_far _ (by simp; omega) (fun e=>hne1 e.symm),World.cell?_drew,World.grownBy.cell_far (World.grownBy_alloc w1 _ none) _ (by simp; omega) (by simp)]; exact t0
  have s1 : w2.cell? ⟨b,j * 4 + 3,none⟩ = some (.slice a0 kn c0):=by rw [hgr.cell_far _ (by simp; omega) (fun e=>hne2 e.symm),World.cell?_drew,World.grownBy.cell_far (World.grownBy_alloc w1 _ none) _ (by simp; omega) (by simp)]; exact t1
  have s2 : w2.frozen? ⟨b,j * 4 + 3,none⟩ = false:=by rw [hgr.frozen_far _ (by simp; omega) (fun e=>hne2 e.symm),World.frozen?_drew,World.grownBy.frozen_far (World.grownBy_alloc w1 _ none) _ (by simp; omega) (by simp)]; exact t2
  go_wp2_with fail
  refine hK.out _ _ ?_ (fun hHeld=>?_)
  · exact s0
  clear hK K
  try simp only [Act.put]
  refine listH (l2:=#[true,true,true,true,true,true,true,true,true,true,true,false,false,false]) (by kernel_rfl) ?_
  refine takeH (i:=11) (oi:=_) (v:=?vt1x11) 35 #[true,true,true,true,true,true,true,true,true,true,true,true,false,false] rfl (by kernel_rfl) (by kernel_rfl) (by kernel_rfl) rfl (by kernel_rfl) (fun _ _ _ h=>h) (Or.inl ⟨by rfl,?yt1x11⟩) (by assumption) ?rt1x11
  case yt1x11=>(intro w' hSw; (try dsimp only at hSw); have x0:=hSw; go_simp; try with_reducible rfl)
  simp only [Act.put,sT,sS,sZ]
  refine takeH (i:=12) (oi:=_) (v:=?vt1x12) 36 #[true,true,true,true,true,true,true,true,true,true,true,true,true,false] rfl (by kernel_rfl) (by kernel_rfl) (by kernel_rfl) rfl (by kernel_rfl) (fun _ _ _ h=>h) (Or.inl ⟨by rfl,?yt1x12⟩) (by assumption) ?rt1x12
  case yt1x12=>(intro w' hSw; (try dsimp only at hSw); have x0:=hSw; go_simp; try with_reducible rfl)
  simp only [Act.put,sT,sS,sZ]
  refine wpAnyH_ready (rs:=[13]) (by kernel_rfl) (by simp) ?_
  refine AllReadyH.cons (o:=_) rfl (fun K hK=>?_) AllReadyH.nil
  go_simp
  refine hK.out _ _ ?_ (fun hHeld=>?_)
  · exact (by rw [World.cell?_setCell_other _ _ _ _ (by first | (simp; done) | (simp; omega))]; exact s0)
  clear hK K
  try simp only [Act.put]
  refine listH (l2:=#[true,true,true,true,true,true,true,true,true,true,true,true,true,true]) (by kernel_rfl) ?_
  refine wpAnyH_done (by kernel_rfl) ?_ _
  go_wp2_with fail
  go_end0
  have hw0 : w.heap.size ≤ w1.heap.size:=HBW.out.size
  have hOT1 : OwnT ((w1.alloc (Obj.cells #[.string x.name,.int .i64 x.id] 247)).drew) B b c os vs:=OwnT.of_heap (by rfl) ((HOT.out.below HBW.out).alloc (Obj.cells #[.string x.name,.int .i64 x.id] 247))
  refine ⟨rfl,fun i=>if i = j then .slice a' (kn + 1) c' else vs i,?_,?_,fun q hq hne hv=>?_,fun i g hi hg=>?_⟩
  · refine hOT1.putKids HD.out hgr (.inr (by rw [HVS.out])) (by rw [putL_of (by rw [← HKN.out]; exact hp0) HPL.out.1 HPL.out.2]; exact hpost.1) (fun e he=>?_) (fun g hg=>by rw [HVS.out]; exact hpost.2.2 g hg)
    rcases mem_putL he with rfl | he
    · exact hx
    · exact HNM.out e he
  · exact (below_grown ((HBW.out.mono hB).trans ((Below.refl B w1).alloc (by omega) _).drew) hgr (fun k hk=>(World.ownsRow.lt HKV.out k hk).1) (by simp; omega)).setCell HOT.out.lo _
  · rw [Below.heap_setCell _ _ _ q hne,hgr.block q (by simp; omega) (fun e=>hv j hlt (by rw [HVS.out]; exact e.symm)),show ((w1.alloc (Obj.cells #[.string x.name,.int .i64 x.id] 247)).drew).heap[q]? = w1.heap[q]? from (World.grownBy_alloc w1 _ none).block q (by omega) (by simp)]
    exact HBW.out.block q hq
  · by_cases hij : i = j
    · simp only [hij,if_true] at hg
      rw [hij,HVS.out]
      rcases hpost.2.2 g hg with h | h
      · exact .inl h
      · exact .inr (by simp at h; omega)
    · simp only [hij,if_false] at hg
      exact .inl hg
set_option maxHeartbeats 2000000 in
set_option maxRecDepth 20000 in
theorem leave_t (B b c n j k : Nat) (d : LObj) (x : LEnt) (os : List LObj) (vs : Nat → Value) (w : World) (hn : n = os.length) (hd : os[j]? = some d) (ha : Asc d.kids) (hkb : d.kids.length ≤ 1000000) (hxk : d.kids[k]? = some x) (hB : B ≤ w.heap.size) (H : OwnT w B b c os vs) :
    Calls Tryz.prog 296 #[.agg #[.slice (some ⟨b,0,none⟩) n c],.int .i64 j,.string x.name] w fun e w'=>e = .returned (.tuple #[]) ∧ ∃ vs',DPost w w' B b c n (os.set j { d with kids:=outL x.name d.kids }) vs vs':=by
  have HD : Hid (os[j]? = some d):=hd
  have HXK : Hid (d.kids[k]? = some x ∧ Asc d.kids):=⟨hxk,ha⟩
  have HN : Hid (n = os.length):=hn
  have hlt : j < n:=by rw [hn]; exact (List.getElem?_eq_some_iff.1 hd).1
  have hkl : k < d.kids.length:=(List.getElem?_eq_some_iff.1 hxk).1
  have hbl:=H.lt
  obtain ⟨_,_,_,_,q3,q5,q6⟩:=H.at_ j d hd
  obtain ⟨g0,c0,hvs,_,_⟩:=World.ownsRow.form q5 (by omega)
  obtain ⟨a1,c1,hv1,hE0⟩:=q5.at_ q6
  rw [hvs] at hv1
  simp only [Value.slice.injEq,true_and] at hv1
  obtain ⟨rfl,rfl⟩:=hv1
  obtain ⟨kn,hkn⟩ : ∃ kn,kn = d.kids.length:=⟨_,rfl⟩
  have HKN : Hid (kn = d.kids.length):=hkn
  rw [hvs,← hkn] at q3
  have HVS : Hid (vs j = .slice (some ⟨g0,0,none⟩) kn c0):=by show _ = _; rw [hvs,hkn]
  rw [← hkn] at hE0 hkb hkl
  have hE : Hid (EntsAt w B w.heap.size (some ⟨g0,0,none⟩) kn d.kids):=hE0
  have HKV0 : Hid (OwnEnts w B (.slice (some ⟨g0,0,none⟩) kn c0) d.kids):=by show OwnEnts _ _ _ _; rw [← HVS.out]; exact q5
  have HNM : Hid (∀ e ∈ d.kids,e.name.size ≤ maxLen):=q6
  have HOT : Hid (OwnT w B b c os vs):=H
  have hfz : w.frozen? ⟨b,j * 4 + 3,none⟩ = false:=H.frozen _
  have hnb : (Value.slice (some ⟨g0,0,none⟩) kn c0).ownBlock ≠ some b:=H.kids_ne (by rw [← HVS.out]; exact q5)
  have hA : ∀ o1 : Obj,Below w.heap.size w (w.alloc o1):=fun o1=>(Below.refl _ _).alloc (Nat.le_refl _) _
  have hjI : (j : Int) < (n : Int):=by omega
  have hj0 : (0 : Int) ≤ (j : Int):=by omega
  clear hd hn q5 q6 hE0 hvs hkn H hxk
  go_enter Tryz.func296,Tryz.ntmps296
  go_wp2_with fail
  refine (place2_any (some ⟨g0,0,none⟩) kn c0 d.kids B w.heap.size x.name _ (by omega) ha (by simp) (hE.out.below (hA _) (Nat.le_refl _))).mono ?_
  rintro z w1 ⟨⟨p,pb,rfl,hple,hlow,hhigh⟩,hb1⟩
  have HP : Hid (p = k):=place_there ha hlow hhigh HXK.out.1 rfl
  have hp0 : p < kn:=by have:=HP.out; omega
  have hbw : Below w.heap.size w w1:=(hA _).trans (hb1.mono (by simp))
  have t0 : w1.cell? ⟨w.heap.size,0,none⟩ = some (.slice (some ⟨b,0,none⟩) n c):=by rw [hb1.cell (by simp)]; simp [go_sem]
  have t1 : w1.cell? ⟨b,j * 4 + 3,none⟩ = some (.slice (some ⟨g0,0,none⟩) kn c0):=by rw [hbw.cell (by simpa using hbl)]; exact q3
  have t2 : w1.frozen? ⟨b,j * 4 + 3,none⟩ = false:=by rw [hbw.frozen (by simpa using hbl)]; exact hfz
  have hz1 : w.heap.size < w1.heap.size:=by have:=hb1.size; simp at this; omega
  have HKV : Hid (OwnEnts w1 B (.slice (some ⟨g0,0,none⟩) kn c0) d.kids):=own_block HKV0.out fun q hq=>hbw.block q (World.ownsRow.lt HKV0.out q hq).2
  have hne1 : (Value.slice (some ⟨g0,0,none⟩) kn c0).ownBlock ≠ some w.heap.size:=fun e=>by have:=(World.ownsRow.lt HKV0.out _ e).2; omega
  have hne2:=hnb
  have HBW : Hid (Below w.heap.size w w1):=hbw
  have hpI : IntKind.i64.wrap ((p : Int) + 1) = (p : Int) + 1:=by rw [IntKind.wrap_i64]; omega
  clear hple hlow hhigh hb1 hbw hnb hfz q3 ha
  go_wp2_with fail
  go_upto_region 3 with fail
  refine wp_region_held_drew (S:=(fun W=>W.cell? ⟨w.heap.size,0,none⟩ = some (.slice (some ⟨b,0,none⟩) n c))) (by kernel_rfl) ?_ (fun hHeld=>?_)
  · exact t0
  refine listH (l2:=#[false,false,false,false,false,false,false,false,false,false,false,false]) (by kernel_rfl) ?_
  refine takeH (i:=0) (oi:=_) (v:=?vt2x0) 22 #[true,false,false,false,false,false,false,false,false,false,false,false] rfl (by kernel_rfl) (by kernel_rfl) (by kernel_rfl) rfl (by kernel_rfl) (fun _ _ _ h=>h) (Or.inl ⟨by rfl,?yt2x0⟩) (by assumption) ?rt2x0
  case yt2x0=>(intro w' hSw; (try dsimp only at hSw); have x0:=hSw; go_simp; try with_reducible rfl)
  simp only [Act.put,sT,sS,sZ]
  refine takeH (i:=1) (oi:=_) (v:=?vt2x1) 23 #[true,true,false,false,false,false,false,false,false,false,false,false] rfl (by kernel_rfl) (by kernel_rfl) (by kernel_rfl) rfl (by kernel_rfl) (fun _ _ _ h=>h) (Or.inl ⟨by rfl,?yt2x1⟩) (by assumption) ?rt2x1
  case yt2x1=>(intro w' hSw; (try dsimp only at hSw); have x0:=hSw; go_simp; try with_reducible rfl)
  simp only [Act.put,sT,sS,sZ]
  refine takeH (i:=2) (oi:=_) (v:=?vt2x2) 24 #[true,true,true,false,false,false,false,false,false,false,false,false] rfl (by kernel_rfl) (by kernel_rfl) (by kernel_rfl) rfl (by kernel_rfl) (fun _ _ _ h=>h) (Or.inl ⟨by rfl,?yt2x2⟩) (by assumption) ?rt2x2
  case yt2x2=>(intro w' hSw; (try dsimp only at hSw); have x0:=hSw; go_simp; try with_reducible rfl)
  simp only [Act.put,sT,sS,sZ]
  refine takeH (i:=3) (oi:=_) (v:=?vt2x3) 25 #[true,true,true,true,false,false,false,false,false,false,false,false] rfl (by kernel_rfl) (by kernel_rfl) (by kernel_rfl) rfl (by kernel_rfl) (fun _ _ _ h=>h) (Or.inl ⟨by rfl,?yt2x3⟩) (by assumption) ?rt2x3
  case yt2x3=>(intro w' hSw; (try dsimp only at hSw); have x0:=hSw; go_simp; try with_reducible rfl)
  simp only [Act.put,sT,sS,sZ]
  refine takeH (i:=4) (oi:=_) (v:=?vt2x4) 26 #[true,true,true,true,true,false,false,false,false,false,false,false] rfl (by kernel_rfl) (by kernel_rfl) (by kernel_rfl) rfl (by kernel_rfl) (fun _ _ _ h=>h) (Or.inl ⟨by rfl,?yt2x4⟩) (by assumption) ?rt2x4
  case yt2x4=>(intro w' hSw; (try dsimp only at hSw); have x0:=hSw; go_simp; try with_reducible rfl)
  simp only [Act.put,sT,sS,sZ]
  refine takeH (i:=5) (oi:=_) (v:=?vt2x5) 27 #[true,true,true,true,true,true,false,false,false,false,false,false] rfl (by kernel_rfl) (by kernel_rfl) (by kernel_rfl) rfl (by kernel_rfl) (fun _ _ _ h=>h) (Or.inl ⟨by rfl,?yt2x5⟩) (by assumption) ?rt2x5
  case yt2x5=>(intro w' hSw; (try dsimp only at hSw); have x0:=hSw; go_simp; try with_reducible rfl)
  simp only [Act.put,sT,sS,sZ]
  refine takeH (i:=6) (oi:=_) (v:=?vt2x6) 28 #[true,true,true,true,true,true,true,false,false,false,false,false] rfl (by kernel_rfl) (by kernel_rfl) (by kernel_rfl) rfl (by kernel_rfl) (fun _ _ _ h=>h) (Or.inl ⟨by rfl,?yt2x6⟩) (by assumption) ?rt2x6
  case yt2x6=>(intro w' hSw; (try dsimp only at hSw); have x0:=hSw; go_simp; try with_reducible rfl)
  simp only [Act.put,sT,sS,sZ]
  refine takeH (i:=7) (oi:=_) (v:=?vt2x7) 29 #[true,true,true,true,true,true,true,true,false,false,false,false] rfl (by kernel_rfl) (by kernel_rfl) (by kernel_rfl) rfl (by kernel_rfl) (fun _ _ _ h=>h) (Or.inl ⟨by rfl,?yt2x7⟩) (by assumption) ?rt2x7
  case yt2x7=>(intro w' hSw; (try dsimp only at hSw); have x0:=hSw; go_simp; try with_reducible rfl)
  simp only [Act.put,sT,sS,sZ]
  refine wpAnyH_ready (rs:=[8]) (by kernel_rfl) (by simp) ?_
  refine AllReadyH.cons (o:=_) rfl (fun K hK=>?_) AllReadyH.nil
  go_simp
  refine (delete_any B g0 kn c0 p d.kids w1.drew HKN.out hp0 (by omega) (own_block HKV.out fun q hq=>rfl)).mono ?_
  rintro e w2 ⟨a',c',rfl,hpost⟩
  have hgr : w1.drew.grownBy w2 (Value.slice (some ⟨g0,0,none⟩) kn c0).ownBlock:=hpost.2.1
  have s0 : w2.cell? ⟨w.heap.size,0,none⟩ = some (.slice (some ⟨b,0,none⟩) n c):=by rw [hgr.cell_far _ (by simp; omega) (fun e=>hne1 e.symm)]; exact t0
  have s1 : w2.cell? ⟨b,j * 4 + 3,none⟩ = some (.slice (some ⟨g0,0,none⟩) kn c0):=by rw [hgr.cell_far _ (by simp; omega) (fun e=>hne2 e.symm)]; exact t1
  have s2 : w2.frozen? ⟨b,j * 4 + 3,none⟩ = false:=by rw [hgr.frozen_far _ (by simp; omega) (fun e=>hne2 e.symm)]; exact t2
  go_wp2_with fail
  refine hK.out _ _ ?_ (fun hHeld=>?_)
  · exact s0
  clear hK K
  try simp only [Act.put]
  refine listH (l2:=#[true,true,true,true,true,true,true,true,true,false,false,false]) (by kernel_rfl) ?_
  refine takeH (i:=9) (oi:=_) (v:=?vt2x9) 31 #[true,true,true,true,true,true,true,true,true,true,false,false] rfl (by kernel_rfl) (by kernel_rfl) (by kernel_rfl) rfl (by kernel_rfl) (fun _ _ _ h=>h) (Or.inl ⟨by rfl,?yt2x9⟩) (by assumption) ?rt2x9
  case yt2x9=>(intro w' hSw; (try dsimp only at hSw); have x0:=hSw; go_simp; try with_reducible rfl)
  simp only [Act.put,sT,sS,sZ]
  refine takeH (i:=10) (oi:=_) (v:=?vt2x10) 32 #[true,true,true,true,true,true,true,true,true,true,true,false] rfl (by kernel_rfl) (by kernel_rfl) (by kernel_rfl) rfl (by kernel_rfl) (fun _ _ _ h=>h) (Or.inl ⟨by rfl,?yt2x10⟩) (by assumption) ?rt2x10
  case yt2x10=>(intro w' hSw; (try dsimp only at hSw); have x0:=hSw; go_simp; try with_reducible rfl)
  simp only [Act.put,sT,sS,sZ]
  refine wpAnyH_ready (rs:=[11]) (by kernel_rfl) (by simp) ?_
  refine AllReadyH.cons (o:=_) rfl (fun K hK=>?_) AllReadyH.nil
  go_simp
  refine hK.out _ _ ?_ (fun hHeld=>?_)
  · exact (by rw [World.cell?_setCell_other _ _ _ _ (by first | (simp; done) | (simp; omega))]; exact s0)
  clear hK K
  try simp only [Act.put]
  refine listH (l2:=#[true,true,true,true,true,true,true,true,true,true,true,true]) (by kernel_rfl) ?_
  refine wpAnyH_done (by kernel_rfl) ?_ _
  go_wp2_with fail
  go_end0
  have hw0 : w.heap.size ≤ w1.heap.size:=HBW.out.size
  have hOT1 : OwnT w1.drew B b c os vs:=OwnT.of_heap (w:=w1) (by rfl) (HOT.out.below HBW.out)
  have hpost1 : OwnEnts w2 B (.slice a' (kn - 1) c') (outL x.name d.kids):=by
    rw [outL_of HXK.out.2 HXK.out.1 rfl,← HP.out]
    exact hpost.1
  refine ⟨rfl,fun i=>if i = j then .slice a' (kn - 1) c' else vs i,?_,?_,fun q hq hne hv=>?_,fun i g hi hg=>?_⟩
  · exact hOT1.putKids HD.out hgr (.inr (by rw [HVS.out])) hpost1 (fun e he=>HNM.out e ((List.mem_filter.1 he).1)) (fun g hg=>by rw [HVS.out]; exact hpost.2.2 g hg)
  · exact (below_grown ((HBW.out.mono hB).trans (Below.refl B w1).drew) hgr (fun k hk=>(World.ownsRow.lt HKV.out k hk).1) (by simp; omega)).setCell HOT.out.lo _
  · rw [Below.heap_setCell _ _ _ q hne,hgr.block q (by simp; omega) (fun e=>hv j hlt (by rw [HVS.out]; exact e.symm))]
    exact HBW.out.block q hq
  · by_cases hij : i = j
    · simp only [hij,if_true] at hg
      rw [hij,HVS.out]
      rcases hpost.2.2 g hg with h | h
      · exact .inl h
      · exact .inr (by simp at h; omega)
    · simp only [hij,if_false] at hg
      exact .inl hg
end
section
open Go.RowKit Go.Extern.Stop Go.Stop Go.Extern
theorem isTypeOf (v : Value) (w : World) : (Extern.ReflectliteType.typeOf #[.iface 323 v]).run Tryz.prog w = .ok (.iface 313 (.agg #[.pointer (some ⟨9,323,none⟩)])) w:=by kernel_rfl
def cmpF : Array Value → Sem Value := Extern.ReflectliteType.method fun t => do Go.Extern.Rtype.noPackHeld "Comparable" t; pure (.bool (← typeInfo t).comparable)
theorem isComparable (w : World) : (cmpF #[.agg #[.pointer (some ⟨9,323,none⟩)]]).run Tryz.prog w = .ok (.bool true) w:=by kernel_rfl
theorem isMethodComparable (v : Value) (w : World) : (Go.method 477 313 v "Comparable").run Tryz.prog w = .ok (305, v) w := by kernel_rfl
theorem isComp : (Tryz.prog.info? 323).map (·.comparable) = some true:=by kernel_rfl
theorem isSize : (Tryz.prog.info? 365).map (·.size) = some 1:=by kernel_rfl
theorem noIsE (v : Value) (xT : TypeId) (w : World) : (Instr.typeAssert (.iface 323 v) xT 315 true).run Tryz.prog w = .ok (.tuple #[.nilIface,.bool false]) w:=run_typeAssert_lacksB Tryz.underlying315 (by kernel_rfl) (by kernel_rfl) v xT w
theorem noUnwrapE (v : Value) (xT : TypeId) (w : World) : (Instr.typeAssert (.iface 323 v) xT 318 true).run Tryz.prog w = .ok (.tuple #[.nilIface,.bool false]) w:=run_typeAssert_lacksB Tryz.underlying318 (by kernel_rfl) (by kernel_rfl) v xT w
theorem noUnwrapsE (v : Value) (xT : TypeId) (w : World) : (Instr.typeAssert (.iface 323 v) xT 320 true).run Tryz.prog w = .ok (.tuple #[.nilIface,.bool false]) w:=run_typeAssert_lacksB Tryz.underlying320 (by kernel_rfl) (by kernel_rfl) v xT w
set_option maxRecDepth 100000 in
theorem is_same (a : Addr) (w : World) :
    Calls Tryz.prog 221 #[.iface 323 (.pointer (some a)),.iface 323 (.pointer (some a))] w fun e w'=>e = .returned (.bool true) ∧ w' = w:=by
  obtain ⟨i,hi,hcmp⟩:=Option.map_eq_some_iff.1 isComp
  obtain ⟨j,hj,hjs⟩:=Option.map_eq_some_iff.1 isSize
  have h8:=@run_callFunc_extern Tryz.prog 237 _ Extern.ReflectliteType.typeOf Tryz.func237 (by kernel_rfl) (by kernel_rfl) (by kernel_rfl) (by kernel_rfl)
  have h32:=@run_callFunc_extern Tryz.prog 305 _ cmpF Tryz.func305 (by kernel_rfl) (by kernel_rfl) (by kernel_rfl) (by kernel_rfl)
  have tT:=isTypeOf
  have cT:=isComparable
  have mR:=isMethodComparable
  have heq:=run_eql_iface_ptr_same (P:=Tryz.prog) w a Tryz.underlying95 Tryz.underlying323 hi hcmp hj
  go_enter Tryz.func221,Tryz.ntmps221
  go_wp2
  refine wp_loop_rounds 1 ?_
  rw [rounds_succ]
  go_wp2
  go_ret
  exact ⟨rfl,rfl⟩
set_option maxRecDepth 100000 in
theorem is_other (a b : Addr) (ca cb : Array Value) (ta tb : TypeId) (w : World) (hne : a ≠ b) (ha : w.heap[a.block]? = some (.cells ca ta (0,0))) (hb : w.heap[b.block]? = some (.cells cb tb (0,0))) :
    Calls Tryz.prog 221 #[.iface 323 (.pointer (some a)),.iface 323 (.pointer (some b))] w fun e w'=>e = .returned (.bool false) ∧ w' = w:=by
  obtain ⟨i,hi,hcmp⟩:=Option.map_eq_some_iff.1 isComp
  obtain ⟨j,hj,hjs⟩:=Option.map_eq_some_iff.1 isSize
  have h8:=@run_callFunc_extern Tryz.prog 237 _ Extern.ReflectliteType.typeOf Tryz.func237 (by kernel_rfl) (by kernel_rfl) (by kernel_rfl) (by kernel_rfl)
  have h32:=@run_callFunc_extern Tryz.prog 305 _ cmpF Tryz.func305 (by kernel_rfl) (by kernel_rfl) (by kernel_rfl) (by kernel_rfl)
  have tT:=isTypeOf
  have cT:=isComparable
  have mR:=isMethodComparable
  have nE:=noIsE
  have uE:=noUnwrapE
  have vE:=noUnwrapsE
  have heq:=run_eql_iface_ptr_other (P:=Tryz.prog) w Tryz.underlying95 Tryz.underlying323 hi hcmp hj (by rw [hjs]; decide) hne ha hb
  go_enter Tryz.func221,Tryz.ntmps221
  go_wp2
  refine wp_loop_rounds 1 ?_
  rw [rounds_succ]
  go_wp2
  go_ret
  exact ⟨rfl,rfl⟩
end
section
open Go.RowKit
structure Sents (w : World) (U : Nat) (a : Nat → Addr) : Prop where
  cell : ∀ i,i < 8 → w.cell? ⟨i,0,none⟩ = some (.iface 323 (.pointer (some (a i))))
  row : ∀ i,i < 8 → ∃ c t,w.heap[(a i).block]? = some (.cells c t (0,0))
  ne : ∀ i j,i < 8 → j < 8 → i ≠ j → a i ≠ a j
  lt : ∀ i,i < 8 → i < U ∧ (a i).block < U
theorem Sents.below {w w' : World} {U B : Nat} {a : Nat → Addr} (h : Sents w U a) (hb : Below B w w') (hU : U ≤ B) : Sents w' U a :=
  ⟨fun i hi=>by rw [hb.cell (by have:=h.lt i hi; simp; omega)]; exact h.cell i hi,fun i hi=>by rw [hb.block _ (by have:=h.lt i hi; omega)]; exact h.row i hi,h.ne,h.lt⟩
def errV (a : Nat → Addr) : Nat → Value
  | 0=>.nilIface
  | k + 1=>.iface 323 (.pointer (some (a ((k + 1) % 8))))
theorem actCode0 (w : World) : Calls Tryz.prog 186 #[.nilIface] w fun e w'=>e = .returned (.int .i64 0) ∧ w' = w:=by
  go_enter Tryz.func186,Tryz.ntmps186
  go_wp2_with fail
  go_ret
  exact ⟨rfl,rfl⟩
theorem actCode1 (a : Nat → Addr) (U : Nat) (w : World) (H : Sents w U a) : Calls Tryz.prog 186 #[.iface 323 (.pointer (some (a 1)))] w fun e w'=>e = .returned (.int .i64 1) ∧ w' = w:=by
  have c1:=H.cell 1 (by omega)
  obtain ⟨r1,t1,h1⟩:=H.row 1 (by omega)
  clear H
  go_enter Tryz.func186,Tryz.ntmps186
  go_wp2_with fail
  refine (is_same (a 1) _).mono ?_
  rintro e w2 ⟨rfl,rfl⟩
  go_wp2_with fail
  go_ret
  exact ⟨rfl,rfl⟩
theorem actCode2 (a : Nat → Addr) (U : Nat) (w : World) (H : Sents w U a) : Calls Tryz.prog 186 #[.iface 323 (.pointer (some (a 2)))] w fun e w'=>e = .returned (.int .i64 2) ∧ w' = w:=by
  have c1:=H.cell 1 (by omega)
  have c2:=H.cell 2 (by omega)
  obtain ⟨r1,t1,h1⟩:=H.row 1 (by omega)
  obtain ⟨r2,t2,h2⟩:=H.row 2 (by omega)
  have n1:=H.ne 2 1 (by omega) (by omega) (by omega)
  clear H
  go_enter Tryz.func186,Tryz.ntmps186
  go_wp2_with fail
  refine (is_other (a 2) (a 1) r2 r1 t2 t1 _ n1 h2 h1).mono ?_
  rintro e w2 ⟨rfl,rfl⟩
  go_wp2_with fail
  refine (is_same (a 2) _).mono ?_
  rintro e w2 ⟨rfl,rfl⟩
  go_wp2_with fail
  go_ret
  exact ⟨rfl,rfl⟩
theorem actCode3 (a : Nat → Addr) (U : Nat) (w : World) (H : Sents w U a) : Calls Tryz.prog 186 #[.iface 323 (.pointer (some (a 3)))] w fun e w'=>e = .returned (.int .i64 3) ∧ w' = w:=by
  have c1:=H.cell 1 (by omega)
  have c2:=H.cell 2 (by omega)
  have c3:=H.cell 3 (by omega)
  obtain ⟨r1,t1,h1⟩:=H.row 1 (by omega)
  obtain ⟨r2,t2,h2⟩:=H.row 2 (by omega)
  obtain ⟨r3,t3,h3⟩:=H.row 3 (by omega)
  have n1:=H.ne 3 1 (by omega) (by omega) (by omega)
  have n2:=H.ne 3 2 (by omega) (by omega) (by omega)
  clear H
  go_enter Tryz.func186,Tryz.ntmps186
  go_wp2_with fail
  refine (is_other (a 3) (a 1) r3 r1 t3 t1 _ n1 h3 h1).mono ?_
  rintro e w2 ⟨rfl,rfl⟩
  go_wp2_with fail
  refine (is_other (a 3) (a 2) r3 r2 t3 t2 _ n2 h3 h2).mono ?_
  rintro e w2 ⟨rfl,rfl⟩
  go_wp2_with fail
  refine (is_same (a 3) _).mono ?_
  rintro e w2 ⟨rfl,rfl⟩
  go_wp2_with fail
  go_ret
  exact ⟨rfl,rfl⟩
theorem actCode4 (a : Nat → Addr) (U : Nat) (w : World) (H : Sents w U a) : Calls Tryz.prog 186 #[.iface 323 (.pointer (some (a 4)))] w fun e w'=>e = .returned (.int .i64 4) ∧ w' = w:=by
  have c1:=H.cell 1 (by omega)
  have c2:=H.cell 2 (by omega)
  have c3:=H.cell 3 (by omega)
  have c4:=H.cell 4 (by omega)
  obtain ⟨r1,t1,h1⟩:=H.row 1 (by omega)
  obtain ⟨r2,t2,h2⟩:=H.row 2 (by omega)
  obtain ⟨r3,t3,h3⟩:=H.row 3 (by omega)
  obtain ⟨r4,t4,h4⟩:=H.row 4 (by omega)
  have n1:=H.ne 4 1 (by omega) (by omega) (by omega)
  have n2:=H.ne 4 2 (by omega) (by omega) (by omega)
  have n3:=H.ne 4 3 (by omega) (by omega) (by omega)
  clear H
  go_enter Tryz.func186,Tryz.ntmps186
  go_wp2_with fail
  refine (is_other (a 4) (a 1) r4 r1 t4 t1 _ n1 h4 h1).mono ?_
  rintro e w2 ⟨rfl,rfl⟩
  go_wp2_with fail
  refine (is_other (a 4) (a 2) r4 r2 t4 t2 _ n2 h4 h2).mono ?_
  rintro e w2 ⟨rfl,rfl⟩
  go_wp2_with fail
  refine (is_other (a 4) (a 3) r4 r3 t4 t3 _ n3 h4 h3).mono ?_
  rintro e w2 ⟨rfl,rfl⟩
  go_wp2_with fail
  refine (is_same (a 4) _).mono ?_
  rintro e w2 ⟨rfl,rfl⟩
  go_wp2_with fail
  go_ret
  exact ⟨rfl,rfl⟩
theorem actCode5 (a : Nat → Addr) (U : Nat) (w : World) (H : Sents w U a) : Calls Tryz.prog 186 #[.iface 323 (.pointer (some (a 5)))] w fun e w'=>e = .returned (.int .i64 5) ∧ w' = w:=by
  have c1:=H.cell 1 (by omega)
  have c2:=H.cell 2 (by omega)
  have c3:=H.cell 3 (by omega)
  have c4:=H.cell 4 (by omega)
  have c5:=H.cell 5 (by omega)
  obtain ⟨r1,t1,h1⟩:=H.row 1 (by omega)
  obtain ⟨r2,t2,h2⟩:=H.row 2 (by omega)
  obtain ⟨r3,t3,h3⟩:=H.row 3 (by omega)
  obtain ⟨r4,t4,h4⟩:=H.row 4 (by omega)
  obtain ⟨r5,t5,h5⟩:=H.row 5 (by omega)
  have n1:=H.ne 5 1 (by omega) (by omega) (by omega)
  have n2:=H.ne 5 2 (by omega) (by omega) (by omega)
  have n3:=H.ne 5 3 (by omega) (by omega) (by omega)
  have n4:=H.ne 5 4 (by omega) (by omega) (by omega)
  clear H
  go_enter Tryz.func186,Tryz.ntmps186
  go_wp2_with fail
  refine (is_other (a 5) (a 1) r5 r1 t5 t1 _ n1 h5 h1).mono ?_
  rintro e w2 ⟨rfl,rfl⟩
  go_wp2_with fail
  refine (is_other (a 5) (a 2) r5 r2 t5 t2 _ n2 h5 h2).mono ?_
  rintro e w2 ⟨rfl,rfl⟩
  go_wp2_with fail
  refine (is_other (a 5) (a 3) r5 r3 t5 t3 _ n3 h5 h3).mono ?_
  rintro e w2 ⟨rfl,rfl⟩
  go_wp2_with fail
  refine (is_other (a 5) (a 4) r5 r4 t5 t4 _ n4 h5 h4).mono ?_
  rintro e w2 ⟨rfl,rfl⟩
  go_wp2_with fail
  refine (is_same (a 5) _).mono ?_
  rintro e w2 ⟨rfl,rfl⟩
  go_wp2_with fail
  go_ret
  exact ⟨rfl,rfl⟩
theorem actCode6 (a : Nat → Addr) (U : Nat) (w : World) (H : Sents w U a) : Calls Tryz.prog 186 #[.iface 323 (.pointer (some (a 6)))] w fun e w'=>e = .returned (.int .i64 6) ∧ w' = w:=by
  have c1:=H.cell 1 (by omega)
  have c2:=H.cell 2 (by omega)
  have c3:=H.cell 3 (by omega)
  have c4:=H.cell 4 (by omega)
  have c5:=H.cell 5 (by omega)
  have c6:=H.cell 6 (by omega)
  obtain ⟨r1,t1,h1⟩:=H.row 1 (by omega)
  obtain ⟨r2,t2,h2⟩:=H.row 2 (by omega)
  obtain ⟨r3,t3,h3⟩:=H.row 3 (by omega)
  obtain ⟨r4,t4,h4⟩:=H.row 4 (by omega)
  obtain ⟨r5,t5,h5⟩:=H.row 5 (by omega)
  obtain ⟨r6,t6,h6⟩:=H.row 6 (by omega)
  have n1:=H.ne 6 1 (by omega) (by omega) (by omega)
  have n2:=H.ne 6 2 (by omega) (by omega) (by omega)
  have n3:=H.ne 6 3 (by omega) (by omega) (by omega)
  have n4:=H.ne 6 4 (by omega) (by omega) (by omega)
  have n5:=H.ne 6 5 (by omega) (by omega) (by omega)
  clear H
  go_enter Tryz.func186,Tryz.ntmps186
  go_wp2_with fail
  refine (is_other (a 6) (a 1) r6 r1 t6 t1 _ n1 h6 h1).mono ?_
  rintro e w2 ⟨rfl,rfl⟩
  go_wp2_with fail
  refine (is_other (a 6) (a 2) r6 r2 t6 t2 _ n2 h6 h2).mono ?_
  rintro e w2 ⟨rfl,rfl⟩
  go_wp2_with fail
  refine (is_other (a 6) (a 3) r6 r3 t6 t3 _ n3 h6 h3).mono ?_
  rintro e w2 ⟨rfl,rfl⟩
  go_wp2_with fail
  refine (is_other (a 6) (a 4) r6 r4 t6 t4 _ n4 h6 h4).mono ?_
  rintro e w2 ⟨rfl,rfl⟩
  go_wp2_with fail
  refine (is_other (a 6) (a 5) r6 r5 t6 t5 _ n5 h6 h5).mono ?_
  rintro e w2 ⟨rfl,rfl⟩
  go_wp2_with fail
  refine (is_same (a 6) _).mono ?_
  rintro e w2 ⟨rfl,rfl⟩
  go_wp2_with fail
  go_ret
  exact ⟨rfl,rfl⟩
theorem actCode7 (a : Nat → Addr) (U : Nat) (w : World) (H : Sents w U a) : Calls Tryz.prog 186 #[.iface 323 (.pointer (some (a 7)))] w fun e w'=>e = .returned (.int .i64 7) ∧ w' = w:=by
  have c1:=H.cell 1 (by omega)
  have c2:=H.cell 2 (by omega)
  have c3:=H.cell 3 (by omega)
  have c4:=H.cell 4 (by omega)
  have c5:=H.cell 5 (by omega)
  have c6:=H.cell 6 (by omega)
  have c7:=H.cell 7 (by omega)
  obtain ⟨r1,t1,h1⟩:=H.row 1 (by omega)
  obtain ⟨r2,t2,h2⟩:=H.row 2 (by omega)
  obtain ⟨r3,t3,h3⟩:=H.row 3 (by omega)
  obtain ⟨r4,t4,h4⟩:=H.row 4 (by omega)
  obtain ⟨r5,t5,h5⟩:=H.row 5 (by omega)
  obtain ⟨r6,t6,h6⟩:=H.row 6 (by omega)
  obtain ⟨r7,t7,h7⟩:=H.row 7 (by omega)
  have n1:=H.ne 7 1 (by omega) (by omega) (by omega)
  have n2:=H.ne 7 2 (by omega) (by omega) (by omega)
  have n3:=H.ne 7 3 (by omega) (by omega) (by omega)
  have n4:=H.ne 7 4 (by omega) (by omega) (by omega)
  have n5:=H.ne 7 5 (by omega) (by omega) (by omega)
  have n6:=H.ne 7 6 (by omega) (by omega) (by omega)
  clear H
  go_enter Tryz.func186,Tryz.ntmps186
  go_wp2_with fail
  refine (is_other (a 7) (a 1) r7 r1 t7 t1 _ n1 h7 h1).mono ?_
  rintro e w2 ⟨rfl,rfl⟩
  go_wp2_with fail
  refine (is_other (a 7) (a 2) r7 r2 t7 t2 _ n2 h7 h2).mono ?_
  rintro e w2 ⟨rfl,rfl⟩
  go_wp2_with fail
  refine (is_other (a 7) (a 3) r7 r3 t7 t3 _ n3 h7 h3).mono ?_
  rintro e w2 ⟨rfl,rfl⟩
  go_wp2_with fail
  refine (is_other (a 7) (a 4) r7 r4 t7 t4 _ n4 h7 h4).mono ?_
  rintro e w2 ⟨rfl,rfl⟩
  go_wp2_with fail
  refine (is_other (a 7) (a 5) r7 r5 t7 t5 _ n5 h7 h5).mono ?_
  rintro e w2 ⟨rfl,rfl⟩
  go_wp2_with fail
  refine (is_other (a 7) (a 6) r7 r6 t7 t6 _ n6 h7 h6).mono ?_
  rintro e w2 ⟨rfl,rfl⟩
  go_wp2_with fail
  refine (is_same (a 7) _).mono ?_
  rintro e w2 ⟨rfl,rfl⟩
  go_wp2_with fail
  go_ret
  exact ⟨rfl,rfl⟩
theorem actCode8 (a : Nat → Addr) (U : Nat) (w : World) (H : Sents w U a) : Calls Tryz.prog 186 #[.iface 323 (.pointer (some (a 0)))] w fun e w'=>e = .returned (.int .i64 8) ∧ w' = w:=by
  have c1:=H.cell 1 (by omega)
  have c2:=H.cell 2 (by omega)
  have c3:=H.cell 3 (by omega)
  have c4:=H.cell 4 (by omega)
  have c5:=H.cell 5 (by omega)
  have c6:=H.cell 6 (by omega)
  have c7:=H.cell 7 (by omega)
  obtain ⟨r0,t0,h0⟩:=H.row 0 (by omega)
  obtain ⟨r1,t1,h1⟩:=H.row 1 (by omega)
  obtain ⟨r2,t2,h2⟩:=H.row 2 (by omega)
  obtain ⟨r3,t3,h3⟩:=H.row 3 (by omega)
  obtain ⟨r4,t4,h4⟩:=H.row 4 (by omega)
  obtain ⟨r5,t5,h5⟩:=H.row 5 (by omega)
  obtain ⟨r6,t6,h6⟩:=H.row 6 (by omega)
  obtain ⟨r7,t7,h7⟩:=H.row 7 (by omega)
  have n1:=H.ne 0 1 (by omega) (by omega) (by omega)
  have n2:=H.ne 0 2 (by omega) (by omega) (by omega)
  have n3:=H.ne 0 3 (by omega) (by omega) (by omega)
  have n4:=H.ne 0 4 (by omega) (by omega) (by omega)
  have n5:=H.ne 0 5 (by omega) (by omega) (by omega)
  have n6:=H.ne 0 6 (by omega) (by omega) (by omega)
  have n7:=H.ne 0 7 (by omega) (by omega) (by omega)
  clear H
  go_enter Tryz.func186,Tryz.ntmps186
  go_wp2_with fail
  refine (is_other (a 0) (a 1) r0 r1 t0 t1 _ n1 h0 h1).mono ?_
  rintro e w2 ⟨rfl,rfl⟩
  go_wp2_with fail
  refine (is_other (a 0) (a 2) r0 r2 t0 t2 _ n2 h0 h2).mono ?_
  rintro e w2 ⟨rfl,rfl⟩
  go_wp2_with fail
  refine (is_other (a 0) (a 3) r0 r3 t0 t3 _ n3 h0 h3).mono ?_
  rintro e w2 ⟨rfl,rfl⟩
  go_wp2_with fail
  refine (is_other (a 0) (a 4) r0 r4 t0 t4 _ n4 h0 h4).mono ?_
  rintro e w2 ⟨rfl,rfl⟩
  go_wp2_with fail
  refine (is_other (a 0) (a 5) r0 r5 t0 t5 _ n5 h0 h5).mono ?_
  rintro e w2 ⟨rfl,rfl⟩
  go_wp2_with fail
  refine (is_other (a 0) (a 6) r0 r6 t0 t6 _ n6 h0 h6).mono ?_
  rintro e w2 ⟨rfl,rfl⟩
  go_wp2_with fail
  refine (is_other (a 0) (a 7) r0 r7 t0 t7 _ n7 h0 h7).mono ?_
  rintro e w2 ⟨rfl,rfl⟩
  go_wp2_with fail
  go_ret
  exact ⟨rfl,rfl⟩
theorem actCode_any (a : Nat → Addr) (U : Nat) (k : Nat) (w : World) (hk : k ≤ 8) (H : Sents w U a) : Calls Tryz.prog 186 #[errV a k] w fun e w'=>e = .returned (.int .i64 k) ∧ w' = w:=by
  match k,hk with
  | 0,_=>exact actCode0 w
  | 1,_=>exact actCode1 a U w H
  | 2,_=>exact actCode2 a U w H
  | 3,_=>exact actCode3 a U w H
  | 4,_=>exact actCode4 a U w H
  | 5,_=>exact actCode5 a U w H
  | 6,_=>exact actCode6 a U w H
  | 7,_=>exact actCode7 a U w H
  | 8,_=>exact actCode8 a U w H
end
section
open Go.RowKit
structure DBox (W : World) (S b n c : Nat) (o : LOp) : Prop where
  k0 : W.cell? ⟨S,0,none⟩ = some (.int .i64 o.kind)
  k1 : W.cell? ⟨S,1,none⟩ = some (.int .i64 o.dir)
  k2 : W.cell? ⟨S,2,none⟩ = some (.string o.name)
  k3 : W.cell? ⟨S,3,none⟩ = some (.int .i64 o.dir2)
  k4 : W.cell? ⟨S,4,none⟩ = some (.string o.name2)
  k5 : W.cell? ⟨S,5,none⟩ = some (.int .i64 o.id)
  k6 : W.cell? ⟨S,6,none⟩ = some (.string o.text)
  tr : W.cell? ⟨S + 1,0,none⟩ = some (.slice (some ⟨b,0,none⟩) n c)
  sz : S + 1 < W.heap.size
theorem DBox.of {W W' : World} {S b n c : Nat} {o : LOp} (h : DBox W S b n c o) (hs : W.heap.size ≤ W'.heap.size) (hb : ∀ q,S ≤ q → q ≤ S + 1 → W'.heap[q]? = W.heap[q]?) : DBox W' S b n c o:=by
  have h0 : ∀ j,W'.cell? ⟨S,j,none⟩ = W.cell? ⟨S,j,none⟩:=fun j=>World.cell?_of_block (w:=W) (hb S (by omega) (by omega))
  have h1 : ∀ j,W'.cell? ⟨S + 1,j,none⟩ = W.cell? ⟨S + 1,j,none⟩:=fun j=>World.cell?_of_block (w:=W) (hb (S + 1) (by omega) (by omega))
  exact ⟨by rw [h0]; exact h.k0,by rw [h0]; exact h.k1,by rw [h0]; exact h.k2,by rw [h0]; exact h.k3,by rw [h0]; exact h.k4,by rw [h0]; exact h.k5,by rw [h0]; exact h.k6,by rw [h1]; exact h.tr,by have:=h.sz; omega⟩
theorem DBox.next {W W' : World} {S b n c : Nat} {o : LOp} (h : DBox W S b n c o) (hb : Below W.heap.size W W') : DBox W' S b n c o:=h.of hb.size fun q _ h2=>hb.block q (by have:=h.sz; omega)
theorem DBox.post {W W' : World} {S B b c n : Nat} {o : LOp} {os' : List LObj} {vs vs' : Nat → Value} (h : DBox W S b n c o) (hp : DPost W W' B b c n os' vs vs') (hb : b < S) (hv : ∀ i g,i < n → (vs i).ownBlock = some g → g < S ∨ S + 1 < g) : DBox W' S b n c o :=
  h.of hp.below.size fun q h1 h2=>hp.kt q (by have:=h.sz; omega) (by omega) fun i hi e=>by have:=hv i q hi e; omega
def DeedEnd (w : World) (a : Nat → Addr) (B b c n : Nat) (vs : Nat → Value) (r : List LObj × Int) (e : Ending) (w' : World) : Prop:=∃ k vs',r.2 = ((k : Nat) : Int) ∧ k ≤ 8 ∧ e = .returned (errV a k) ∧ DPost w w' B b c n r.1 vs vs'
theorem DeedEnd.no {w w' : World} {a : Nat → Addr} {B b c n : Nat} {vs : Nat → Value} {os : List LObj} {r : List LObj × Int} (k : Nat) (hk : k ≤ 8) (hr : r = (os,(k : Int))) (H : OwnT w B b c os vs) (hB : B ≤ w.heap.size) (hb : Below w.heap.size w w') {v : Value} (hv : v = errV a k) : DeedEnd w a B b c n vs r (.returned v) w' :=
  ⟨k,vs,by rw [hr],hk,by rw [hv],by rw [hr]; exact DPost.same H hB hb⟩
theorem OwnT.vlt {w : World} {B b c n : Nat} {os : List LObj} {vs : Nat → Value} (h : OwnT w B b c os vs) (hn : n = os.length) (i g : Nat) (hi : i < n) (hg : (vs i).ownBlock = some g) : g < w.heap.size:=by
  have ho : os[i]? = some (os[i]'(by omega)):=by simp [show i < os.length by omega]
  exact (World.ownsRow.lt (h.at_ i _ ho).2.2.2.2.2.1 g hg).2
theorem DPost.vfar {w w' : World} {B b c n : Nat} {os' : List LObj} {vs vs' : Nat → Value} {S : Nat} (hp : DPost w w' B b c n os' vs vs') (hS : S + 1 < w.heap.size) (hv : ∀ i g,i < n → (vs i).ownBlock = some g → g < S ∨ S + 1 < g) : ∀ i g,i < n → (vs' i).ownBlock = some g → g < S ∨ S + 1 < g:=fun i g hi hg=>by
  rcases hp.sub i g hi hg with h | h
  · exact hv i g hi h
  · omega
set_option maxHeartbeats 4000000 in
set_option maxRecDepth 20000 in
theorem making_do (kk : Int) (a : Nat → Addr) (U B b c n : Nat) (o : LOp) (os : List LObj) (vs : Nat → Value) (w : World) (hU : U ≤ B) (HS : Sents w U a) (hB : B ≤ w.heap.size) (hs : specOk os = true) (hn : n = 32) (hok : opOk o = true) (hz : OpSz o) (H : OwnT w B b c os vs) (hkk : kk = if o.kind = 2 then 2 else 1) :
    Calls Tryz.prog 278 #[.agg #[.int .i64 o.kind,.int .i64 o.dir,.string o.name,.int .i64 o.dir2,.string o.name2,.int .i64 o.id,.string o.text,.int .i64 kk],.agg #[.slice (some ⟨b,0,none⟩) n c]] w fun e w'=>DeedEnd w a B b c n vs (actNew os o) e w':=by
  have hlen:=ok_len hs
  have b1:=opOk_id hok
  have b2:=opOk_dir hok
  have b3:=opOk_dir2 hok
  have hbl:=H.lt
  obtain ⟨i,hi⟩ : ∃ i : Nat,o.id = i:=⟨o.id.toNat,by omega⟩
  obtain ⟨x,hx⟩ : ∃ x,os[i]? = some x:=⟨os[i]'(by omega),by simp⟩
  have HX : Hid (os[i]? = some x):=hx
  obtain ⟨j,hj⟩ : ∃ j : Nat,o.dir = j:=⟨o.dir.toNat,by omega⟩
  obtain ⟨d,hd⟩ : ∃ d,os[j]? = some d:=⟨os[j]'(by omega),by simp⟩
  have HD : Hid (os[j]? = some d):=hd
  have hA : Below w.heap.size w ((w.alloc (Obj.cells #[.int .i64 o.kind,.int .i64 o.dir,.string o.name,.int .i64 o.dir2,.string o.name2,.int .i64 o.id,.string o.text,.int .i64 kk] 299)).alloc (Obj.cells #[.slice (some ⟨b,0,none⟩) n c] 235)):=((Below.refl _ _).alloc (Nat.le_refl _) _).alloc (by simp) _
  have hD0 : DBox ((w.alloc (Obj.cells #[.int .i64 o.kind,.int .i64 o.dir,.string o.name,.int .i64 o.dir2,.string o.name2,.int .i64 o.id,.string o.text,.int .i64 kk] 299)).alloc (Obj.cells #[.slice (some ⟨b,0,none⟩) n c] 235)) w.heap.size b n c o:=⟨by simp [go_sem],by simp [go_sem],by simp [go_sem],by simp [go_sem],by simp [go_sem],by simp [go_sem],by simp [go_sem],by simp [go_sem],by simp⟩
  have hk7 : ((w.alloc (Obj.cells #[.int .i64 o.kind,.int .i64 o.dir,.string o.name,.int .i64 o.dir2,.string o.name2,.int .i64 o.id,.string o.text,.int .i64 kk] 299)).alloc (Obj.cells #[.slice (some ⟨b,0,none⟩) n c] 235)).cell? ⟨w.heap.size,7,none⟩ = some (.int .i64 kk):=by simp [go_sem]
  have HACT : Hid (actNew os o = if d.kind ≠ 2 then (os,1) else if 0 ≤ findV d.kids o.name then (os,3) else if x.kind ≠ 0 ∨ 0 < x.ver then (os,7) else ((os.set i ⟨kk,1,⟨#[]⟩,[]⟩).set j { d with kids:=putL ⟨o.name,o.id⟩ d.kids,ver:=d.ver + 1 },0)):=by
    show _ = _
    unfold actNew
    rw [hi,hj,Int.toNat_natCast,Int.toNat_natCast,hd,hx,hkk]
  have HIJ : Hid (o.id = i ∧ o.dir = j):=⟨hi,hj⟩
  have hcd:=H.at_ j d hd
  have hcx:=H.at_ i x hx
  obtain ⟨ka,kc,hvd,hEd⟩:=hcd.2.2.2.2.2.1.at_ hcd.2.2.2.2.2.2
  have hc3 : w.cell? ⟨b,j * 4 + 3,none⟩ = some (.slice ka d.kids.length kc):=by rw [hcd.2.2.2.2.1,hvd]
  have hkb : d.kids.length ≤ 32:=ok_kids hs hd
  have hasc:=ok_asc hs hd
  have hver:=ok_ver hs hd
  have hverx:=ok_ver hs hx
  have HFV : Hid ((findV d.kids o.name != -1) = decide (0 ≤ findV d.kids o.name)):=findV_neg hs hd o.name
  have HV : Hid (∀ q g,q < n → (vs q).ownBlock = some g → g < w.heap.size):=fun q g hq hg=>H.vlt (by omega) q g hq hg
  have hjn : j < n:=by omega
  have hin : i < n:=by omega
  have hin' : (i : Int) < (n : Int):=by omega
  have hi0 : (0 : Int) ≤ (i : Int):=by omega
  have HSE : Hid (Sents w U a):=HS
  have HOT : Hid (OwnT w B b c os vs):=H
  have HEd : Hid (EntsAt w B w.heap.size ka d.kids.length d.kids):=hEd
  obtain ⟨W0,hW0⟩ : ∃ W0 : World,W0 = ((w.alloc (Obj.cells #[.int .i64 o.kind,.int .i64 o.dir,.string o.name,.int .i64 o.dir2,.string o.name2,.int .i64 o.id,.string o.text,.int .i64 kk] 299)).alloc (Obj.cells #[.slice (some ⟨b,0,none⟩) n c] 235)):=⟨_,rfl⟩
  rw [← hW0] at hA hD0 hk7
  have HN : Hid (n = 32 ∧ os.length = 32):=⟨hn,hlen⟩
  have hnameS:=hz.name
  have hij1 : 1 ≤ i:=by omega
  have hz0:=hD0.sz
  have hUw : U ≤ w.heap.size:=by omega
  have e0:=hD0.k0
  have e1:=hD0.k1
  have e2:=hD0.k2
  have e5:=hD0.k5
  have e7:=hD0.tr
  rw [HIJ.out.1] at e5
  rw [HIJ.out.2] at e1
  clear hi hj hn hlen hkk HS H hd hx hEd hcx hvd b1 b2 b3 hs hok hz
  go_enter Tryz.func278,Tryz.ntmps278
  go_upto_region 1 with fail
  rw [← hW0]
  clear hW0
  go_wp2_with fail
  refine (isDir_t b c n j d.kind _ hjn (by have:=hA.size; omega) (by rw [hA.cell (by simpa using hbl)]; exact hcd.2.1)).mono ?_
  rintro z w1 ⟨rfl,hb1⟩
  have h1:=hD0.next hb1
  have hB1 : Below w.heap.size w w1:=hA.trans (hb1.mono hA.size)
  have k7 : w1.cell? ⟨w.heap.size,7,none⟩ = some (.int .i64 kk):=by rw [hb1.cell (by simp; omega)]; exact hk7
  have e0:=h1.k0
  have e1:=h1.k1
  have e2:=h1.k2
  have e5:=h1.k5
  have e7:=h1.tr
  rw [HIJ.out.1] at e5
  rw [HIJ.out.2] at e1
  clear hb1 hA hD0 hk7
  rcases t1 : (d.kind == 2) with _ | _
  · have s1 : w1.cell? ⟨1,0,none⟩ = some (.iface 323 (.pointer (some (a 1)))):=(HSE.out.below hB1 hUw).cell 1 (by omega)
    have hne : Hid (d.kind ≠ 2):=by show _ ≠ _; simpa using t1
    go_wp2_with fail
    go_ret
    exact DeedEnd.no 1 (by omega) (by rw [HACT.out,if_pos (by have:=hne.out; omega)]; rfl) HOT.out hB hB1 rfl
  have HK2 : Hid (d.kind = 2):=by show _ = _; simpa using t1
  have hz1:=h1.sz
  go_wp2_with fail
  refine (find_t b c n j ka d.kids.length kc d.kids B w.heap.size o.name _ hjn (by have:=hB1.size; omega) (by rw [hB1.cell (by simpa using hbl)]; exact hc3) (by omega) hasc hB1.size (HEd.out.below hB1 (Nat.le_refl _))).mono ?_
  rintro z w2 ⟨rfl,hb2⟩
  have h2:=h1.next hb2
  have hB2 : Below w.heap.size w w2:=hB1.trans (hb2.mono hB1.size)
  have k7' : w2.cell? ⟨w.heap.size,7,none⟩ = some (.int .i64 kk):=by rw [hb2.cell (by simp; omega)]; exact k7
  have e0:=h2.k0
  have e1:=h2.k1
  have e2:=h2.k2
  have e5:=h2.k5
  have e7:=h2.tr
  rw [HIJ.out.1] at e5
  rw [HIJ.out.2] at e1
  clear hb2 hB1 h1 k7
  rcases f0 : decide (0 ≤ findV d.kids o.name) with _ | _
  case true =>
    have t2 : (findV d.kids o.name != -1) = true:=by rw [HFV.out]; exact f0
    have s3 : w2.cell? ⟨3,0,none⟩ = some (.iface 323 (.pointer (some (a 3)))):=(HSE.out.below hB2 hUw).cell 3 (by omega)
    have hf : Hid (0 ≤ findV d.kids o.name):=by show _ ≤ _; simpa using f0
    clear f0
    go_wp2_with fail
    go_ret
    exact DeedEnd.no 3 (by omega) (by rw [HACT.out,if_neg (by rw [HK2.out]; simp),if_pos (by have:=hf.out; omega)]; rfl) HOT.out hB hB2 rfl
  have t2 : (findV d.kids o.name != -1) = false:=by rw [HFV.out]; exact f0
  have hf : Hid (¬ 0 ≤ findV d.kids o.name):=by show ¬ _; simpa using f0
  have hcx:=(HOT.out.below hB2).at_ i x HX.out
  clear f0
  have hz2:=h2.sz
  go_wp2_with fail
  refine (isFresh_any b 0 n c i x.kind x.ver _ hin (by have:=hB2.size; omega) (by rw [Nat.zero_add]; exact hcx.2.1) (by rw [Nat.zero_add]; exact hcx.2.2.1)).mono ?_
  rintro z w3 ⟨rfl,hb3⟩
  have h3:=h2.next hb3
  have hB3 : Below w.heap.size w w3:=hB2.trans (hb3.mono hB2.size)
  have k7 : w3.cell? ⟨w.heap.size,7,none⟩ = some (.int .i64 kk):=by rw [hb3.cell (by simp; omega)]; exact k7'
  have e0:=h3.k0
  have e1:=h3.k1
  have e2:=h3.k2
  have e5:=h3.k5
  have e7:=h3.tr
  rw [HIJ.out.1] at e5
  rw [HIJ.out.2] at e1
  clear hb3 hB2 h2 k7' hcx
  rcases f1 : (decide (i ≠ 0) && decide (x.kind = 0) && decide (x.ver = 0)) with _ | _
  · have s7 : w3.cell? ⟨7,0,none⟩ = some (.iface 323 (.pointer (some (a 7)))):=(HSE.out.below hB3 hUw).cell 7 (by omega)
    have hg : Hid (x.kind ≠ 0 ∨ 0 < x.ver):=by
      show _ ∨ _
      by_cases q : x.kind = 0
      · right
        have : x.ver ≠ 0:=by intro q2; simp [q,q2] at f1; omega
        omega
      · exact .inl q
    clear f1
    go_wp2_with fail
    go_ret
    exact DeedEnd.no 7 (by omega) (by rw [HACT.out,if_neg (by rw [HK2.out]; simp),if_neg (by have:=hf.out; omega),if_pos (by have:=hg.out; omega)]; rfl) HOT.out hB hB3 rfl
  have hg : Hid (x.kind = 0 ∧ x.ver = 0):=by show _ ∧ _; simp at f1; exact ⟨f1.1.2,f1.2⟩
  have HNE : Hid (i ≠ j):=by
    intro e
    have h9:=HX.out
    rw [e,HD.out] at h9
    cases h9
    have:=HK2.out
    have:=hg.out.1
    omega
  have hOT3:=HOT.out.below hB3
  have hcx:=hOT3.at_ i x HX.out
  obtain ⟨-,p0,p1,p2,p3,-,-⟩:=hcx
  have z0:=hOT3.frozen (i * 4)
  have z1:=hOT3.frozen (i * 4 + 1)
  have z2:=hOT3.frozen (i * 4 + 2)
  have z3:=hOT3.frozen (i * 4 + 3)
  have HOT3 : Hid (OwnT w3 B b c os vs):=hOT3
  have hz3:=h3.sz
  have hbl3 : b < w3.heap.size:=hOT3.lt
  clear f1 hOT3 hcd hc3
  go_upto_region 8 with fail
  have hput : put4 w3 b i kk 1 = (((w3.setCell ⟨b,i * 4,none⟩ (.int .i64 kk)).setCell ⟨b,i * 4 + 1,none⟩ (.int .i64 1)).setCell ⟨b,i * 4 + 2,none⟩ (.string ⟨#[]⟩)).setCell ⟨b,i * 4 + 3,none⟩ (.slice none 0 0):=rfl
  rw [← hput]
  have hP4 : DPost w (put4 w3 b i kk 1) B b c n (os.set i ⟨kk,1,⟨#[]⟩,[]⟩) vs (fun q=>if q = i then .slice none 0 0 else vs q) :=
    ⟨HOT3.out.put4 HX.out kk 1,put4_below i kk 1 (hB3.mono hB) HOT.out.lo,Kt.put4 (Kt.of_below hB3 b n vs),fun q g hq hg=>by
      by_cases e : q = i
      · simp [e,Value.ownBlock] at hg
      · simp only [e,if_false] at hg; exact .inl hg⟩
  have h4 : DBox (put4 w3 b i kk 1) w.heap.size b n c o:=h3.of (by rw [put4_size]; exact Nat.le_refl _) fun q hq1 hq2=>put4_block w3 b i kk 1 (by omega)
  have hbs:=HV.out
  clear hput
  generalize put4 w3 b i kk 1 = W4 at *
  clear p0 p1 p2 p3 z0 z1 z2 z3 e0 e1 e2 e5 e7 h3 k7
  have e0:=h4.k0
  have e1:=h4.k1
  have e2:=h4.k2
  have e5:=h4.k5
  have e7:=h4.tr
  rw [HIJ.out.1] at e5
  rw [HIJ.out.2] at e1
  have hz4:=h4.sz
  have hBW4 : B ≤ W4.heap.size:=by omega
  go_wp2_with fail
  refine (enter_t B b c n j d ⟨o.name,(i : Int)⟩ (os.set i ⟨kk,1,⟨#[]⟩,[]⟩) _ W4 (by rw [List.length_set,HN.out.2]; exact HN.out.1) (by rw [List.getElem?_set_ne HNE.out]; exact HD.out) hasc (by omega) hnameS hBW4 hP4.own).mono ?_
  rintro z W5 ⟨rfl,vs5,hP5⟩
  have hvf4 : ∀ q g,q < n → (if q = i then Value.slice none 0 0 else vs q).ownBlock = some g → g < w.heap.size ∨ w.heap.size + 1 < g:=fun q g hq hg=>by
    by_cases e : q = i
    · simp [e,Value.ownBlock] at hg
    · simp only [e,if_false] at hg; exact .inl (hbs q g hq hg)
  have h5:=h4.post hP5 hbl hvf4
  have hP45:=hP4.trans hP5
  have hvf5:=hP5.vfar hz4 hvf4
  have e1:=h5.k1
  have e7:=h5.tr
  rw [HIJ.out.2] at e1
  have hBW5 : B ≤ W5.heap.size:=by have:=hP5.below.size; omega
  have hz5:=h5.sz
  clear hP5 hP4 h4 hvf4
  go_wp2_with fail
  refine (turn_t B b c n j { d with kids:=putL ⟨o.name,(i : Int)⟩ d.kids } _ vs5 W5 (by rw [List.length_set,List.length_set,HN.out.2]; exact HN.out.1) (List.getElem?_set_self (by rw [List.length_set,HN.out.2,← HN.out.1]; exact hjn)) (by show _ ≤ d.ver; omega) (by show d.ver ≤ _; omega) hBW5 hP45.own).mono ?_
  rintro z W6 ⟨rfl,hP6⟩
  have hP:=hP45.trans hP6
  clear hP6 hP45 e1 e7
  go_wp2_with fail
  go_ret
  refine ⟨0,vs5,?_,by omega,rfl,?_⟩
  · rw [HACT.out,if_neg (by rw [HK2.out]; simp),if_neg (by have:=hf.out; omega),if_neg (by rw [hg.out.1,hg.out.2]; simp)]; rfl
  · rw [HACT.out,if_neg (by rw [HK2.out]; simp),if_neg (by have:=hf.out; omega),if_neg (by rw [hg.out.1,hg.out.2]; simp),HIJ.out.1]
    simpa [List.set_set] using hP
end
end Go.Proofs.YtloopeipheklpaaGreatDoor
