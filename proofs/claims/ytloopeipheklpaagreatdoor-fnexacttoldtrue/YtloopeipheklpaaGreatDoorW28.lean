/- Lemmas that the proofs of this seat share: TrueS, LaidS, Closed, CardF. -/
import Derived.Test.YtloopeipheklpaaGreatDoorW01
import Derived.Test.YtloopeipheklpaaGreatDoorW27
import Derived.Test.YtloopeipheklpaaGreatDoorRows
import Derived.Test.YtloopeipheklpaaGreatDoorW19
import Derived.LaidLaws
import Derived.LaidSub
import Derived.Stop.LaidErr
import Derived.RowKitTokens
import Derived.ChangeReads
import Derived.Test.YtloopeipheklpaaGreatDoorW26
import Derived.SevenTiedAt
namespace Go.Proofs.YtloopeipheklpaaGreatDoor
section
open Go.RowKit Go.ChangeShapes Go.WideShapes
set_option maxHeartbeats 8000000 in
set_option maxRecDepth 20000 in
theorem specToldTrue (a0 : Option Addr) (n0 c0 : Nat) (a1 : Option Addr) (n1 c1 : Nat) (a2 : Option Addr) (n2 c2 : Nat) (a3 : Option Addr) (n3 c3 : Nat) (a4 : Option Addr) (n4 c4 : Nat) (a5 : Option Addr) (n5 c5 : Nat) (x : LWorld) (L U : Nat) (w : World) (hs : WorldSm x) (hU : U ≤ w.heap.size) (H : WorldAt w L U a0 n0 a1 n1 a2 n2 a3 n3 a4 n4 a5 n5 x) :
    Calls Tryz.prog 27 #[.agg #[.slice a0 n0 c0,.slice a1 n1 c1,.slice a2 n2 c2,.slice a3 n3 c3,.slice a4 n4 c4,.slice a5 n5 c5]] w fun e w'=>e = .returned (.bool (toldTrue x)) ∧ Below w.heap.size w w':=by
  have HB0:=hidMk (HeldB.new w #[.slice a0 n0 c0,.slice a1 n1 c1,.slice a2 n2 c2,.slice a3 n3 c3,.slice a4 n4 c4,.slice a5 n5 c5] 56)
  have HH:=hidMk H
  have HP:=hidMk H.past
  have HT:=hidMk H.told
  have HTL:=hidMk HT.out.len
  have hbd:=HT.out.bd
  unfold maxLen at hbd
  have hA:=HB0.out.below
  obtain ⟨W0,hW0⟩ : ∃ W,W = w.alloc (.cells #[.slice a0 n0 c0,.slice a1 n1 c1,.slice a2 n2 c2,.slice a3 n3 c3,.slice a4 n4 c4,.slice a5 n5 c5] 56):=⟨_,rfl⟩
  rw [← hW0] at HB0 hA
  have f4 : W0.cell? ⟨w.heap.size,4,none⟩ = some (.slice a4 n4 c4):=HB0.out.box.get 4 _ rfl
  have f5 : W0.cell? ⟨w.heap.size,5,none⟩ = some (.slice a5 n5 c5):=HB0.out.box.get 5 _ rfl
  have hAs:=hA.size
  clear H
  go_enter Tryz.func27,Tryz.ntmps27
  go_wp2_with fail
  rw [← hW0]
  clear hW0
  go_loopg [3] n5 (fun g i wr=>∃ j : Nat,j ≤ n5 ∧ Hid (g = n5 - j) ∧ i = .int .i64 j ∧ Hid (x.told.all (trueB x.past) = (x.told.drop j).all (trueB x.past)) ∧ Below W0.heap.size W0 wr)
  case atStart=>exact ⟨0,Nat.zero_le _,by show _ = _; omega,rfl,by show _ = _; simp,Below.refl _ _⟩
  case round =>
    obtain ⟨j,hj,hk,rfl,hq,hb⟩:=hrel
    have hs1:=hb.size
    have hbw:=hA.trans (hb.mono hAs)
    have HBr:=HB0.out.next hb
    have hw0:=HBr.hi
    obtain ⟨f0,f1,f2,f3,f4,f5⟩:=HBr.box.c6
    by_cases hlt : j < n5
    · obtain ⟨b9,off,ha,hL,hbU,hc⟩:=HT.out.at_ (by omega)
      subst ha
      obtain ⟨y,vs,he,hc,rfl⟩:=hc j hlt
      have c0:=hc 0 _ rfl
      have c1:=hc 1 _ rfl
      have c2:=hc 2 _ rfl
      simp only [Nat.add_zero] at c0
      rw [← hbw.cell (by simp; omega)] at c0 c1 c2
      have hbl : b9 < wr.heap.size:=by omega
      have hlt' : (j : Int) < (n5 : Int):=by omega
      have HQ : Hid (x.told.all (trueB x.past) = (trueB x.past y && (x.told.drop (j + 1)).all (trueB x.past))):=by show _ = _; rw [hq.out,drop_cons he,List.all_cons]
      clear he hc hq HBr f0 f1 f2 f3
      go_upto_region 4 with fail
      refine wp_region_held_drew (S:=(fun W=>Below wr.heap.size wr W)) (by kernel_rfl) ?_ (fun hHeld=>?_)
      · exact (Below.refl _ _).drew
      refine listH (l2:=#[false,false,false,false,false,false,false,false,false,false,false,false,false,false,false,false,false,false,false,false,false,false,false]) (by kernel_rfl) ?_
      refine takeH (i:=0) (oi:=_) (v:=?vs2x0) 11 #[true,false,false,false,false,false,false,false,false,false,false,false,false,false,false,false,false,false,false,false,false,false,false] rfl (by kernel_rfl) (by kernel_rfl) (by kernel_rfl) rfl (by kernel_rfl) (fun _ _ _ h=>h) (Or.inl ⟨by rfl,?ys2x0⟩) (by assumption) ?rs2x0
      case ys2x0=>(intro w' hSw; (try dsimp only at hSw); have x0:=(hSw.cell (by show b9 < wr.heap.size; exact hbl)).trans c0; have x1:=(hSw.cell (by show b9 < wr.heap.size; exact hbl)).trans c1; have x2:=(hSw.cell (by show b9 < wr.heap.size; exact hbl)).trans c2; have xf:=(hSw.cell (by show w.heap.size < wr.heap.size; exact hw0)).trans f4; have xg:=(hSw.cell (by show w.heap.size < wr.heap.size; exact hw0)).trans f5; go_simp; try with_reducible rfl)
      simp only [Act.put,sT,sS,sZ]
      refine takeH (i:=1) (oi:=_) (v:=?vs2x1) 12 #[true,true,false,false,false,false,false,false,false,false,false,false,false,false,false,false,false,false,false,false,false,false,false] rfl (by kernel_rfl) (by kernel_rfl) (by kernel_rfl) rfl (by kernel_rfl) (fun _ _ _ h=>h) (Or.inl ⟨by rfl,?ys2x1⟩) (by assumption) ?rs2x1
      case ys2x1=>(intro w' hSw; (try dsimp only at hSw); have x0:=(hSw.cell (by show b9 < wr.heap.size; exact hbl)).trans c0; have x1:=(hSw.cell (by show b9 < wr.heap.size; exact hbl)).trans c1; have x2:=(hSw.cell (by show b9 < wr.heap.size; exact hbl)).trans c2; have xf:=(hSw.cell (by show w.heap.size < wr.heap.size; exact hw0)).trans f4; have xg:=(hSw.cell (by show w.heap.size < wr.heap.size; exact hw0)).trans f5; go_simp; try with_reducible rfl)
      simp only [Act.put,sT,sS,sZ]
      refine takeH (i:=2) (oi:=_) (v:=?vs2x2) 13 #[true,true,true,false,false,false,false,false,false,false,false,false,false,false,false,false,false,false,false,false,false,false,false] rfl (by kernel_rfl) (by kernel_rfl) (by kernel_rfl) rfl (by kernel_rfl) (fun _ _ _ h=>h) (Or.inl ⟨by rfl,?ys2x2⟩) (by assumption) ?rs2x2
      case ys2x2=>(intro w' hSw; (try dsimp only at hSw); have x0:=(hSw.cell (by show b9 < wr.heap.size; exact hbl)).trans c0; have x1:=(hSw.cell (by show b9 < wr.heap.size; exact hbl)).trans c1; have x2:=(hSw.cell (by show b9 < wr.heap.size; exact hbl)).trans c2; have xf:=(hSw.cell (by show w.heap.size < wr.heap.size; exact hw0)).trans f4; have xg:=(hSw.cell (by show w.heap.size < wr.heap.size; exact hw0)).trans f5; go_simp; try with_reducible rfl)
      simp only [Act.put,sT,sS,sZ]
      refine takeH (i:=3) (oi:=_) (v:=?vs2x3) 14 #[true,true,true,true,false,false,false,false,false,false,false,false,false,false,false,false,false,false,false,false,false,false,false] rfl (by kernel_rfl) (by kernel_rfl) (by kernel_rfl) rfl (by kernel_rfl) (fun _ _ _ h=>h) (Or.inl ⟨by rfl,?ys2x3⟩) (by assumption) ?rs2x3
      case ys2x3=>(intro w' hSw; (try dsimp only at hSw); have x0:=(hSw.cell (by show b9 < wr.heap.size; exact hbl)).trans c0; have x1:=(hSw.cell (by show b9 < wr.heap.size; exact hbl)).trans c1; have x2:=(hSw.cell (by show b9 < wr.heap.size; exact hbl)).trans c2; have xf:=(hSw.cell (by show w.heap.size < wr.heap.size; exact hw0)).trans f4; have xg:=(hSw.cell (by show w.heap.size < wr.heap.size; exact hw0)).trans f5; go_simp; try with_reducible rfl)
      simp only [Act.put,sT,sS,sZ]
      refine takeH (i:=4) (oi:=_) (v:=?vs2x4) 15 #[true,true,true,true,true,false,false,false,false,false,false,false,false,false,false,false,false,false,false,false,false,false,false] rfl (by kernel_rfl) (by kernel_rfl) (by kernel_rfl) rfl (by kernel_rfl) (fun _ _ _ h=>h) (Or.inl ⟨by rfl,?ys2x4⟩) (by assumption) ?rs2x4
      case ys2x4=>(intro w' hSw; (try dsimp only at hSw); have x0:=(hSw.cell (by show b9 < wr.heap.size; exact hbl)).trans c0; have x1:=(hSw.cell (by show b9 < wr.heap.size; exact hbl)).trans c1; have x2:=(hSw.cell (by show b9 < wr.heap.size; exact hbl)).trans c2; have xf:=(hSw.cell (by show w.heap.size < wr.heap.size; exact hw0)).trans f4; have xg:=(hSw.cell (by show w.heap.size < wr.heap.size; exact hw0)).trans f5; go_simp; try with_reducible rfl)
      simp only [Act.put,sT,sS,sZ]
      refine takeH (i:=5) (oi:=_) (v:=?vs2x5) 16 #[true,true,true,true,true,true,false,false,false,false,false,false,false,false,false,false,false,false,false,false,false,false,false] rfl (by kernel_rfl) (by kernel_rfl) (by kernel_rfl) rfl (by kernel_rfl) (fun _ _ _ h=>h) (Or.inl ⟨by rfl,?ys2x5⟩) (by assumption) ?rs2x5
      case ys2x5=>(intro w' hSw; (try dsimp only at hSw); have x0:=(hSw.cell (by show b9 < wr.heap.size; exact hbl)).trans c0; have x1:=(hSw.cell (by show b9 < wr.heap.size; exact hbl)).trans c1; have x2:=(hSw.cell (by show b9 < wr.heap.size; exact hbl)).trans c2; have xf:=(hSw.cell (by show w.heap.size < wr.heap.size; exact hw0)).trans f4; have xg:=(hSw.cell (by show w.heap.size < wr.heap.size; exact hw0)).trans f5; go_simp; try with_reducible rfl)
      simp only [Act.put,sT,sS,sZ]
      refine takeH (i:=6) (oi:=_) (v:=?vs2x6) 17 #[true,true,true,true,true,true,true,false,false,false,false,false,false,false,false,false,false,false,false,false,false,false,false] rfl (by kernel_rfl) (by kernel_rfl) (by kernel_rfl) rfl (by kernel_rfl) (fun _ _ _ h=>h) (Or.inl ⟨by rfl,?ys2x6⟩) (by assumption) ?rs2x6
      case ys2x6=>(intro w' hSw; (try dsimp only at hSw); have x0:=(hSw.cell (by show b9 < wr.heap.size; exact hbl)).trans c0; have x1:=(hSw.cell (by show b9 < wr.heap.size; exact hbl)).trans c1; have x2:=(hSw.cell (by show b9 < wr.heap.size; exact hbl)).trans c2; have xf:=(hSw.cell (by show w.heap.size < wr.heap.size; exact hw0)).trans f4; have xg:=(hSw.cell (by show w.heap.size < wr.heap.size; exact hw0)).trans f5; go_simp; try with_reducible rfl)
      simp only [Act.put,sT,sS,sZ]
      refine takeH (i:=7) (oi:=_) (v:=?vs2x7) 18 #[true,true,true,true,true,true,true,true,false,false,false,false,false,false,false,false,false,false,false,false,false,false,false] rfl (by kernel_rfl) (by kernel_rfl) (by kernel_rfl) rfl (by kernel_rfl) (fun _ _ _ h=>h) (Or.inl ⟨by rfl,?ys2x7⟩) (by assumption) ?rs2x7
      case ys2x7=>(intro w' hSw; (try dsimp only at hSw); have x0:=(hSw.cell (by show b9 < wr.heap.size; exact hbl)).trans c0; have x1:=(hSw.cell (by show b9 < wr.heap.size; exact hbl)).trans c1; have x2:=(hSw.cell (by show b9 < wr.heap.size; exact hbl)).trans c2; have xf:=(hSw.cell (by show w.heap.size < wr.heap.size; exact hw0)).trans f4; have xg:=(hSw.cell (by show w.heap.size < wr.heap.size; exact hw0)).trans f5; go_simp; try with_reducible rfl)
      simp only [Act.put,sT,sS,sZ]
      refine takeH (i:=8) (oi:=_) (v:=?vs2x8) 19 #[true,true,true,true,true,true,true,true,true,false,false,false,false,false,false,false,false,false,false,false,false,false,false] rfl (by kernel_rfl) (by kernel_rfl) (by kernel_rfl) rfl (by kernel_rfl) (fun _ _ _ h=>h) (Or.inl ⟨by rfl,?ys2x8⟩) (by assumption) ?rs2x8
      case ys2x8=>(intro w' hSw; (try dsimp only at hSw); have x0:=(hSw.cell (by show b9 < wr.heap.size; exact hbl)).trans c0; have x1:=(hSw.cell (by show b9 < wr.heap.size; exact hbl)).trans c1; have x2:=(hSw.cell (by show b9 < wr.heap.size; exact hbl)).trans c2; have xf:=(hSw.cell (by show w.heap.size < wr.heap.size; exact hw0)).trans f4; have xg:=(hSw.cell (by show w.heap.size < wr.heap.size; exact hw0)).trans f5; go_simp; try with_reducible rfl)
      simp only [Act.put,sT,sS,sZ]
      refine takeH (i:=9) (oi:=_) (v:=?vs2x9) 20 #[true,true,true,true,true,true,true,true,true,true,false,false,false,false,false,false,false,false,false,false,false,false,false] rfl (by kernel_rfl) (by kernel_rfl) (by kernel_rfl) rfl (by kernel_rfl) (fun _ _ _ h=>h) (Or.inl ⟨by rfl,?ys2x9⟩) (by assumption) ?rs2x9
      case ys2x9=>(intro w' hSw; (try dsimp only at hSw); have x0:=(hSw.cell (by show b9 < wr.heap.size; exact hbl)).trans c0; have x1:=(hSw.cell (by show b9 < wr.heap.size; exact hbl)).trans c1; have x2:=(hSw.cell (by show b9 < wr.heap.size; exact hbl)).trans c2; have xf:=(hSw.cell (by show w.heap.size < wr.heap.size; exact hw0)).trans f4; have xg:=(hSw.cell (by show w.heap.size < wr.heap.size; exact hw0)).trans f5; go_simp; try with_reducible rfl)
      simp only [Act.put,sT,sS,sZ]
      refine takeH (i:=10) (oi:=_) (v:=?vs2x10) 21 #[true,true,true,true,true,true,true,true,true,true,true,false,false,false,false,false,false,false,false,false,false,false,false] rfl (by kernel_rfl) (by kernel_rfl) (by kernel_rfl) rfl (by kernel_rfl) (fun _ _ _ h=>h) (Or.inl ⟨by rfl,?ys2x10⟩) (by assumption) ?rs2x10
      case ys2x10=>(intro w' hSw; (try dsimp only at hSw); have x0:=(hSw.cell (by show b9 < wr.heap.size; exact hbl)).trans c0; have x1:=(hSw.cell (by show b9 < wr.heap.size; exact hbl)).trans c1; have x2:=(hSw.cell (by show b9 < wr.heap.size; exact hbl)).trans c2; have xf:=(hSw.cell (by show w.heap.size < wr.heap.size; exact hw0)).trans f4; have xg:=(hSw.cell (by show w.heap.size < wr.heap.size; exact hw0)).trans f5; go_simp; try with_reducible rfl)
      simp only [Act.put,sT,sS,sZ]
      refine takeH (i:=11) (oi:=_) (v:=?vs2x11) 22 #[true,true,true,true,true,true,true,true,true,true,true,true,false,false,false,false,false,false,false,false,false,false,false] rfl (by kernel_rfl) (by kernel_rfl) (by kernel_rfl) rfl (by kernel_rfl) (fun _ _ _ h=>h) (Or.inl ⟨by rfl,?ys2x11⟩) (by assumption) ?rs2x11
      case ys2x11=>(intro w' hSw; (try dsimp only at hSw); have x0:=(hSw.cell (by show b9 < wr.heap.size; exact hbl)).trans c0; have x1:=(hSw.cell (by show b9 < wr.heap.size; exact hbl)).trans c1; have x2:=(hSw.cell (by show b9 < wr.heap.size; exact hbl)).trans c2; have xf:=(hSw.cell (by show w.heap.size < wr.heap.size; exact hw0)).trans f4; have xg:=(hSw.cell (by show w.heap.size < wr.heap.size; exact hw0)).trans f5; go_simp; try with_reducible rfl)
      simp only [Act.put,sT,sS,sZ]
      refine takeH (i:=12) (oi:=_) (v:=?vs2x12) 23 #[true,true,true,true,true,true,true,true,true,true,true,true,true,false,false,false,false,false,false,false,false,false,false] rfl (by kernel_rfl) (by kernel_rfl) (by kernel_rfl) rfl (by kernel_rfl) (fun _ _ _ h=>h) (Or.inl ⟨by rfl,?ys2x12⟩) (by assumption) ?rs2x12
      case ys2x12=>(intro w' hSw; (try dsimp only at hSw); have x0:=(hSw.cell (by show b9 < wr.heap.size; exact hbl)).trans c0; have x1:=(hSw.cell (by show b9 < wr.heap.size; exact hbl)).trans c1; have x2:=(hSw.cell (by show b9 < wr.heap.size; exact hbl)).trans c2; have xf:=(hSw.cell (by show w.heap.size < wr.heap.size; exact hw0)).trans f4; have xg:=(hSw.cell (by show w.heap.size < wr.heap.size; exact hw0)).trans f5; go_simp; try with_reducible rfl)
      simp only [Act.put,sT,sS,sZ]
      refine takeH (i:=13) (oi:=_) (v:=?vs2x13) 24 #[true,true,true,true,true,true,true,true,true,true,true,true,true,true,false,false,false,false,false,false,false,false,false] rfl (by kernel_rfl) (by kernel_rfl) (by kernel_rfl) rfl (by kernel_rfl) (fun _ _ _ h=>h) (Or.inl ⟨by rfl,?ys2x13⟩) (by assumption) ?rs2x13
      case ys2x13=>(intro w' hSw; (try dsimp only at hSw); have x0:=(hSw.cell (by show b9 < wr.heap.size; exact hbl)).trans c0; have x1:=(hSw.cell (by show b9 < wr.heap.size; exact hbl)).trans c1; have x2:=(hSw.cell (by show b9 < wr.heap.size; exact hbl)).trans c2; have xf:=(hSw.cell (by show w.heap.size < wr.heap.size; exact hw0)).trans f4; have xg:=(hSw.cell (by show w.heap.size < wr.heap.size; exact hw0)).trans f5; go_simp; try with_reducible rfl)
      simp only [Act.put,sT,sS,sZ]
      refine takeH (i:=15) (oi:=_) (v:=?vs2x15) 26 #[true,true,true,true,true,true,true,true,true,true,true,true,true,true,false,true,false,false,false,false,false,false,false] rfl (by kernel_rfl) (by kernel_rfl) (by kernel_rfl) rfl (by kernel_rfl) (fun _ _ _ h=>h) (Or.inl ⟨by rfl,?ys2x15⟩) (by assumption) ?rs2x15
      case ys2x15=>(intro w' hSw; (try dsimp only at hSw); have x0:=(hSw.cell (by show b9 < wr.heap.size; exact hbl)).trans c0; have x1:=(hSw.cell (by show b9 < wr.heap.size; exact hbl)).trans c1; have x2:=(hSw.cell (by show b9 < wr.heap.size; exact hbl)).trans c2; have xf:=(hSw.cell (by show w.heap.size < wr.heap.size; exact hw0)).trans f4; have xg:=(hSw.cell (by show w.heap.size < wr.heap.size; exact hw0)).trans f5; go_simp; try with_reducible rfl)
      simp only [Act.put,sT,sS,sZ]
      refine takeH (i:=16) (oi:=_) (v:=?vs2x16) 27 #[true,true,true,true,true,true,true,true,true,true,true,true,true,true,false,true,true,false,false,false,false,false,false] rfl (by kernel_rfl) (by kernel_rfl) (by kernel_rfl) rfl (by kernel_rfl) (fun _ _ _ h=>h) (Or.inl ⟨by rfl,?ys2x16⟩) (by assumption) ?rs2x16
      case ys2x16=>(intro w' hSw; (try dsimp only at hSw); have x0:=(hSw.cell (by show b9 < wr.heap.size; exact hbl)).trans c0; have x1:=(hSw.cell (by show b9 < wr.heap.size; exact hbl)).trans c1; have x2:=(hSw.cell (by show b9 < wr.heap.size; exact hbl)).trans c2; have xf:=(hSw.cell (by show w.heap.size < wr.heap.size; exact hw0)).trans f4; have xg:=(hSw.cell (by show w.heap.size < wr.heap.size; exact hw0)).trans f5; go_simp; try with_reducible rfl)
      simp only [Act.put,sT,sS,sZ]
      refine takeH (i:=17) (oi:=_) (v:=?vs2x17) 28 #[true,true,true,true,true,true,true,true,true,true,true,true,true,true,false,true,true,true,false,false,false,false,false] rfl (by kernel_rfl) (by kernel_rfl) (by kernel_rfl) rfl (by kernel_rfl) (fun _ _ _ h=>h) (Or.inl ⟨by rfl,?ys2x17⟩) (by assumption) ?rs2x17
      case ys2x17=>(intro w' hSw; (try dsimp only at hSw); have x0:=(hSw.cell (by show b9 < wr.heap.size; exact hbl)).trans c0; have x1:=(hSw.cell (by show b9 < wr.heap.size; exact hbl)).trans c1; have x2:=(hSw.cell (by show b9 < wr.heap.size; exact hbl)).trans c2; have xf:=(hSw.cell (by show w.heap.size < wr.heap.size; exact hw0)).trans f4; have xg:=(hSw.cell (by show w.heap.size < wr.heap.size; exact hw0)).trans f5; go_simp; try with_reducible rfl)
      simp only [Act.put,sT,sS,sZ]
      refine takeH (i:=18) (oi:=_) (v:=?vs2x18) 29 #[true,true,true,true,true,true,true,true,true,true,true,true,true,true,false,true,true,true,true,false,false,false,false] rfl (by kernel_rfl) (by kernel_rfl) (by kernel_rfl) rfl (by kernel_rfl) (fun _ _ _ h=>h) (Or.inl ⟨by rfl,?ys2x18⟩) (by assumption) ?rs2x18
      case ys2x18=>(intro w' hSw; (try dsimp only at hSw); have x0:=(hSw.cell (by show b9 < wr.heap.size; exact hbl)).trans c0; have x1:=(hSw.cell (by show b9 < wr.heap.size; exact hbl)).trans c1; have x2:=(hSw.cell (by show b9 < wr.heap.size; exact hbl)).trans c2; have xf:=(hSw.cell (by show w.heap.size < wr.heap.size; exact hw0)).trans f4; have xg:=(hSw.cell (by show w.heap.size < wr.heap.size; exact hw0)).trans f5; go_simp; try with_reducible rfl)
      simp only [Act.put,sT,sS,sZ]
      refine takeH (i:=19) (oi:=_) (v:=?vs2x19) 30 #[true,true,true,true,true,true,true,true,true,true,true,true,true,true,false,true,true,true,true,true,false,false,false] rfl (by kernel_rfl) (by kernel_rfl) (by kernel_rfl) rfl (by kernel_rfl) (fun _ _ _ h=>h) (Or.inl ⟨by rfl,?ys2x19⟩) (by assumption) ?rs2x19
      case ys2x19=>(intro w' hSw; (try dsimp only at hSw); have x0:=(hSw.cell (by show b9 < wr.heap.size; exact hbl)).trans c0; have x1:=(hSw.cell (by show b9 < wr.heap.size; exact hbl)).trans c1; have x2:=(hSw.cell (by show b9 < wr.heap.size; exact hbl)).trans c2; have xf:=(hSw.cell (by show w.heap.size < wr.heap.size; exact hw0)).trans f4; have xg:=(hSw.cell (by show w.heap.size < wr.heap.size; exact hw0)).trans f5; go_simp; try with_reducible rfl)
      simp only [Act.put,sT,sS,sZ]
      refine takeH (i:=20) (oi:=_) (v:=?vs2x20) 31 #[true,true,true,true,true,true,true,true,true,true,true,true,true,true,false,true,true,true,true,true,true,false,false] rfl (by kernel_rfl) (by kernel_rfl) (by kernel_rfl) rfl (by kernel_rfl) (fun _ _ _ h=>h) (Or.inl ⟨by rfl,?ys2x20⟩) (by assumption) ?rs2x20
      case ys2x20=>(intro w' hSw; (try dsimp only at hSw); have x0:=(hSw.cell (by show b9 < wr.heap.size; exact hbl)).trans c0; have x1:=(hSw.cell (by show b9 < wr.heap.size; exact hbl)).trans c1; have x2:=(hSw.cell (by show b9 < wr.heap.size; exact hbl)).trans c2; have xf:=(hSw.cell (by show w.heap.size < wr.heap.size; exact hw0)).trans f4; have xg:=(hSw.cell (by show w.heap.size < wr.heap.size; exact hw0)).trans f5; go_simp; try with_reducible rfl)
      simp only [Act.put,sT,sS,sZ]
      refine takeH (i:=21) (oi:=_) (v:=?vs2x21) 32 #[true,true,true,true,true,true,true,true,true,true,true,true,true,true,false,true,true,true,true,true,true,true,false] rfl (by kernel_rfl) (by kernel_rfl) (by kernel_rfl) rfl (by kernel_rfl) (fun _ _ _ h=>h) (Or.inl ⟨by rfl,?ys2x21⟩) (by assumption) ?rs2x21
      case ys2x21=>(intro w' hSw; (try dsimp only at hSw); have x0:=(hSw.cell (by show b9 < wr.heap.size; exact hbl)).trans c0; have x1:=(hSw.cell (by show b9 < wr.heap.size; exact hbl)).trans c1; have x2:=(hSw.cell (by show b9 < wr.heap.size; exact hbl)).trans c2; have xf:=(hSw.cell (by show w.heap.size < wr.heap.size; exact hw0)).trans f4; have xg:=(hSw.cell (by show w.heap.size < wr.heap.size; exact hw0)).trans f5; go_simp; try with_reducible rfl)
      simp only [Act.put,sT,sS,sZ]
      refine wpAnyH_ready (rs:=[14]) (by kernel_rfl) (by simp) ?_
      refine AllReadyH.cons (o:=_) rfl (fun K hK=>?_) AllReadyH.nil
      go_simp
      refine (specToldHas _ _ _ x.past y.who y.seq L U _ (by simp; omega) (HP.out.below eltLog (hbw.trans ((Below.refl _ _).drew.mono hbw.size)) hU)).mono ?_
      rintro e w9 ⟨rfl,hb9⟩
      have hb1 : Below wr.heap.size wr w9:=(Below.refl _ _).drew.trans (hb9.mono (Nat.le_refl _))
      go_wp2_with fail
      refine hK.out _ _ ?_ (fun hHeld=>?_)
      · exact hb1
      clear hK K
      try simp only [Act.put]
      refine listH (l2:=#[true,true,true,true,true,true,true,true,true,true,true,true,true,true,true,true,true,true,true,true,true,true,false]) (by kernel_rfl) ?_
      refine takeH (i:=22) (oi:=_) (v:=?vs2x22) 33 #[true,true,true,true,true,true,true,true,true,true,true,true,true,true,true,true,true,true,true,true,true,true,true] rfl (by kernel_rfl) (by kernel_rfl) (by kernel_rfl) rfl (by kernel_rfl) (fun _ _ _ h=>h) (Or.inl ⟨by rfl,?ys2x22⟩) (by assumption) ?rs2x22
      case ys2x22=>(intro w' hSw; (try dsimp only at hSw); have x0:=(hSw.cell (by show b9 < wr.heap.size; exact hbl)).trans c0; have x1:=(hSw.cell (by show b9 < wr.heap.size; exact hbl)).trans c1; have x2:=(hSw.cell (by show b9 < wr.heap.size; exact hbl)).trans c2; have xf:=(hSw.cell (by show w.heap.size < wr.heap.size; exact hw0)).trans f4; have xg:=(hSw.cell (by show w.heap.size < wr.heap.size; exact hw0)).trans f5; go_simp; try with_reducible rfl)
      simp only [Act.put,sT,sS,sZ]
      refine wpAnyH_done (by kernel_rfl) ?_ _
      have hbb : Below W0.heap.size W0 w9:=hb.trans (hb1.mono hs1)
      rcases hx : trueB x.past y with _ | _
      · have hne : (!(hasLog x.past y.who y.seq == (y.code == 0))) = true:=by unfold trueB at hx; rw [hx]; rfl
        have HY : Hid (toldTrue x = false):=by show _ = _; unfold toldTrue; rw [HQ.out,hx]; rfl
        clear HQ hx
        go_wp2_with fail
        all_goals first | (rename_i hh; rw [hne] at hh; exact absurd hh (by decide)) | skip
        go_ret
        exact ⟨ret_bool HY.out.symm,hA.trans (hbb.mono hAs)⟩
      · have hne : (!(hasLog x.past y.who y.seq == (y.code == 0))) = false:=by unfold trueB at hx; rw [hx]; rfl
        have HY : Hid (x.told.all (trueB x.past) = (x.told.drop (j + 1)).all (trueB x.past)):=by show _ = _; rw [HQ.out,hx]; rfl
        clear HQ hx
        go_wp2_with fail
        all_goals first | (rename_i hh; rw [hne] at hh; exact absurd hh (by decide)) | skip
        go_roundg (n5 - (j + 1))
        case measure=>have:=hk.out; omega
        case rel=>exact ⟨j + 1,by omega,rfl,by go_num,HY.out,hbb⟩
    · have HN : Hid (toldTrue x = worldOk x):=by
        show _ = _
        unfold toldTrue
        rw [hq.out,List.drop_of_length_le (by have:=HTL.out; omega)]; rfl
      have HH2:=hidMk (HH.out.below hbw hU)
      clear hq HBr
      go_wp2_with fail
      refine (specWorldOk _ _ _ _ _ _ _ _ _ _ _ _ _ _ _ _ _ _ x L U _ hs (by have:=hbw.size; omega) HH2.out).mono ?_
      rintro e w2 ⟨rfl,hb2⟩
      go_wp2_with fail
      go_ret
      exact ⟨ret_bool HN.out.symm,hbw.trans (hb2.mono hbw.size)⟩
end
section
open Go.RowKit Go.ChangeShapes Go.WideShapes Go.ChangeAt
theorem laid_errs {P : Program} {nm : String} {W : World} {ti tp te ts : TypeId} {ms : Array (String × TypeId)} {f : Field}
    (hi : P.underlying ti = some (.interface ms)) (hrow : ∀ u,P.typeName? 3 u = some nm → u = tp)
    (hp : P.underlying tp = some (.pointer te)) (he : P.underlying te = some (.struct #[f])) (hft : f.type = ts) (hfo : f.offset = 0) (hs : P.underlying ts = some .string) (hc : P.cellsOf te = 1) (hcs : P.cellsOf ts = 1) :
    ∀ (l : List (String × List UInt8)) (ps : List MemPlace),DataW.LaidVars P W (l.map fun x=>(x.1,DataW.iface nm (.ptr (.agg [.lit (.string x.2)])))) ps → ps.Nodup →
      (∀ b off,MemPlace.cell b off ∈ ps → (∃ c t,W.heap[b]? = some (.cells c t (0,0))) ∧ ∀ u v,W.cell? ⟨b,off,none⟩ = some (.iface u v) → Value.okWide P W .any 0 u v) →
      (∀ x ∈ l,∃ g,P.globalNamed x.1 = some g ∧ (P.globals[g]?).map (·.type) = some ti) →
      ∃ ad : List Addr,ad.length = l.length ∧ ad.Nodup ∧ (∀ a ∈ ad,MemPlace.cell a.block a.off ∈ ps) ∧ ∀ (i : Nat) x a,l[i]? = some x → ad[i]? = some a → W.var? P x.1 = some #[.iface tp (.pointer (some a))] ∧ ∃ c t,W.heap[a.block]? = some (.cells c t (0,0))
  | [],ps,_,_,_,_=>⟨[],rfl,List.nodup_nil,(fun a h=>by simp at h),(fun i x a h=>by simp at h)⟩
  | x :: l,ps,hv,hnd,hrows,hg=>by
    obtain ⟨g0,t0,cs0,f0,p0,q0,hg0,ht0,hv0,hd0,hrest,e0⟩:=hv
    obtain ⟨g,hg1,hg2⟩:=hg x (by simp)
    obtain rfl:=Option.some.inj (hg1.symm.trans hg0)
    obtain rfl:=Option.some.inj (hg2.symm.trans ht0)
    subst e0
    obtain ⟨l0⟩:=cs0
    have ok0 : ∀ u v,l0 = [.iface u v] → Value.okWide P W .any 0 u v:=fun u v e=>by
      subst e
      exact (hrows g 0 (by simp [MemPlace.row])).2 u v (by simpa using World.var?_cell hg0 hv0 0)
    obtain ⟨a0,s0,rfl,hc0,hs0,hz0,rfl⟩:=errorString_of_trod hi hrow hp he hft hfo hs hc hcs hd0 ok0
    obtain ⟨ad,h1,h2,h3,h4⟩:=laid_errs hi hrow hp he hft hfo hs hc hcs l q0 hrest (List.Nodup.sublist (List.sublist_append_right _ _) hnd) (fun b off hm=>hrows b off (List.mem_append_right _ hm)) (fun y hy=>hg y (by simp [hy]))
    have hrow0 : MemPlace.row a0 1 = [MemPlace.cell a0.block a0.off]:=by simp [MemPlace.row]
    refine ⟨a0 :: ad,by simp [h1],?_,?_,?_⟩
    · refine List.nodup_cons.2 ⟨fun hm=>?_,h2⟩
      have h5:=h3 a0 hm
      rw [hrow0] at hnd
      have h6:=(List.nodup_append.1 hnd).2.2 (MemPlace.cell a0.block a0.off) (by simp) _ h5
      exact h6 rfl
    · intro a ha
      rcases List.mem_cons.1 ha with rfl | ha
      · rw [hrow0]; simp
      · exact List.mem_append_right _ (h3 a ha)
    · intro i y a hy ha
      cases i with
      | zero =>
        simp at hy ha
        subst hy ha
        exact ⟨hv0,(hrows a0.block a0.off (by rw [hrow0]; simp)).1⟩
      | succ i=>exact h4 i y a (by simpa using hy) (by simpa using ha)
theorem row323 (u : TypeId) (h : Tryz.prog.typeName? 3 u = some "*errors.errorString") : u = 323 :=
  typeName_ptr_named (nm := "errors.errorString") (by rw [show "*" ++ "errors.errorString" = "*errors.errorString" by decide]; kernel_rfl) (by kernel_rfl) (by decide) u (by rw [show "*" ++ "errors.errorString" = "*errors.errorString" by decide]; exact h)
theorem gn0 : Tryz.prog.globalNamed "loop.example/shieling/impl.errForm" = some 0 := by kernel_rfl
theorem gt0 : (Tryz.prog.globals[0]?).map (·.type) = some 95:=by kernel_rfl
theorem gn1 : Tryz.prog.globalNamed "loop.example/shieling/impl.errDirs" = some 1 := by kernel_rfl
theorem gt1 : (Tryz.prog.globals[1]?).map (·.type) = some 95:=by kernel_rfl
theorem gn2 : Tryz.prog.globalNamed "loop.example/shieling/impl.errNone" = some 2 := by kernel_rfl
theorem gt2 : (Tryz.prog.globals[2]?).map (·.type) = some 95:=by kernel_rfl
theorem gn3 : Tryz.prog.globalNamed "loop.example/shieling/impl.errThere" = some 3 := by kernel_rfl
theorem gt3 : (Tryz.prog.globals[3]?).map (·.type) = some 95:=by kernel_rfl
theorem gn4 : Tryz.prog.globalNamed "loop.example/shieling/impl.errFull" = some 4 := by kernel_rfl
theorem gt4 : (Tryz.prog.globals[4]?).map (·.type) = some 95:=by kernel_rfl
theorem gn5 : Tryz.prog.globalNamed "loop.example/shieling/impl.errRing" = some 5 := by kernel_rfl
theorem gt5 : (Tryz.prog.globals[5]?).map (·.type) = some 95:=by kernel_rfl
theorem gn6 : Tryz.prog.globalNamed "loop.example/shieling/impl.errKind" = some 6 := by kernel_rfl
theorem gt6 : (Tryz.prog.globals[6]?).map (·.type) = some 95:=by kernel_rfl
theorem gn7 : Tryz.prog.globalNamed "loop.example/shieling/impl.errUsed" = some 7 := by kernel_rfl
theorem gt7 : (Tryz.prog.globals[7]?).map (·.type) = some 95:=by kernel_rfl
theorem u97 : ∃ ms,Tryz.prog.underlying 95 = some (.interface ms):=⟨_,Tryz.underlying95⟩
def texts8 : List (List UInt8):=[[116,104,105,115,32,105,115,32,110,111,32,100,105,114,101,99,116,111,114,121],[116,104,101,32,110,97,109,101,32,100,111,101,115,32,110,111,116,32,110,97,109,101,32,105,116,32,116,104,101,114,101],[116,104,101,32,110,97,109,101,32,110,97,109,101,115,32,115,111,109,101,116,104,105,110,103,32,116,104,101,114,101,32,97,108,114,101,97,100,121],[105,116,32,104,97,115,32,110,97,109,101,115],[105,116,32,119,111,117,108,100,32,98,101,32,117,110,100,101,114,32,105,116,115,101,108,102],[116,104,105,115,32,105,115,32,110,111,32,102,105,108,101],[116,104,101,32,110,117,109,98,101,114,32,105,115,32,111,114,32,119,97,115,32,115,111,109,101,98,111,100,121,39,115],[116,104,105,115,32,99,97,110,32,110,111,116,32,98,101,32,100,111,110,101,32,111,102,32,97,110,121,32,116,114,101,101,44,32,111,114,32,119,97,115,32,116,117,114,110,101,100,32,116,111,111,32,111,102,116,101,110]]
def names8 : List String := ["loop.example/shieling/impl.errDirs", "loop.example/shieling/impl.errNone", "loop.example/shieling/impl.errThere", "loop.example/shieling/impl.errFull", "loop.example/shieling/impl.errRing", "loop.example/shieling/impl.errKind", "loop.example/shieling/impl.errUsed", "loop.example/shieling/impl.errForm"]
def laid8 : List (String × DataW Unit) := (names8.zip texts8).map fun x => (x.1, DataW.iface "*errors.errorString" (.ptr (.agg [.lit (.string x.2)])))
theorem block_lt_of_row {W : World} {b : Nat} {o : Obj} (h : W.heap[b]? = some o) : b < W.heap.size:=(Array.getElem?_eq_some_iff.1 h).1
theorem sents_laid {W : World} (h : laidMet Tryz.prog laid8 W) : ∃ a : Nat → Addr, Sents W W.heap.size a ∧ W.var? Tryz.prog "loop.example/shieling/impl.errForm" = some #[.iface 323 (.pointer (some (a 0)))] ∧ W.var? Tryz.prog "loop.example/shieling/impl.errDirs" = some #[.iface 323 (.pointer (some (a 1)))] ∧ W.var? Tryz.prog "loop.example/shieling/impl.errNone" = some #[.iface 323 (.pointer (some (a 2)))] ∧ W.var? Tryz.prog "loop.example/shieling/impl.errThere" = some #[.iface 323 (.pointer (some (a 3)))] ∧ W.var? Tryz.prog "loop.example/shieling/impl.errFull" = some #[.iface 323 (.pointer (some (a 4)))] ∧ W.var? Tryz.prog "loop.example/shieling/impl.errRing" = some #[.iface 323 (.pointer (some (a 5)))] ∧ W.var? Tryz.prog "loop.example/shieling/impl.errKind" = some #[.iface 323 (.pointer (some (a 6)))] ∧ W.var? Tryz.prog "loop.example/shieling/impl.errUsed" = some #[.iface 323 (.pointer (some (a 7)))] := by
  obtain ⟨ps,hv,hnd,hrows⟩:=h
  obtain ⟨ms,hms⟩:=u97
  have hg : ∀ x ∈ names8.zip texts8,∃ g,Tryz.prog.globalNamed x.1 = some g ∧ (Tryz.prog.globals[g]?).map (·.type) = some 95:=by
    intro x hx
    simp only [names8,texts8,List.zip_cons_cons,List.zip_nil_right,List.mem_cons,List.not_mem_nil,or_false] at hx
    rcases hx with rfl | rfl | rfl | rfl | rfl | rfl | rfl | rfl
    · exact ⟨_,gn1,gt1⟩
    · exact ⟨_,gn2,gt2⟩
    · exact ⟨_,gn3,gt3⟩
    · exact ⟨_,gn4,gt4⟩
    · exact ⟨_,gn5,gt5⟩
    · exact ⟨_,gn6,gt6⟩
    · exact ⟨_,gn7,gt7⟩
    · exact ⟨_,gn0,gt0⟩
  obtain ⟨ad,h1,h2,-,h4⟩:=laid_errs hms row323 Tryz.underlying323 Tryz.underlying365 rfl rfl Tryz.underlying9 (by kernel_rfl) (by kernel_rfl) (names8.zip texts8) ps hv hnd hrows hg
  have hlen : ad.length = 8:=by rw [h1]; rfl
  match ad,hlen with
  | [a1,a2,a3,a4,a5,a6,a7,a0],_ =>
    have k1:=h4 0 _ a1 rfl rfl
    have k2:=h4 1 _ a2 rfl rfl
    have k3:=h4 2 _ a3 rfl rfl
    have k4:=h4 3 _ a4 rfl rfl
    have k5:=h4 4 _ a5 rfl rfl
    have k6:=h4 5 _ a6 rfl rfl
    have k7:=h4 6 _ a7 rfl rfl
    have k0:=h4 7 _ a0 rfl rfl
    clear h4 hv hnd hrows hg h1
    dsimp only at k0 k1 k2 k3 k4 k5 k6 k7
    refine ⟨fun | 0=>a0 | 1=>a1 | 2=>a2 | 3=>a3 | 4=>a4 | 5=>a5 | 6=>a6 | _=>a7,⟨?_,?_,?_,?_⟩,k0.1,k1.1,k2.1,k3.1,k4.1,k5.1,k6.1,k7.1⟩
    · intro i hi
      match i,hi with
      | 0,_=>exact by simpa using World.var?_cell gn0 k0.1 0
      | 1,_=>exact by simpa using World.var?_cell gn1 k1.1 0
      | 2,_=>exact by simpa using World.var?_cell gn2 k2.1 0
      | 3,_=>exact by simpa using World.var?_cell gn3 k3.1 0
      | 4,_=>exact by simpa using World.var?_cell gn4 k4.1 0
      | 5,_=>exact by simpa using World.var?_cell gn5 k5.1 0
      | 6,_=>exact by simpa using World.var?_cell gn6 k6.1 0
      | 7,_=>exact by simpa using World.var?_cell gn7 k7.1 0
    · intro i hi
      match i,hi with
      | 0,_=>exact k0.2
      | 1,_=>exact k1.2
      | 2,_=>exact k2.2
      | 3,_=>exact k3.2
      | 4,_=>exact k4.2
      | 5,_=>exact k5.2
      | 6,_=>exact k6.2
      | 7,_=>exact k7.2
    · intro i j hi hj hij
      have hnd:=h2
      simp only [List.nodup_cons,List.mem_cons,List.not_mem_nil,or_false,not_or] at hnd
      match i,hi,j,hj with
      | 0,_,0,_=>exact absurd rfl hij
      | 0,_,1,_=>intro e; simp_all
      | 0,_,2,_=>intro e; simp_all
      | 0,_,3,_=>intro e; simp_all
      | 0,_,4,_=>intro e; simp_all
      | 0,_,5,_=>intro e; simp_all
      | 0,_,6,_=>intro e; simp_all
      | 0,_,7,_=>intro e; simp_all
      | 1,_,0,_=>intro e; simp_all
      | 1,_,1,_=>exact absurd rfl hij
      | 1,_,2,_=>intro e; simp_all
      | 1,_,3,_=>intro e; simp_all
      | 1,_,4,_=>intro e; simp_all
      | 1,_,5,_=>intro e; simp_all
      | 1,_,6,_=>intro e; simp_all
      | 1,_,7,_=>intro e; simp_all
      | 2,_,0,_=>intro e; simp_all
      | 2,_,1,_=>intro e; simp_all
      | 2,_,2,_=>exact absurd rfl hij
      | 2,_,3,_=>intro e; simp_all
      | 2,_,4,_=>intro e; simp_all
      | 2,_,5,_=>intro e; simp_all
      | 2,_,6,_=>intro e; simp_all
      | 2,_,7,_=>intro e; simp_all
      | 3,_,0,_=>intro e; simp_all
      | 3,_,1,_=>intro e; simp_all
      | 3,_,2,_=>intro e; simp_all
      | 3,_,3,_=>exact absurd rfl hij
      | 3,_,4,_=>intro e; simp_all
      | 3,_,5,_=>intro e; simp_all
      | 3,_,6,_=>intro e; simp_all
      | 3,_,7,_=>intro e; simp_all
      | 4,_,0,_=>intro e; simp_all
      | 4,_,1,_=>intro e; simp_all
      | 4,_,2,_=>intro e; simp_all
      | 4,_,3,_=>intro e; simp_all
      | 4,_,4,_=>exact absurd rfl hij
      | 4,_,5,_=>intro e; simp_all
      | 4,_,6,_=>intro e; simp_all
      | 4,_,7,_=>intro e; simp_all
      | 5,_,0,_=>intro e; simp_all
      | 5,_,1,_=>intro e; simp_all
      | 5,_,2,_=>intro e; simp_all
      | 5,_,3,_=>intro e; simp_all
      | 5,_,4,_=>intro e; simp_all
      | 5,_,5,_=>exact absurd rfl hij
      | 5,_,6,_=>intro e; simp_all
      | 5,_,7,_=>intro e; simp_all
      | 6,_,0,_=>intro e; simp_all
      | 6,_,1,_=>intro e; simp_all
      | 6,_,2,_=>intro e; simp_all
      | 6,_,3,_=>intro e; simp_all
      | 6,_,4,_=>intro e; simp_all
      | 6,_,5,_=>intro e; simp_all
      | 6,_,6,_=>exact absurd rfl hij
      | 6,_,7,_=>intro e; simp_all
      | 7,_,0,_=>intro e; simp_all
      | 7,_,1,_=>intro e; simp_all
      | 7,_,2,_=>intro e; simp_all
      | 7,_,3,_=>intro e; simp_all
      | 7,_,4,_=>intro e; simp_all
      | 7,_,5,_=>intro e; simp_all
      | 7,_,6,_=>intro e; simp_all
      | 7,_,7,_=>exact absurd rfl hij
    · intro i hi
      match i,hi with
      | 0,_=>exact ⟨World.block_lt_of_cell? _ _ (by simpa using World.var?_cell gn0 k0.1 0),by obtain ⟨c,t,h⟩:=k0.2; exact block_lt_of_row h⟩
      | 1,_=>exact ⟨World.block_lt_of_cell? _ _ (by simpa using World.var?_cell gn1 k1.1 0),by obtain ⟨c,t,h⟩:=k1.2; exact block_lt_of_row h⟩
      | 2,_=>exact ⟨World.block_lt_of_cell? _ _ (by simpa using World.var?_cell gn2 k2.1 0),by obtain ⟨c,t,h⟩:=k2.2; exact block_lt_of_row h⟩
      | 3,_=>exact ⟨World.block_lt_of_cell? _ _ (by simpa using World.var?_cell gn3 k3.1 0),by obtain ⟨c,t,h⟩:=k3.2; exact block_lt_of_row h⟩
      | 4,_=>exact ⟨World.block_lt_of_cell? _ _ (by simpa using World.var?_cell gn4 k4.1 0),by obtain ⟨c,t,h⟩:=k4.2; exact block_lt_of_row h⟩
      | 5,_=>exact ⟨World.block_lt_of_cell? _ _ (by simpa using World.var?_cell gn5 k5.1 0),by obtain ⟨c,t,h⟩:=k5.2; exact block_lt_of_row h⟩
      | 6,_=>exact ⟨World.block_lt_of_cell? _ _ (by simpa using World.var?_cell gn6 k6.1 0),by obtain ⟨c,t,h⟩:=k6.2; exact block_lt_of_row h⟩
      | 7,_=>exact ⟨World.block_lt_of_cell? _ _ (by simpa using World.var?_cell gn7 k7.1 0),by obtain ⟨c,t,h⟩:=k7.2; exact block_lt_of_row h⟩
theorem var_below {W W' : World} {n : String} {cs : Array Value} (hb : Below W.heap.size W W') (h : W.var? Tryz.prog n = some cs) : W'.var? Tryz.prog n = some cs:=by
  unfold World.var? at h ⊢
  cases hg : Tryz.prog.globalNamed n with
  | none=>simp [hg] at h
  | some g =>
    simp only [hg,Option.bind_some] at h ⊢
    have hlt : g < W.heap.size:=by
      rcases Nat.lt_or_ge g W.heap.size with h' | h'
      · exact h'
      · simp [Array.getElem?_eq_none h'] at h
    rw [hb.block g hlt]
    exact h
theorem vars_readL {H : Type} (enc : TypeId × Value → H) {W : World} (sp : Nat → Bool) : ∀ (l : List (String × Nat × Value)),(∀ x ∈ l,Tryz.prog.globalNamed x.1 = some x.2.1 ∧ (Tryz.prog.globals[x.2.1]?).map (·.type) = some 95 ∧ W.var? Tryz.prog x.1 = some #[x.2.2] ∧ IsIface x.2.2) →
    DataW.TrodVars enc Tryz.prog W sp (l.map (·.1)) (l.map fun x=>tok enc x.2.2) (l.map fun x=>MemPlace.cell x.2.1 0)
  | [],_=>rfl
  | x :: l,h=>by
    obtain ⟨h1,h2,h3,h4⟩:=h x (by simp)
    exact ⟨x.2.1,95,#[x.2.2],1,[],_,h1,h2,h3,trod_held Tryz.underlying95 h4 0,vars_readL enc sp l fun y hy=>h y (by simp [hy]),by simp [MemPlace.row]⟩
theorem vars8 {H : Type} (enc : TypeId × Value → H) {W : World} (sp : Nat → Bool) (a : Nat → Addr) (h : W.var? Tryz.prog "loop.example/shieling/impl.errForm" = some #[.iface 323 (.pointer (some (a 0)))] ∧ W.var? Tryz.prog "loop.example/shieling/impl.errDirs" = some #[.iface 323 (.pointer (some (a 1)))] ∧ W.var? Tryz.prog "loop.example/shieling/impl.errNone" = some #[.iface 323 (.pointer (some (a 2)))] ∧ W.var? Tryz.prog "loop.example/shieling/impl.errThere" = some #[.iface 323 (.pointer (some (a 3)))] ∧ W.var? Tryz.prog "loop.example/shieling/impl.errFull" = some #[.iface 323 (.pointer (some (a 4)))] ∧ W.var? Tryz.prog "loop.example/shieling/impl.errRing" = some #[.iface 323 (.pointer (some (a 5)))] ∧ W.var? Tryz.prog "loop.example/shieling/impl.errKind" = some #[.iface 323 (.pointer (some (a 6)))] ∧ W.var? Tryz.prog "loop.example/shieling/impl.errUsed" = some #[.iface 323 (.pointer (some (a 7)))]) :
    DataW.TrodVars enc Tryz.prog W sp ["loop.example/shieling/impl.errForm", "loop.example/shieling/impl.errDirs", "loop.example/shieling/impl.errNone", "loop.example/shieling/impl.errThere", "loop.example/shieling/impl.errFull", "loop.example/shieling/impl.errRing", "loop.example/shieling/impl.errKind", "loop.example/shieling/impl.errUsed"] [tok enc (.iface 323 (.pointer (some (a 0)))), tok enc (.iface 323 (.pointer (some (a 1)))), tok enc (.iface 323 (.pointer (some (a 2)))), tok enc (.iface 323 (.pointer (some (a 3)))), tok enc (.iface 323 (.pointer (some (a 4)))), tok enc (.iface 323 (.pointer (some (a 5)))), tok enc (.iface 323 (.pointer (some (a 6)))), tok enc (.iface 323 (.pointer (some (a 7))))] [.cell 0 0, .cell 1 0, .cell 2 0, .cell 3 0, .cell 4 0, .cell 5 0, .cell 6 0, .cell 7 0] := by
  obtain ⟨h0,h1,h2,h3,h4,h5,h6,h7⟩:=h
  exact vars_readL enc sp [("loop.example/shieling/impl.errForm", 0, .iface 323 (.pointer (some (a 0)))), ("loop.example/shieling/impl.errDirs", 1, .iface 323 (.pointer (some (a 1)))), ("loop.example/shieling/impl.errNone", 2, .iface 323 (.pointer (some (a 2)))), ("loop.example/shieling/impl.errThere", 3, .iface 323 (.pointer (some (a 3)))), ("loop.example/shieling/impl.errFull", 4, .iface 323 (.pointer (some (a 4)))), ("loop.example/shieling/impl.errRing", 5, .iface 323 (.pointer (some (a 5)))), ("loop.example/shieling/impl.errKind", 6, .iface 323 (.pointer (some (a 6)))), ("loop.example/shieling/impl.errUsed", 7, .iface 323 (.pointer (some (a 7))))] fun x hx => by
    simp only [List.mem_cons,List.not_mem_nil,or_false] at hx
    rcases hx with rfl | rfl | rfl | rfl | rfl | rfl | rfl | rfl
    · exact ⟨gn0,gt0,h0,trivial⟩
    · exact ⟨gn1,gt1,h1,trivial⟩
    · exact ⟨gn2,gt2,h2,trivial⟩
    · exact ⟨gn3,gt3,h3,trivial⟩
    · exact ⟨gn4,gt4,h4,trivial⟩
    · exact ⟨gn5,gt5,h5,trivial⟩
    · exact ⟨gn6,gt6,h6,trivial⟩
    · exact ⟨gn7,gt7,h7,trivial⟩
end
section
theorem band {a b : Bool} (h : a = true) (k : b = true) : (a && b) = true:=by rw [h,k]; rfl
theorem closedOf {f : FuncId} {fn : Func} {s : ChangeSpec} {c : OpenClaim}
    (e1 : c.plainKeys = false) (e2 : c.lifted = Rows.fnExactKeepOkRow.lifted) (e3 : c.make = Rows.fnExactKeepOkRow.make)
    (k1 : c.wf (OpenSpec.ofChange s) = true) (k2 : fn.params.all (Tryz.prog.readableRec ·) = true) (k3 : namedTie Tryz.prog c.named s.vars = true)
    (k4 : (c.stops == []) = true) (k5 : (c.knobs == []) = true)
    (k6 : (c.inPlace == Tryz.prog.inPlace f) = true) (k7 : (c.unfollowed == Tryz.prog.unfollowed f) = true) (k8 : (c.recurses == Tryz.prog.recurses f) = true) (k9 : (c.named == Tryz.prog.varsNamed f) = true)
    (k10 : (c.maps == (fn.params.toList ++ s.plain.varTypes Tryz.prog).any (Tryz.prog.mapsRec ·)) = true) (k11 : (c.ifaces == (fn.params.toList ++ s.plain.varTypes Tryz.prog).any (Tryz.prog.ifacesRec ·)) = true) (k12 : (c.mapsOut == Tryz.prog.mapsAmong fn.resultTypes.toList) = true)
    (k13 : (c.loops == (fn.params.toList ++ s.plain.varTypes Tryz.prog).any (Tryz.prog.loopsFrom ·)) = true) (k14 : (c.wideKeys == (fn.params.toList ++ s.plain.varTypes Tryz.prog ++ fn.resultTypes.toList).any (Tryz.prog.wideKeysFrom ·)) = true)
    (k15 : s.vars.all (Tryz.prog.varReadable ·) = true) (k16 : fn.resultTypes.all (fun t=>Tryz.prog.readableRec t && decide (t < Tryz.prog.types.size)) = true) (k17 : (c.ifacesOut == fn.resultTypes.toList.any (Tryz.prog.ifacesRec ·)) = true) (k18 : (c.loopsOut == fn.resultTypes.toList.any (Tryz.prog.loopsFrom ·)) = true)
    (k19 : c.shortTexts.isNone = true)
    (k20 : c.domain = []) (k20' : c.kinds = []) (k21 : (c.pinned == c.pinnedBy) = true)
    (k22 : (c.veiled == (fn.params.toList ++ s.plain.varTypes Tryz.prog ++ fn.resultTypes.toList).any (Tryz.prog.veiledRec ·)) = true) (k23 : c.veiledFits Tryz.prog fn.params.toList (fn.params.toList ++ s.plain.varTypes Tryz.prog ++ fn.resultTypes.toList) = true) :
    joinedFacts Tryz.prog f fn s c = true:=by
  have m1 : (c.plainKeys == Tryz.prog.plainKeys) = true:=by rw [e1]; exact fKeys
  have m2 : (c.lifted == Tryz.prog.liftsFinal) = true:=by rw [e2]; exact fFinal
  have m3 : (Tryz.prog.make == some c.make) = true:=by rw [e3]; exact fMake
  have m4:=fLaid
  have m5:=fMaps
  have m6:=fStops
  have m7:=fKnobs
  have m8:=fHeard
  have m9:=fEnter
  unfold joinedFacts
  repeat' (with_reducible apply band)
  all_goals (first | with_reducible assumption | (rw [k20,k20']; rfl))
end
section
theorem main_is : Tryz.pinned.checked.prog.mainIs = some (true, "f45984e117d6a4851f31fa94628aa20dbfa99b25107de536e795cb01e4abf03f".toList) := by kernel_rfl
theorem looks_is : true = Tryz.pinned.checked.prog.looks []:=by kernel_rfl
end
end Go.Proofs.YtloopeipheklpaaGreatDoor
