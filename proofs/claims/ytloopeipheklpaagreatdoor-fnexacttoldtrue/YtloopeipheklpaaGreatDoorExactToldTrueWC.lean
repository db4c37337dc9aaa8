import Derived.Test.YtloopeipheklpaaGreatDoorW28
import Derived.Deep.DeepCutAuto
namespace Go.Proofs.YtloopeipheklpaaGreatDoor
open Go.RowKit Go.ChangeShapes Go.WideShapes
set_option maxHeartbeats 16000000 in
theorem walkToldTrue (sn : Nat → Addr) (S0 : Nat) (a0 : Option Addr) (n0 c0 : Nat) (a1 : Option Addr) (n1 c1 : Nat) (a2 : Option Addr) (n2 c2 : Nat) (a3 : Option Addr) (n3 c3 : Nat) (a4 : Option Addr) (n4 c4 : Nat) (a5 : Option Addr) (n5 c5 : Nat) (X : LWorld) (w : World) (hS0 : S0 ≤ w.heap.size) (HS : Sents w S0 sn) (H : WorldAt w 0 w.heap.size a0 n0 a1 n1 a2 n2 a3 n3 a4 n4 a5 n5 X) :
    Calls Tryz.prog 6 #[.agg #[.slice a0 n0 c0,.slice a1 n1 c1,.slice a2 n2 c2,.slice a3 n3 c3,.slice a4 n4 c4,.slice a5 n5 c5]] w fun e w'=>e = .returned (.bool true) ∧ Below w.heap.size w w':=by
  have hA0:=hidMk (HeldB.new w #[.slice a0 n0 c0,.slice a1 n1 c1,.slice a2 n2 c2,.slice a3 n3 c3,.slice a4 n4 c4,.slice a5 n5 c5] 46)
  have HX:=hidMk H
  clear H
  go_enter Tryz.func6,Tryz.ntmps6
  go_wp2_with fail
  have hA:=hA0.out
  refine (szWorld_any _ _ _ _ _ _ _ _ _ _ _ _ _ _ _ _ _ _ X 0 w.heap.size _ _ (by omega) (by omega) hA.below.size (HX.out.below hA.below (Nat.le_refl _))).mono ?_
  rintro e w1 ⟨⟨r1,rfl,hr⟩,hb1⟩
  have HR : Hid (r1 = -1 ∨ 0 ≤ r1 ∧ r1 ≤ 1048576 ∧ WorldSm X):=hr
  have h1:=hA.next hb1
  clear hr hb1 hA hA0
  by_cases hneg : r1 < 0
  · go_wp2_with fail
    go_ret
    exact ⟨rfl,h1.below⟩
  have S1:=(HR.out.resolve_left (by omega)).2.2
  clear HR
  obtain ⟨e0,e1,e2,e3,e4,e5⟩:=h1.box.c6
  have H1:=hidMk h1
  go_wp2_with fail
  refine (toWorld_any _ _ _ _ _ _ _ _ _ _ _ _ _ _ _ _ _ _ X 0 w.heap.size _ S1 h1.below.size (HX.out.below h1.below (Nat.le_refl _))).mono ?_
  rintro e w2 ⟨⟨p0,p1,p2,p3,p4,p5,rfl,h2o⟩,hb2⟩
  have h2:=H1.out.next hb2
  have h2u:=h1.below.size
  clear h1 H1 hb2 e0 e1 e2 e3 e4 e5
  have H2:=hidMk h2
  have H2o:=hidMk h2o
  clear h2 h2o
  go_wp2_with fail
  refine (specToldTrue _ _ _ _ _ _ _ _ _ _ _ _ _ _ _ _ _ _ X _ _ _ S1 (Nat.le_refl _) H2o.out).mono ?_
  rintro e w3 ⟨rfl,hb3⟩
  have h3:=H2.out.next hb3
  clear H2 H2o hb3 h2u
  obtain ⟨e0,e1,e2,e3,e4,e5⟩:=h3.box.c6
  have H3:=hidMk h3
  go_wp2_with fail
  refine (toWorld_any _ _ _ _ _ _ _ _ _ _ _ _ _ _ _ _ _ _ X 0 w.heap.size _ S1 h3.below.size (HX.out.below h3.below (Nat.le_refl _))).mono ?_
  rintro e w4 ⟨⟨r0,r1,r2,r3,r4,r5,rfl,h4o⟩,hb4⟩
  have h4:=H3.out.next hb4
  have h4u:=h3.below.size
  clear h3 H3 hb4 e0 e1 e2 e3 e4 e5
  have HB:=hidMk (HeldB.new w4 #[.slice (some ⟨r0,0,none⟩) n0 n0,.slice (some ⟨r1,0,none⟩) n1 n1,.slice (some ⟨r2,0,none⟩) n2 n2,.slice (some ⟨r3,0,none⟩) n3 n3,.slice (some ⟨r4,0,none⟩) n4 n4,.slice (some ⟨r5,0,none⟩) n5 n5] 56)
  have h5:=h4.next HB.out.below
  have h5o:=h4o.below HB.out.below (Nat.le_refl _)
  have hw4:=h4.below.size
  clear h4 h4o
  have H5:=hidMk h5
  have H5o:=hidMk h5o
  have HSh:=hidMk HS
  clear h5 h5o HS
  go_wp2_with fail
  refine (implToldTrue sn S0 _ _ _ _ _ _ _ _ _ _ _ _ _ _ _ _ _ _ X _ _ _ (by have:=H5.out.below.size; omega) (HSh.out.below H5.out.below hS0) S1 HB.out.below.size H5o.out).mono ?_
  rintro e w6 ⟨rfl,hb6⟩
  have h6:=H5.out.next hb6
  have g6:=HB.out.next hb6
  have h6o:=H5o.out.below hb6 HB.out.below.size
  clear H5 H5o HB hb6
  go_wp2_with fail
  go_upto_region 10 with fail
  have h7:=h6.drew
  have g7:=g6.drew
  have h7o:=h6o.below (Below.refl w6.heap.size w6).drew g6.below.size
  obtain ⟨e0,e1,e2,e3,e4,e5⟩:=h6.box.c6
  obtain ⟨f0,f1,f2,f3,f4,f5⟩:=g6.box.c6
  have hz1:=h6.hi
  have hz2:=g6.hi
  go_region_with (first
    | (go_at_call 22; go_must (refine (toWorld_any _ _ _ _ _ _ _ _ _ _ _ _ _ _ _ _ _ _ X 0 w.heap.size _ S1 h7.below.size (HX.out.below h7.below (Nat.le_refl _))).mono ?_; rintro e w8 ⟨⟨p0,p1,p2,p3,p4,p5,rfl,h8o⟩,hb8⟩; have h8:=h7.next hb8; have g8:=g7.next hb8; obtain ⟨f0,f1,f2,f3,f4,f5⟩:=g8.box.c6; have hz8:=g8.hi))
    | (go_at_call 24; go_must (refine (eqWorld_same _ _ _ _ _ _ _ _ _ _ _ _ _ _ _ _ _ _ _ _ _ _ _ _ _ _ _ _ _ _ X _ _ _ _ _ g8.below.size (Nat.le_refl _) (h7o.below hb8 g7.below.size) h8o).mono ?_; rintro e w9 ⟨rfl,hb9⟩)))
  all_goals
    go_wp2_with fail
    go_ret
    exact ⟨rfl,(h8.next hb9).below⟩
end Go.Proofs.YtloopeipheklpaaGreatDoor
