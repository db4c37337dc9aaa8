/- Lemmas that the proofs of this seat share: WldE, Path, Find. -/
import Derived.Test.YtloopeipheklpaaGreatDoorW13
import Derived.Test.YtloopeipheklpaaGreatDoorW10
import Derived.Lib.Bytealg
import Derived.Lib.Walk
namespace Go.Proofs.YtloopeipheklpaaGreatDoor
section
open Go.RowKit Go.ChangeShapes Go.WideShapes
set_option maxHeartbeats 2000000 in
theorem eqOpSS_same (a a' : Option Addr) (n c c' : Nat) (xs : List (List LOp)) (L U L' U' : Nat) (w : World) (hU : U ≤ w.heap.size) (hU' : U' ≤ w.heap.size) (H : RowsAt 1 OpsE w L U a n xs) (H' : RowsAt 1 OpsE w L' U' a' n xs) :
    Calls Tryz.prog 90 #[.slice a n c,.slice a' n c'] w fun e w'=>e = .returned (.bool true) ∧ Below w.heap.size w w':=by
  have hbd:=H.bd
  unfold maxLen at hbd
  go_enter Tryz.func90,Tryz.ntmps90
  go_wp2_with fail
  go_loopg [5] n (fun k i wr=>∃ j : Nat,j ≤ n ∧ Hid (k = n - j) ∧ i = .int .i64 j ∧ Below w.heap.size w wr)
  case atStart=>exact ⟨0,Nat.zero_le _,by show _ = _; omega,rfl,Below.refl _ _⟩
  case round =>
    obtain ⟨j,hj,hk,rfl,hb⟩:=hrel
    by_cases hlt : j < n
    · obtain ⟨b,off,ha,hL,hbU,hc⟩:=H.at_ (by omega)
      obtain ⟨b',off',ha',hL',hbU',hc'⟩:=H'.at_ (by omega)
      subst ha ha'
      obtain ⟨x,vs,he,hc,hE⟩:=hc j hlt
      obtain ⟨x',vs',he2,hc',hE'⟩:=hc' j hlt
      obtain rfl : x = x':=by rw [he] at he2; simpa using he2
      obtain ⟨oa,on,oc,rfl,hO⟩:=hE
      obtain ⟨oa',on',oc',rfl,hO2⟩:=hE'
      obtain rfl : on = on':=by rw [hO.len,hO2.len]
      have c0:=hc 0 _ rfl
      simp only [Nat.add_zero,Nat.mul_one] at c0
      rw [← hb.cell (by simp; omega)] at c0
      have d0:=hc' 0 _ rfl
      simp only [Nat.add_zero,Nat.mul_one] at d0
      rw [← hb.cell (by simp; omega)] at d0
      have hlt' : (j : Int) < (n : Int):=by omega
      have hs1:=hb.size
      have hO:=hO.below hb hU
      have hO2:=hO2.below hb hU'
      clear he he2 hc hc'
      go_wp2_with fail
      go_region_with (go_at_call 89; go_must (refine (eqOpS_same _ _ _ _ _ _ L U L' U' _ (by simp; omega) (by simp; omega) (hO.below (by repeat (first | exact Below.refl _ _ | refine Below.drew ?_)) (Nat.le_trans hU hs1)) (hO2.below (by repeat (first | exact Below.refl _ _ | refine Below.drew ?_)) (Nat.le_trans hU' hs1))).mono ?_; rintro e w1 ⟨rfl,hb1⟩))
      all_goals
        go_wp2_with fail
        go_roundg (n - (j + 1))
        case measure=>have:=hk.out; omega
        case rel=>exact ⟨j + 1,by omega,rfl,by go_num,hb.trans (Below.trans (by repeat (first | exact Below.refl _ _ | refine Below.drew ?_)) (hb1.mono hb.size))⟩
    · obtain rfl : j = n:=by omega
      go_wp2_with fail
      go_ret
      exact ⟨rfl,hb⟩
theorem eqTold_same (i j k : Int) (w : World) :
    Calls Tryz.prog 137 #[.agg #[.int .i64 i,.int .i64 j,.int .i64 k],.agg #[.int .i64 i,.int .i64 j,.int .i64 k]] w fun e w'=>e = .returned (.bool true) ∧ Below w.heap.size w w':=by
  go_enter Tryz.func137,Tryz.ntmps137
  go_wp2
  go_ret
  exact ⟨by simp,((Below.refl _ _).alloc (Nat.le_refl _) _).alloc (by simp) _⟩
set_option maxHeartbeats 2000000 in
theorem eqToldS_same (a a' : Option Addr) (n c c' : Nat) (xs : List LTold) (L U L' U' : Nat) (w : World) (hU : U ≤ w.heap.size) (hU' : U' ≤ w.heap.size) (H : RowsAt 3 ToldE w L U a n xs) (H' : RowsAt 3 ToldE w L' U' a' n xs) :
    Calls Tryz.prog 71 #[.slice a n c,.slice a' n c'] w fun e w'=>e = .returned (.bool true) ∧ Below w.heap.size w w':=by
  have hbd:=H.bd
  unfold maxLen at hbd
  go_enter Tryz.func71,Tryz.ntmps71
  go_wp2_with fail
  go_loopg [5] n (fun k i wr=>∃ j : Nat,j ≤ n ∧ Hid (k = n - j) ∧ i = .int .i64 j ∧ Below w.heap.size w wr)
  case atStart=>exact ⟨0,Nat.zero_le _,by show _ = _; omega,rfl,Below.refl _ _⟩
  case round =>
    obtain ⟨j,hj,hk,rfl,hb⟩:=hrel
    by_cases hlt : j < n
    · obtain ⟨b,off,ha,hL,hbU,hc⟩:=H.at_ (by omega)
      obtain ⟨b',off',ha',hL',hbU',hc'⟩:=H'.at_ (by omega)
      subst ha ha'
      obtain ⟨x,vs,he,hc,hE⟩:=hc j hlt
      obtain ⟨x',vs',he2,hc',hE'⟩:=hc' j hlt
      obtain rfl : x = x':=by rw [he] at he2; simpa using he2
      obtain rfl : vs = _:=hE
      obtain rfl : vs' = _:=hE'
      have c0:=hc 0 _ rfl
      have c1:=hc 1 _ rfl
      have c2:=hc 2 _ rfl
      simp only [Nat.add_zero] at c0
      rw [← hb.cell (by simp; omega)] at c0 c1 c2
      have d0:=hc' 0 _ rfl
      have d1:=hc' 1 _ rfl
      have d2:=hc' 2 _ rfl
      simp only [Nat.add_zero] at d0
      rw [← hb.cell (by simp; omega)] at d0 d1 d2
      have hlt' : (j : Int) < (n : Int):=by omega
      have hs1:=hb.size
      clear he he2 hc hc'
      go_wp2_with fail
      go_region_with (go_at_call 137; go_must (refine (eqTold_same _ _ _ _).mono ?_; rintro e w1 ⟨rfl,hb1⟩))
      all_goals
        go_wp2_with fail
        go_roundg (n - (j + 1))
        case measure=>have:=hk.out; omega
        case rel=>exact ⟨j + 1,by omega,rfl,by go_num,hb.trans (Below.trans (by repeat (first | exact Below.refl _ _ | refine Below.drew ?_)) (hb1.mono hb.size))⟩
    · obtain rfl : j = n:=by omega
      go_wp2_with fail
      go_ret
      exact ⟨rfl,hb⟩
set_option maxHeartbeats 2000000 in
theorem eqLogS_same (a a' : Option Addr) (n c c' : Nat) (xs : List LLog) (L U L' U' : Nat) (w : World) (hU : U ≤ w.heap.size) (hU' : U' ≤ w.heap.size) (H : RowsAt 4 LogE w L U a n xs) (H' : RowsAt 4 LogE w L' U' a' n xs) :
    Calls Tryz.prog 16 #[.slice a n c,.slice a' n c'] w fun e w'=>e = .returned (.bool true) ∧ Below w.heap.size w w':=by
  have hbd:=H.bd
  unfold maxLen at hbd
  go_enter Tryz.func16,Tryz.ntmps16
  go_wp2_with fail
  go_loopg [5] n (fun k i wr=>∃ j : Nat,j ≤ n ∧ Hid (k = n - j) ∧ i = .int .i64 j ∧ Below w.heap.size w wr)
  case atStart=>exact ⟨0,Nat.zero_le _,by show _ = _; omega,rfl,Below.refl _ _⟩
  case round =>
    obtain ⟨j,hj,hk,rfl,hb⟩:=hrel
    by_cases hlt : j < n
    · obtain ⟨b,off,ha,hL,hbU,hc⟩:=H.at_ (by omega)
      obtain ⟨b',off',ha',hL',hbU',hc'⟩:=H'.at_ (by omega)
      subst ha ha'
      obtain ⟨x,vs,he,hc,hE⟩:=hc j hlt
      obtain ⟨x',vs',he2,hc',hE'⟩:=hc' j hlt
      obtain rfl : x = x':=by rw [he] at he2; simpa using he2
      obtain ⟨q,s,a1,n1,c1',a2,n2,c2',rfl,hcp,hL4⟩:=hE
      obtain ⟨q',s',a1',n1',c1'',a2',n2',c2'',rfl,hcp',hM4⟩:=hE'
      obtain rfl : n1 = n1':=by rw [hL4.b.len,hM4.b.len]
      obtain rfl : n2 = n2':=by rw [hL4.o.len,hM4.o.len]
      obtain rfl : q = q':=by rw [hL4.q,hM4.q]
      obtain rfl : s = s':=by rw [hL4.s,hM4.s]
      have c0:=hc 0 _ rfl
      have c1:=hc 1 _ rfl
      have c2:=hc 2 _ rfl
      have c3:=hc 3 _ rfl
      simp only [Nat.add_zero] at c0
      rw [← hb.cell (by simp; omega)] at c0 c1 c2 c3
      have d0:=hc' 0 _ rfl
      have d1:=hc' 1 _ rfl
      have d2:=hc' 2 _ rfl
      have d3:=hc' 3 _ rfl
      simp only [Nat.add_zero] at d0
      rw [← hb.cell (by simp; omega)] at d0 d1 d2 d3
      have hlt' : (j : Int) < (n : Int):=by omega
      have hs1:=hb.size
      have hL4:=hL4.below hb hU
      have hM4:=hM4.below hb hU'
      clear he he2 hc hc'
      go_wp2_with fail
      go_region_with (go_at_call 53; go_must (refine (eqLog_same _ _ _ _ _ _ _ _ _ _ _ _ x L U L' U' _ (by simp; omega) (by simp; omega) (hL4.below (by repeat (first | exact Below.refl _ _ | refine Below.drew ?_)) (Nat.le_trans hU hs1)) (hM4.below (by repeat (first | exact Below.refl _ _ | refine Below.drew ?_)) (Nat.le_trans hU' hs1))).mono ?_; rintro e w1 ⟨rfl,hb1⟩))
      all_goals
        go_wp2_with fail
        go_roundg (n - (j + 1))
        case measure=>have:=hk.out; omega
        case rel=>exact ⟨j + 1,by omega,rfl,by go_num,hb.trans (Below.trans (by repeat (first | exact Below.refl _ _ | refine Below.drew ?_)) (hb1.mono hb.size))⟩
    · obtain rfl : j = n:=by omega
      go_wp2_with fail
      go_ret
      exact ⟨rfl,hb⟩
set_option maxHeartbeats 2000000 in
theorem eqMsgS_same (a a' : Option Addr) (n c c' : Nat) (xs : List LMsg) (L U L' U' : Nat) (w : World) (hU : U ≤ w.heap.size) (hU' : U' ≤ w.heap.size) (H : RowsAt 9 MsgE w L U a n xs) (H' : RowsAt 9 MsgE w L' U' a' n xs) :
    Calls Tryz.prog 70 #[.slice a n c,.slice a' n c'] w fun e w'=>e = .returned (.bool true) ∧ Below w.heap.size w w':=by
  have hbd:=H.bd
  unfold maxLen at hbd
  go_enter Tryz.func70,Tryz.ntmps70
  go_wp2_with fail
  go_loopg [5] n (fun k i wr=>∃ j : Nat,j ≤ n ∧ Hid (k = n - j) ∧ i = .int .i64 j ∧ Below w.heap.size w wr)
  case atStart=>exact ⟨0,Nat.zero_le _,by show _ = _; omega,rfl,Below.refl _ _⟩
  case round =>
    obtain ⟨j,hj,hk,rfl,hb⟩:=hrel
    by_cases hlt : j < n
    · obtain ⟨b,off,ha,hL,hbU,hc⟩:=H.at_ (by omega)
      obtain ⟨b',off',ha',hL',hbU',hc'⟩:=H'.at_ (by omega)
      subst ha ha'
      obtain ⟨x,vs,he,hc,hE⟩:=hc j hlt
      obtain ⟨x',vs',he2,hc',hE'⟩:=hc' j hlt
      obtain rfl : x = x':=by rw [he] at he2; simpa using he2
      obtain ⟨q,s,ba,bn,bc,oa,on,oc,ta,tn,tc,rfl,hcp,hM⟩:=hE
      obtain ⟨q',s',ba',bn',bc',oa',on',oc',ta',tn',tc',rfl,hcp',hN⟩:=hE'
      obtain rfl : bn = bn':=by rw [hM.log.b.len,hN.log.b.len]
      obtain rfl : on = on':=by rw [hM.log.o.len,hN.log.o.len]
      obtain rfl : tn = tn':=by rw [hM.tree.len,hN.tree.len]
      obtain rfl : q = q':=by rw [hM.log.q,hN.log.q]
      obtain rfl : s = s':=by rw [hM.log.s,hN.log.s]
      have c0:=hc 0 _ rfl
      have c1:=hc 1 _ rfl
      have c2:=hc 2 _ rfl
      have c3:=hc 3 _ rfl
      have c4:=hc 4 _ rfl
      have c5:=hc 5 _ rfl
      have c6:=hc 6 _ rfl
      have c7:=hc 7 _ rfl
      have c8:=hc 8 _ rfl
      simp only [Nat.add_zero] at c0
      rw [← hb.cell (by simp; omega)] at c0 c1 c2 c3 c4 c5 c6 c7 c8
      have d0:=hc' 0 _ rfl
      have d1:=hc' 1 _ rfl
      have d2:=hc' 2 _ rfl
      have d3:=hc' 3 _ rfl
      have d4:=hc' 4 _ rfl
      have d5:=hc' 5 _ rfl
      have d6:=hc' 6 _ rfl
      have d7:=hc' 7 _ rfl
      have d8:=hc' 8 _ rfl
      simp only [Nat.add_zero] at d0
      rw [← hb.cell (by simp; omega)] at d0 d1 d2 d3 d4 d5 d6 d7 d8
      have hlt' : (j : Int) < (n : Int):=by omega
      have hs1:=hb.size
      have hM:=hM.below hb hU
      have hN:=hN.below hb hU'
      clear he he2 hc hc'
      go_wp2_with fail
      go_region_with (go_at_call 136; go_must (refine (eqMsg_same _ _ _ _ _ _ _ _ _ _ _ _ _ _ _ _ _ _ _ _ _ x.log x.tree L U L' U' _ (by simp; omega) (by simp; omega) (hM.below (by repeat (first | exact Below.refl _ _ | refine Below.drew ?_)) (Nat.le_trans hU hs1)) (hN.below (by repeat (first | exact Below.refl _ _ | refine Below.drew ?_)) (Nat.le_trans hU' hs1))).mono ?_; rintro e w1 ⟨rfl,hb1⟩))
      all_goals
        go_wp2_with fail
        go_roundg (n - (j + 1))
        case measure=>have:=hk.out; omega
        case rel=>exact ⟨j + 1,by omega,rfl,by go_num,hb.trans (Below.trans (by repeat (first | exact Below.refl _ _ | refine Below.drew ?_)) (hb1.mono hb.size))⟩
    · obtain rfl : j = n:=by omega
      go_wp2_with fail
      go_ret
      exact ⟨rfl,hb⟩
set_option maxHeartbeats 2000000 in
theorem eqKeep_same (q s : Int) (a : Option Addr) (n c : Nat) (b : Bool) (a1 : Option Addr) (n1 c1 : Nat) (a2 : Option Addr) (n2 c2 : Nat) (a3 : Option Addr) (n3 c3 : Nat) (x : Option Addr) (y : Nat) (x1 : Option Addr) (y1 : Nat) (x2 : Option Addr) (y2 : Nat) (x3 : Option Addr) (y3 : Nat) (k : LKeep) (L U L' U' : Nat) (w : World) (hU : U ≤ w.heap.size) (hU' : U' ≤ w.heap.size) (H : KeepAt w L U q s a n b a1 n1 a2 n2 a3 n3 k) (H' : KeepAt w L' U' q s x n b x1 n1 x2 n2 x3 n3 k) :
    Calls Tryz.prog 33 #[.agg #[.int .i64 q,.int .i64 s,.slice a n c,.bool b,.slice a1 n1 c1,.slice a2 n2 c2,.slice a3 n3 c3],.agg #[.int .i64 q,.int .i64 s,.slice x n y,.bool b,.slice x1 n1 y1,.slice x2 n2 y2,.slice x3 n3 y3]] w fun e w'=>e = .returned (.bool true) ∧ Below w.heap.size w w':=by
  have A0 : BoxI ((w.alloc (.cells #[.int .i64 q,.int .i64 s,.slice a n c,.bool b,.slice a1 n1 c1,.slice a2 n2 c2,.slice a3 n3 c3] 69)).alloc (.cells #[.int .i64 q,.int .i64 s,.slice x n y,.bool b,.slice x1 n1 y1,.slice x2 n2 y2,.slice x3 n3 y3] 69)) w.heap.size 69 [.int .i64 q,.int .i64 s,.slice a n c,.bool b,.slice a1 n1 c1,.slice a2 n2 c2,.slice a3 n3 c3]:=(BoxI.new rfl).alloc _
  have A1 : BoxI ((w.alloc (.cells #[.int .i64 q,.int .i64 s,.slice a n c,.bool b,.slice a1 n1 c1,.slice a2 n2 c2,.slice a3 n3 c3] 69)).alloc (.cells #[.int .i64 q,.int .i64 s,.slice x n y,.bool b,.slice x1 n1 y1,.slice x2 n2 y2,.slice x3 n3 y3] 69)) (w.heap.size + 1) 69 [.int .i64 q,.int .i64 s,.slice x n y,.bool b,.slice x1 n1 y1,.slice x2 n2 y2,.slice x3 n3 y3]:=BoxI.new (by simp)
  have hB0 : Below w.heap.size w ((w.alloc (.cells #[.int .i64 q,.int .i64 s,.slice a n c,.bool b,.slice a1 n1 c1,.slice a2 n2 c2,.slice a3 n3 c3] 69)).alloc (.cells #[.int .i64 q,.int .i64 s,.slice x n y,.bool b,.slice x1 n1 y1,.slice x2 n2 y2,.slice x3 n3 y3] 69)):=((Below.refl _ _).alloc (Nat.le_refl _) _).alloc (by simp) _
  have HB0:=hidMk A0
  have HB1:=hidMk A1
  have HH:=hidMk H
  have HH':=hidMk H'
  clear A0 A1 H H'
  go_enter Tryz.func33,Tryz.ntmps33
  go_wp2_with fail
  refine (eqTree_same _ _ _ _ _ _ L U L' U' _ (by have:=hB0.size; omega) (by have:=hB0.size; omega) (HH.out.base.below hB0 hU) (HH'.out.base.below hB0 hU')).mono ?_
  rintro e w1 ⟨rfl,hb1⟩
  have hB1 : Below w.heap.size w w1:=hB0.trans (hb1.mono hB0.size)
  have B0:=HB0.out.next hb1 HB0.out.lt
  have B1:=HB1.out.next hb1 HB1.out.lt
  clear HB0 HB1 hb1
  have HB0:=hidMk B0
  have HB1:=hidMk B1
  obtain ⟨_,_,_,f3,f4,_,_⟩:=B0.c7
  obtain ⟨_,_,_,g3,g4,_,_⟩:=B1.c7
  clear B0 B1
  go_wp2_with fail
  refine (eqOpS_same _ _ _ _ _ _ L U L' U' _ (by have:=hB1.size; omega) (by have:=hB1.size; omega) (HH.out.sent.below hB1 hU) (HH'.out.sent.below hB1 hU')).mono ?_
  rintro e w2 ⟨rfl,hb2⟩
  clear f3 f4 g3 g4
  have hB2 : Below w.heap.size w w2:=hB1.trans (hb2.mono hB1.size)
  have B0:=HB0.out.next hb2 HB0.out.lt
  have B1:=HB1.out.next hb2 HB1.out.lt
  clear HB0 HB1 hb2
  have HB0:=hidMk B0
  have HB1:=hidMk B1
  obtain ⟨_,_,_,_,_,f5,_⟩:=B0.c7
  obtain ⟨_,_,_,_,_,g5,_⟩:=B1.c7
  clear B0 B1
  go_wp2_with fail
  refine (eqOpS_same _ _ _ _ _ _ L U L' U' _ (by have:=hB2.size; omega) (by have:=hB2.size; omega) (HH.out.list.below hB2 hU) (HH'.out.list.below hB2 hU')).mono ?_
  rintro e w3 ⟨rfl,hb3⟩
  clear f5 g5
  have hB3 : Below w.heap.size w w3:=hB2.trans (hb3.mono hB2.size)
  have B0:=HB0.out.next hb3 HB0.out.lt
  have B1:=HB1.out.next hb3 HB1.out.lt
  clear HB0 HB1 hb3
  have HB0:=hidMk B0
  have HB1:=hidMk B1
  obtain ⟨_,_,_,_,_,_,f6⟩:=B0.c7
  obtain ⟨_,_,_,_,_,_,g6⟩:=B1.c7
  clear B0 B1
  go_wp2_with fail
  refine (eqOpSS_same _ _ _ _ _ _ L U L' U' _ (by have:=hB3.size; omega) (by have:=hB3.size; omega) (HH.out.shelf.below eltOps hB3 hU) (HH'.out.shelf.below eltOps hB3 hU')).mono ?_
  rintro e w4 ⟨rfl,hb4⟩
  clear f6 g6 HB0 HB1
  go_wp2_with fail
  go_ret
  exact ⟨rfl,hB3.trans (hb4.mono hB3.size)⟩
set_option maxHeartbeats 2000000 in
theorem eqKeepS_same (a a' : Option Addr) (n c c' : Nat) (xs : List LKeep) (L U L' U' : Nat) (w : World) (hU : U ≤ w.heap.size) (hU' : U' ≤ w.heap.size) (H : RowsAt 7 KeepE w L U a n xs) (H' : RowsAt 7 KeepE w L' U' a' n xs) :
    Calls Tryz.prog 69 #[.slice a n c,.slice a' n c'] w fun e w'=>e = .returned (.bool true) ∧ Below w.heap.size w w':=by
  have hbd:=H.bd
  unfold maxLen at hbd
  go_enter Tryz.func69,Tryz.ntmps69
  go_wp2_with fail
  go_loopg [5] n (fun k i wr=>∃ j : Nat,j ≤ n ∧ Hid (k = n - j) ∧ i = .int .i64 j ∧ Below w.heap.size w wr)
  case atStart=>exact ⟨0,Nat.zero_le _,by show _ = _; omega,rfl,Below.refl _ _⟩
  case round =>
    obtain ⟨j,hj,hk,rfl,hb⟩:=hrel
    by_cases hlt : j < n
    · obtain ⟨b,off,ha,hL,hbU,hc⟩:=H.at_ (by omega)
      obtain ⟨b',off',ha',hL',hbU',hc'⟩:=H'.at_ (by omega)
      subst ha ha'
      obtain ⟨x,vs,he,hc,hE⟩:=hc j hlt
      obtain ⟨x',vs',he2,hc',hE'⟩:=hc' j hlt
      obtain rfl : x = x':=by rw [he] at he2; simpa using he2
      obtain ⟨q,s,a1,n1,c1',b1,a2,n2,c2',a3,n3,c3',a4,n4,c4',rfl,hK⟩:=hE
      obtain ⟨q',s',a1',n1',c1'',b1',a2',n2',c2'',a3',n3',c3'',a4',n4',c4'',rfl,hM⟩:=hE'
      obtain rfl : n1 = n1':=by rw [hK.base.len,hM.base.len]
      obtain rfl : n2 = n2':=by rw [hK.sent.len,hM.sent.len]
      obtain rfl : n3 = n3':=by rw [hK.list.len,hM.list.len]
      obtain rfl : n4 = n4':=by rw [hK.shelf.len,hM.shelf.len]
      obtain rfl : q = q':=by rw [hK.q,hM.q]
      obtain rfl : s = s':=by rw [hK.s,hM.s]
      obtain rfl : b1 = b1':=by rw [hK.b,hM.b]
      have c0:=hc 0 _ rfl
      have c1:=hc 1 _ rfl
      have c2:=hc 2 _ rfl
      have c3:=hc 3 _ rfl
      have c4:=hc 4 _ rfl
      have c5:=hc 5 _ rfl
      have c6:=hc 6 _ rfl
      simp only [Nat.add_zero] at c0
      rw [← hb.cell (by simp; omega)] at c0 c1 c2 c3 c4 c5 c6
      have d0:=hc' 0 _ rfl
      have d1:=hc' 1 _ rfl
      have d2:=hc' 2 _ rfl
      have d3:=hc' 3 _ rfl
      have d4:=hc' 4 _ rfl
      have d5:=hc' 5 _ rfl
      have d6:=hc' 6 _ rfl
      simp only [Nat.add_zero] at d0
      rw [← hb.cell (by simp; omega)] at d0 d1 d2 d3 d4 d5 d6
      have hlt' : (j : Int) < (n : Int):=by omega
      have hs1:=hb.size
      have hK:=hK.below hb hU
      have hM:=hM.below hb hU'
      clear he he2 hc hc'
      go_wp2_with fail
      go_region_with (go_at_call 33; go_must (refine (eqKeep_same _ _ _ _ _ _ _ _ _ _ _ _ _ _ _ _ _ _ _ _ _ _ _ x L U L' U' _ (by simp; omega) (by simp; omega) (hK.below (by repeat (first | exact Below.refl _ _ | refine Below.drew ?_)) (Nat.le_trans hU hs1)) (hM.below (by repeat (first | exact Below.refl _ _ | refine Below.drew ?_)) (Nat.le_trans hU' hs1))).mono ?_; rintro e w1 ⟨rfl,hb1⟩))
      all_goals
        go_wp2_with fail
        go_roundg (n - (j + 1))
        case measure=>have:=hk.out; omega
        case rel=>exact ⟨j + 1,by omega,rfl,by go_num,hb.trans (Below.trans (by repeat (first | exact Below.refl _ _ | refine Below.drew ?_)) (hb1.mono hb.size))⟩
    · obtain rfl : j = n:=by omega
      go_wp2_with fail
      go_ret
      exact ⟨rfl,hb⟩
theorem BoxI.c6 {W : World} {p : Nat} {t : TypeId} {v0 v1 v2 v3 v4 v5 : Value} (h : BoxI W p t [v0,v1,v2,v3,v4,v5]) : W.cell? ⟨p,0,none⟩ = some v0 ∧ W.cell? ⟨p,1,none⟩ = some v1 ∧ W.cell? ⟨p,2,none⟩ = some v2 ∧ W.cell? ⟨p,3,none⟩ = some v3 ∧ W.cell? ⟨p,4,none⟩ = some v4 ∧ W.cell? ⟨p,5,none⟩ = some v5 :=
  ⟨h.get 0 _ rfl,h.get 1 _ rfl,h.get 2 _ rfl,h.get 3 _ rfl,h.get 4 _ rfl,h.get 5 _ rfl⟩
set_option maxHeartbeats 2000000 in
theorem eqWorld_same (a0 : Option Addr) (n0 c0 : Nat) (a1 : Option Addr) (n1 c1 : Nat) (a2 : Option Addr) (n2 c2 : Nat) (a3 : Option Addr) (n3 c3 : Nat) (a4 : Option Addr) (n4 c4 : Nat) (a5 : Option Addr) (n5 c5 : Nat) (x0 : Option Addr) (y0 : Nat) (x1 : Option Addr) (y1 : Nat) (x2 : Option Addr) (y2 : Nat) (x3 : Option Addr) (y3 : Nat) (x4 : Option Addr) (y4 : Nat) (x5 : Option Addr) (y5 : Nat) (x : LWorld) (L U L' U' : Nat) (w : World) (hU : U ≤ w.heap.size) (hU' : U' ≤ w.heap.size) (H : WorldAt w L U a0 n0 a1 n1 a2 n2 a3 n3 a4 n4 a5 n5 x) (H' : WorldAt w L' U' x0 n0 x1 n1 x2 n2 x3 n3 x4 n4 x5 n5 x) :
    Calls Tryz.prog 24 #[.agg #[.slice a0 n0 c0,.slice a1 n1 c1,.slice a2 n2 c2,.slice a3 n3 c3,.slice a4 n4 c4,.slice a5 n5 c5],.agg #[.slice x0 n0 y0,.slice x1 n1 y1,.slice x2 n2 y2,.slice x3 n3 y3,.slice x4 n4 y4,.slice x5 n5 y5]] w fun e w'=>e = .returned (.bool true) ∧ Below w.heap.size w w':=by
  have A0 : BoxI ((w.alloc (.cells #[.slice a0 n0 c0,.slice a1 n1 c1,.slice a2 n2 c2,.slice a3 n3 c3,.slice a4 n4 c4,.slice a5 n5 c5] 56)).alloc (.cells #[.slice x0 n0 y0,.slice x1 n1 y1,.slice x2 n2 y2,.slice x3 n3 y3,.slice x4 n4 y4,.slice x5 n5 y5] 56)) w.heap.size 56 [.slice a0 n0 c0,.slice a1 n1 c1,.slice a2 n2 c2,.slice a3 n3 c3,.slice a4 n4 c4,.slice a5 n5 c5]:=(BoxI.new rfl).alloc _
  have A1 : BoxI ((w.alloc (.cells #[.slice a0 n0 c0,.slice a1 n1 c1,.slice a2 n2 c2,.slice a3 n3 c3,.slice a4 n4 c4,.slice a5 n5 c5] 56)).alloc (.cells #[.slice x0 n0 y0,.slice x1 n1 y1,.slice x2 n2 y2,.slice x3 n3 y3,.slice x4 n4 y4,.slice x5 n5 y5] 56)) (w.heap.size + 1) 56 [.slice x0 n0 y0,.slice x1 n1 y1,.slice x2 n2 y2,.slice x3 n3 y3,.slice x4 n4 y4,.slice x5 n5 y5]:=BoxI.new (by simp)
  have hB0 : Below w.heap.size w ((w.alloc (.cells #[.slice a0 n0 c0,.slice a1 n1 c1,.slice a2 n2 c2,.slice a3 n3 c3,.slice a4 n4 c4,.slice a5 n5 c5] 56)).alloc (.cells #[.slice x0 n0 y0,.slice x1 n1 y1,.slice x2 n2 y2,.slice x3 n3 y3,.slice x4 n4 y4,.slice x5 n5 y5] 56)):=((Below.refl _ _).alloc (Nat.le_refl _) _).alloc (by simp) _
  have HB0:=hidMk A0
  have HB1:=hidMk A1
  have HH:=hidMk H
  have HH':=hidMk H'
  clear A0 A1 H H'
  go_enter Tryz.func24,Tryz.ntmps24
  go_wp2_with fail
  refine (eqShop_same _ _ _ _ _ _ _ _ _ _ _ _ L U L U L' U' L' U' _ (by have:=hB0.size; omega) (by have:=hB0.size; omega) (by have:=hB0.size; omega) (by have:=hB0.size; omega) (HH.out.tree.below hB0 hU) (HH.out.dones.below hB0 hU) (HH'.out.tree.below hB0 hU') (HH'.out.dones.below hB0 hU')).mono ?_
  rintro e w1 ⟨rfl,hb1⟩
  have hB1 : Below w.heap.size w w1:=hB0.trans (hb1.mono hB0.size)
  have B0:=HB0.out.next hb1 HB0.out.lt
  have B1:=HB1.out.next hb1 HB1.out.lt
  clear HB0 HB1 hb1
  have HB0:=hidMk B0
  have HB1:=hidMk B1
  obtain ⟨_,_,f2,_,_,_⟩:=B0.c6
  obtain ⟨_,_,g2,_,_,_⟩:=B1.c6
  clear B0 B1
  go_wp2_with fail
  refine (eqKeepS_same _ _ _ _ _ _ L U L' U' _ (by have:=hB1.size; omega) (by have:=hB1.size; omega) (HH.out.keeps.below eltKeep hB1 hU) (HH'.out.keeps.below eltKeep hB1 hU')).mono ?_
  rintro e w2 ⟨rfl,hb2⟩
  clear f2 g2
  have hB2 : Below w.heap.size w w2:=hB1.trans (hb2.mono hB1.size)
  have B0:=HB0.out.next hb2 HB0.out.lt
  have B1:=HB1.out.next hb2 HB1.out.lt
  clear HB0 HB1 hb2
  have HB0:=hidMk B0
  have HB1:=hidMk B1
  obtain ⟨_,_,_,f3,_,_⟩:=B0.c6
  obtain ⟨_,_,_,g3,_,_⟩:=B1.c6
  clear B0 B1
  go_wp2_with fail
  refine (eqMsgS_same _ _ _ _ _ _ L U L' U' _ (by have:=hB2.size; omega) (by have:=hB2.size; omega) (HH.out.net.below eltMsg hB2 hU) (HH'.out.net.below eltMsg hB2 hU')).mono ?_
  rintro e w3 ⟨rfl,hb3⟩
  clear f3 g3
  have hB3 : Below w.heap.size w w3:=hB2.trans (hb3.mono hB2.size)
  have B0:=HB0.out.next hb3 HB0.out.lt
  have B1:=HB1.out.next hb3 HB1.out.lt
  clear HB0 HB1 hb3
  have HB0:=hidMk B0
  have HB1:=hidMk B1
  obtain ⟨_,_,_,_,f4,_⟩:=B0.c6
  obtain ⟨_,_,_,_,g4,_⟩:=B1.c6
  clear B0 B1
  go_wp2_with fail
  refine (eqLogS_same _ _ _ _ _ _ L U L' U' _ (by have:=hB3.size; omega) (by have:=hB3.size; omega) (HH.out.past.below eltLog hB3 hU) (HH'.out.past.below eltLog hB3 hU')).mono ?_
  rintro e w4 ⟨rfl,hb4⟩
  clear f4 g4
  have hB4 : Below w.heap.size w w4:=hB3.trans (hb4.mono hB3.size)
  have B0:=HB0.out.next hb4 HB0.out.lt
  have B1:=HB1.out.next hb4 HB1.out.lt
  clear HB0 HB1 hb4
  have HB0:=hidMk B0
  have HB1:=hidMk B1
  obtain ⟨_,_,_,_,_,f5⟩:=B0.c6
  obtain ⟨_,_,_,_,_,g5⟩:=B1.c6
  clear B0 B1
  go_wp2_with fail
  refine (eqToldS_same _ _ _ _ _ _ L U L' U' _ (by have:=hB4.size; omega) (by have:=hB4.size; omega) (HH.out.told.below eltTold hB4 hU) (HH'.out.told.below eltTold hB4 hU')).mono ?_
  rintro e w5 ⟨rfl,hb5⟩
  clear f5 g5
  clear HB0 HB1
  go_wp2_with fail
  go_ret
  exact ⟨rfl,hB4.trans (hb5.mono hB4.size)⟩
set_option maxHeartbeats 4000000 in
theorem toWorld_any (a0 : Option Addr) (n0 c0 : Nat) (a1 : Option Addr) (n1 c1 : Nat) (a2 : Option Addr) (n2 c2 : Nat) (a3 : Option Addr) (n3 c3 : Nat) (a4 : Option Addr) (n4 c4 : Nat) (a5 : Option Addr) (n5 c5 : Nat) (x : LWorld) (L U : Nat) (w : World) (hs : WorldSm x) (hU : U ≤ w.heap.size) (H : WorldAt w L U a0 n0 a1 n1 a2 n2 a3 n3 a4 n4 a5 n5 x) :
    Calls Tryz.prog 22 #[.agg #[.slice a0 n0 c0,.slice a1 n1 c1,.slice a2 n2 c2,.slice a3 n3 c3,.slice a4 n4 c4,.slice a5 n5 c5]] w fun e w'=>(∃ x0 x1 x2 x3 x4 x5,e = .returned (.agg #[.slice (some ⟨x0,0,none⟩) n0 n0,.slice (some ⟨x1,0,none⟩) n1 n1,.slice (some ⟨x2,0,none⟩) n2 n2,.slice (some ⟨x3,0,none⟩) n3 n3,.slice (some ⟨x4,0,none⟩) n4 n4,.slice (some ⟨x5,0,none⟩) n5 n5]) ∧ WorldAt w' w.heap.size w'.heap.size (some ⟨x0,0,none⟩) n0 (some ⟨x1,0,none⟩) n1 (some ⟨x2,0,none⟩) n2 (some ⟨x3,0,none⟩) n3 (some ⟨x4,0,none⟩) n4 (some ⟨x5,0,none⟩) n5 x) ∧ Below w.heap.size w w':=by
  have HH:=hidMk H
  clear H
  have hA : ∀ o1 o2 o3 : Obj,Below w.heap.size w (((w.alloc o1).alloc o2).alloc o3):=fun o1 o2 o3=>(((Below.refl _ _).alloc (Nat.le_refl _) _).alloc (by simp) _).alloc (by simp <;> omega) _
  have hB0:=hA (.cells #[.slice a0 n0 c0,.slice a1 n1 c1,.slice a2 n2 c2,.slice a3 n3 c3,.slice a4 n4 c4,.slice a5 n5 c5] 46) (.cells #[.slice none 0 0,.slice none 0 0,.slice none 0 0,.slice none 0 0,.slice none 0 0,.slice none 0 0] 56) (.cells #[.slice none 0 0,.slice none 0 0,.slice none 0 0,.slice none 0 0,.slice none 0 0,.slice none 0 0] 56)
  have A0 : BoxI (((w.alloc (.cells #[.slice a0 n0 c0,.slice a1 n1 c1,.slice a2 n2 c2,.slice a3 n3 c3,.slice a4 n4 c4,.slice a5 n5 c5] 46)).alloc (.cells #[.slice none 0 0,.slice none 0 0,.slice none 0 0,.slice none 0 0,.slice none 0 0,.slice none 0 0] 56)).alloc (.cells #[.slice none 0 0,.slice none 0 0,.slice none 0 0,.slice none 0 0,.slice none 0 0,.slice none 0 0] 56)) w.heap.size 46 [.slice a0 n0 c0,.slice a1 n1 c1,.slice a2 n2 c2,.slice a3 n3 c3,.slice a4 n4 c4,.slice a5 n5 c5]:=((BoxI.new rfl).alloc _).alloc _
  have A1 : BoxI (((w.alloc (.cells #[.slice a0 n0 c0,.slice a1 n1 c1,.slice a2 n2 c2,.slice a3 n3 c3,.slice a4 n4 c4,.slice a5 n5 c5] 46)).alloc (.cells #[.slice none 0 0,.slice none 0 0,.slice none 0 0,.slice none 0 0,.slice none 0 0,.slice none 0 0] 56)).alloc (.cells #[.slice none 0 0,.slice none 0 0,.slice none 0 0,.slice none 0 0,.slice none 0 0,.slice none 0 0] 56)) (w.heap.size + 1) 56 [.slice none 0 0,.slice none 0 0,.slice none 0 0,.slice none 0 0,.slice none 0 0,.slice none 0 0]:=(BoxI.new (by simp)).alloc _
  have A2 : BoxI (((w.alloc (.cells #[.slice a0 n0 c0,.slice a1 n1 c1,.slice a2 n2 c2,.slice a3 n3 c3,.slice a4 n4 c4,.slice a5 n5 c5] 46)).alloc (.cells #[.slice none 0 0,.slice none 0 0,.slice none 0 0,.slice none 0 0,.slice none 0 0,.slice none 0 0] 56)).alloc (.cells #[.slice none 0 0,.slice none 0 0,.slice none 0 0,.slice none 0 0,.slice none 0 0,.slice none 0 0] 56)) (w.heap.size + 1 + 1) 56 [.slice none 0 0,.slice none 0 0,.slice none 0 0,.slice none 0 0,.slice none 0 0,.slice none 0 0]:=BoxI.new (by simp)
  have HB0:=hidMk A0
  have HB1:=hidMk A1
  have HB2:=hidMk A2
  clear A0 A1 A2 hA
  go_enter Tryz.func22,Tryz.ntmps22
  go_wp2_with fail
  refine (toShop_any _ _ _ _ _ _ _ _ L U _ (by have:=HH.out.tree.len; have:=hs.n; omega) hs.tree (by have:=HH.out.dones.len; have:=hs.dones; omega) (by have:=hB0.size; omega) (HH.out.tree.below hB0 hU) (HH.out.dones.below hB0 hU)).mono ?_
  rintro y w1 ⟨⟨x0,x1,rfl,hk1,hk1'⟩,hb1⟩
  have hB1 : Below w.heap.size w w1:=hB0.trans (hb1.mono hB0.size)
  have B0:=HB0.out.next hb1 HB0.out.lt
  have B1:=HB1.out.next hb1 HB1.out.lt
  have B2:=HB2.out.next hb1 HB2.out.lt
  have hz1 : w.heap.size + 3 ≤ w1.heap.size:=by have:=hb1.size; simp at this; omega
  have K0 : ObjsAt w1 (w.heap.size + 3) w1.heap.size (some ⟨x0,0,none⟩) n0 x.tree:=hk1.wide (by simp <;> omega) (Nat.le_refl _)
  have K1 : DonesAt w1 (w.heap.size + 3) w1.heap.size (some ⟨x1,0,none⟩) n1 x.dones:=hk1'.wide (by simp <;> omega) (Nat.le_refl _)
  clear HB0 HB1 HB2 hB0 hb1 hk1 hk1'
  have HB0:=hidMk B0
  have HB1:=hidMk B1
  have HB2:=hidMk B2
  obtain ⟨_,_,p2,_,_,_⟩:=B0.c6
  obtain ⟨g0,g1,_,_,_,_⟩:=B2.c6
  have z2:=B2.fro
  clear B0 B1 B2
  go_wp2_with fail
  have hC : Below w.heap.size w ((w1.setCell ⟨w.heap.size + 1 + 1,0,none⟩ (.slice (some ⟨x0,0,none⟩) n0 n0)).setCell ⟨w.heap.size + 1 + 1,1,none⟩ (.slice (some ⟨x1,0,none⟩) n1 n1)):=((hB1.setCell (by simp <;> omega) _).setCell (by simp <;> omega) _)
  refine (toKeepS_any _ _ _ _ L U _ (by have:=HH.out.keeps.len; have:=hs.nk; omega) hs.keeps (by have:=hC.size; omega) (HH.out.keeps.below eltKeep hC hU)).mono ?_
  rintro y w2 ⟨⟨x2,rfl,hk⟩,hb⟩
  have hB2 : Below w.heap.size w w2:=hC.trans (hb.mono hC.size)
  have hz2 : w1.heap.size ≤ w2.heap.size:=by have:=hb.size; simp at this; omega
  have B0 : BoxI w2 w.heap.size 46 [.slice a0 n0 c0,.slice a1 n1 c1,.slice a2 n2 c2,.slice a3 n3 c3,.slice a4 n4 c4,.slice a5 n5 c5]:=((HB0.out.other _ _ (by simp <;> omega)).other _ _ (by simp <;> omega)).next hb (by have:=hz1; simp <;> omega)
  have B1 : BoxI w2 (w.heap.size + 1) 56 [.slice none 0 0,.slice none 0 0,.slice none 0 0,.slice none 0 0,.slice none 0 0,.slice none 0 0]:=((HB1.out.other _ _ (by simp)).other _ _ (by simp)).next hb (by have:=HB1.out.lt; simp <;> omega)
  have B2 : BoxI w2 (w.heap.size + 1 + 1) 56 [.slice (some ⟨x0,0,none⟩) n0 n0,.slice (some ⟨x1,0,none⟩) n1 n1,.slice none 0 0,.slice none 0 0,.slice none 0 0,.slice none 0 0]:=((HB2.out.set 0 (.slice (some ⟨x0,0,none⟩) n0 n0)).set 1 (.slice (some ⟨x1,0,none⟩) n1 n1)).next hb (by have:=HB2.out.lt; simp <;> omega)
  replace K0 : ObjsAt w2 (w.heap.size + 3) w1.heap.size (some ⟨x0,0,none⟩) n0 x.tree:=K0.blocks_ (fun b h1 h2=>(hb.block b (by simp; omega)).trans ((Below.heap_setCell _ _ _ b (by simp; omega)).trans (Below.heap_setCell _ _ _ b (by simp; omega))))
  replace K1 : DonesAt w2 (w.heap.size + 3) w1.heap.size (some ⟨x1,0,none⟩) n1 x.dones:=K1.blocks (fun b h1 h2=>(hb.block b (by simp; omega)).trans ((Below.heap_setCell _ _ _ b (by simp; omega)).trans (Below.heap_setCell _ _ _ b (by simp; omega))))
  have K2 : RowsAt 7 KeepE w2 (w.heap.size + 3) w2.heap.size (some ⟨x2,0,none⟩) n2 x.keeps:=hk.wide eltKeep (by simp <;> omega) (Nat.le_refl _)
  clear HB0 HB1 HB2 hC hB1 hb hk p2 z2 g0 g1
  have HB0:=hidMk B0
  have HB1:=hidMk B1
  have HB2:=hidMk B2
  obtain ⟨_,_,_,p3,_,_⟩:=B0.c6
  obtain ⟨_,_,g2,_,_,_⟩:=B2.c6
  have z2:=B2.fro
  clear B0 B1 B2
  go_wp2_with fail
  have hC : Below w.heap.size w (w2.setCell ⟨w.heap.size + 1 + 1,2,none⟩ (.slice (some ⟨x2,0,none⟩) n2 n2)):=(hB2.setCell (by simp <;> omega) _)
  refine (toMsgS_any _ _ _ _ L U _ (by have:=HH.out.net.len; have:=hs.nn; omega) hs.net (by have:=hC.size; omega) (HH.out.net.below eltMsg hC hU)).mono ?_
  rintro y w3 ⟨⟨x3,rfl,hk⟩,hb⟩
  have hB3 : Below w.heap.size w w3:=hC.trans (hb.mono hC.size)
  have hz3 : w2.heap.size ≤ w3.heap.size:=by have:=hb.size; simp at this; omega
  have B0 : BoxI w3 w.heap.size 46 [.slice a0 n0 c0,.slice a1 n1 c1,.slice a2 n2 c2,.slice a3 n3 c3,.slice a4 n4 c4,.slice a5 n5 c5]:=(HB0.out.other _ _ (by simp <;> omega)).next hb (by have:=hz2; simp <;> omega)
  have B1 : BoxI w3 (w.heap.size + 1) 56 [.slice none 0 0,.slice none 0 0,.slice none 0 0,.slice none 0 0,.slice none 0 0,.slice none 0 0]:=(HB1.out.other _ _ (by simp)).next hb (by have:=HB1.out.lt; simp <;> omega)
  have B2 : BoxI w3 (w.heap.size + 1 + 1) 56 [.slice (some ⟨x0,0,none⟩) n0 n0,.slice (some ⟨x1,0,none⟩) n1 n1,.slice (some ⟨x2,0,none⟩) n2 n2,.slice none 0 0,.slice none 0 0,.slice none 0 0]:=(HB2.out.set 2 (.slice (some ⟨x2,0,none⟩) n2 n2)).next hb (by have:=HB2.out.lt; simp <;> omega)
  replace K0 : ObjsAt w3 (w.heap.size + 3) w1.heap.size (some ⟨x0,0,none⟩) n0 x.tree:=K0.blocks_ (fun b h1 h2=>(hb.block b (by simp; omega)).trans (Below.heap_setCell _ _ _ b (by simp; omega)))
  replace K1 : DonesAt w3 (w.heap.size + 3) w1.heap.size (some ⟨x1,0,none⟩) n1 x.dones:=K1.blocks (fun b h1 h2=>(hb.block b (by simp; omega)).trans (Below.heap_setCell _ _ _ b (by simp; omega)))
  replace K2 : RowsAt 7 KeepE w3 (w.heap.size + 3) w2.heap.size (some ⟨x2,0,none⟩) n2 x.keeps:=K2.blocks eltKeep (fun b h1 h2=>(hb.block b (by simp; omega)).trans (Below.heap_setCell _ _ _ b (by simp; omega)))
  have K3 : RowsAt 9 MsgE w3 (w.heap.size + 3) w3.heap.size (some ⟨x3,0,none⟩) n3 x.net:=hk.wide eltMsg (by simp <;> omega) (Nat.le_refl _)
  clear HB0 HB1 HB2 hC hB2 hb hk p3 z2 g2
  have HB0:=hidMk B0
  have HB1:=hidMk B1
  have HB2:=hidMk B2
  obtain ⟨_,_,_,_,p4,_⟩:=B0.c6
  obtain ⟨_,_,_,g3,_,_⟩:=B2.c6
  have z2:=B2.fro
  clear B0 B1 B2
  go_wp2_with fail
  have hC : Below w.heap.size w (w3.setCell ⟨w.heap.size + 1 + 1,3,none⟩ (.slice (some ⟨x3,0,none⟩) n3 n3)):=(hB3.setCell (by simp <;> omega) _)
  refine (toLogS_any _ _ _ _ L U _ (by have:=HH.out.past.len; have:=hs.np; omega) hs.past (by have:=hC.size; omega) (HH.out.past.below eltLog hC hU)).mono ?_
  rintro y w4 ⟨⟨x4,rfl,hk⟩,hb⟩
  have hB4 : Below w.heap.size w w4:=hC.trans (hb.mono hC.size)
  have hz4 : w3.heap.size ≤ w4.heap.size:=by have:=hb.size; simp at this; omega
  have B0 : BoxI w4 w.heap.size 46 [.slice a0 n0 c0,.slice a1 n1 c1,.slice a2 n2 c2,.slice a3 n3 c3,.slice a4 n4 c4,.slice a5 n5 c5]:=(HB0.out.other _ _ (by simp <;> omega)).next hb (by have:=hz3; simp <;> omega)
  have B1 : BoxI w4 (w.heap.size + 1) 56 [.slice none 0 0,.slice none 0 0,.slice none 0 0,.slice none 0 0,.slice none 0 0,.slice none 0 0]:=(HB1.out.other _ _ (by simp)).next hb (by have:=HB1.out.lt; simp <;> omega)
  have B2 : BoxI w4 (w.heap.size + 1 + 1) 56 [.slice (some ⟨x0,0,none⟩) n0 n0,.slice (some ⟨x1,0,none⟩) n1 n1,.slice (some ⟨x2,0,none⟩) n2 n2,.slice (some ⟨x3,0,none⟩) n3 n3,.slice none 0 0,.slice none 0 0]:=(HB2.out.set 3 (.slice (some ⟨x3,0,none⟩) n3 n3)).next hb (by have:=HB2.out.lt; simp <;> omega)
  replace K0 : ObjsAt w4 (w.heap.size + 3) w1.heap.size (some ⟨x0,0,none⟩) n0 x.tree:=K0.blocks_ (fun b h1 h2=>(hb.block b (by simp; omega)).trans (Below.heap_setCell _ _ _ b (by simp; omega)))
  replace K1 : DonesAt w4 (w.heap.size + 3) w1.heap.size (some ⟨x1,0,none⟩) n1 x.dones:=K1.blocks (fun b h1 h2=>(hb.block b (by simp; omega)).trans (Below.heap_setCell _ _ _ b (by simp; omega)))
  replace K2 : RowsAt 7 KeepE w4 (w.heap.size + 3) w2.heap.size (some ⟨x2,0,none⟩) n2 x.keeps:=K2.blocks eltKeep (fun b h1 h2=>(hb.block b (by simp; omega)).trans (Below.heap_setCell _ _ _ b (by simp; omega)))
  replace K3 : RowsAt 9 MsgE w4 (w.heap.size + 3) w3.heap.size (some ⟨x3,0,none⟩) n3 x.net:=K3.blocks eltMsg (fun b h1 h2=>(hb.block b (by simp; omega)).trans (Below.heap_setCell _ _ _ b (by simp; omega)))
  have K4 : RowsAt 4 LogE w4 (w.heap.size + 3) w4.heap.size (some ⟨x4,0,none⟩) n4 x.past:=hk.wide eltLog (by simp <;> omega) (Nat.le_refl _)
  clear HB0 HB1 HB2 hC hB3 hb hk p4 z2 g3
  have HB0:=hidMk B0
  have HB1:=hidMk B1
  have HB2:=hidMk B2
  obtain ⟨_,_,_,_,_,p5⟩:=B0.c6
  obtain ⟨_,_,_,_,g4,_⟩:=B2.c6
  have z2:=B2.fro
  clear B0 B1 B2
  go_wp2_with fail
  have hC : Below w.heap.size w (w4.setCell ⟨w.heap.size + 1 + 1,4,none⟩ (.slice (some ⟨x4,0,none⟩) n4 n4)):=(hB4.setCell (by simp <;> omega) _)
  refine (toToldS_any _ _ _ _ L U _ (by have:=HH.out.told.len; have:=hs.told; omega) (fun _ _=>trivial) (by have:=hC.size; omega) (HH.out.told.below eltTold hC hU)).mono ?_
  rintro y w5 ⟨⟨x5,rfl,hk⟩,hb⟩
  have hB5 : Below w.heap.size w w5:=hC.trans (hb.mono hC.size)
  have hz5 : w4.heap.size ≤ w5.heap.size:=by have:=hb.size; simp at this; omega
  have B0 : BoxI w5 w.heap.size 46 [.slice a0 n0 c0,.slice a1 n1 c1,.slice a2 n2 c2,.slice a3 n3 c3,.slice a4 n4 c4,.slice a5 n5 c5]:=(HB0.out.other _ _ (by simp <;> omega)).next hb (by have:=hz4; simp <;> omega)
  have B1 : BoxI w5 (w.heap.size + 1) 56 [.slice none 0 0,.slice none 0 0,.slice none 0 0,.slice none 0 0,.slice none 0 0,.slice none 0 0]:=(HB1.out.other _ _ (by simp)).next hb (by have:=HB1.out.lt; simp <;> omega)
  have B2 : BoxI w5 (w.heap.size + 1 + 1) 56 [.slice (some ⟨x0,0,none⟩) n0 n0,.slice (some ⟨x1,0,none⟩) n1 n1,.slice (some ⟨x2,0,none⟩) n2 n2,.slice (some ⟨x3,0,none⟩) n3 n3,.slice (some ⟨x4,0,none⟩) n4 n4,.slice none 0 0]:=(HB2.out.set 4 (.slice (some ⟨x4,0,none⟩) n4 n4)).next hb (by have:=HB2.out.lt; simp <;> omega)
  replace K0 : ObjsAt w5 (w.heap.size + 3) w1.heap.size (some ⟨x0,0,none⟩) n0 x.tree:=K0.blocks_ (fun b h1 h2=>(hb.block b (by simp; omega)).trans (Below.heap_setCell _ _ _ b (by simp; omega)))
  replace K1 : DonesAt w5 (w.heap.size + 3) w1.heap.size (some ⟨x1,0,none⟩) n1 x.dones:=K1.blocks (fun b h1 h2=>(hb.block b (by simp; omega)).trans (Below.heap_setCell _ _ _ b (by simp; omega)))
  replace K2 : RowsAt 7 KeepE w5 (w.heap.size + 3) w2.heap.size (some ⟨x2,0,none⟩) n2 x.keeps:=K2.blocks eltKeep (fun b h1 h2=>(hb.block b (by simp; omega)).trans (Below.heap_setCell _ _ _ b (by simp; omega)))
  replace K3 : RowsAt 9 MsgE w5 (w.heap.size + 3) w3.heap.size (some ⟨x3,0,none⟩) n3 x.net:=K3.blocks eltMsg (fun b h1 h2=>(hb.block b (by simp; omega)).trans (Below.heap_setCell _ _ _ b (by simp; omega)))
  replace K4 : RowsAt 4 LogE w5 (w.heap.size + 3) w4.heap.size (some ⟨x4,0,none⟩) n4 x.past:=K4.blocks eltLog (fun b h1 h2=>(hb.block b (by simp; omega)).trans (Below.heap_setCell _ _ _ b (by simp; omega)))
  have K5 : RowsAt 3 ToldE w5 (w.heap.size + 3) w5.heap.size (some ⟨x5,0,none⟩) n5 x.told:=hk.wide eltTold (by simp <;> omega) (Nat.le_refl _)
  clear HB0 HB1 HB2 hC hB4 hb hk p5 z2 g4
  have HB0:=hidMk B0
  have HB1:=hidMk B1
  have HB2:=hidMk B2
  have hAll : WorldAt w5 (w.heap.size + 3) w5.heap.size (some ⟨x0,0,none⟩) n0 (some ⟨x1,0,none⟩) n1 (some ⟨x2,0,none⟩) n2 (some ⟨x3,0,none⟩) n3 (some ⟨x4,0,none⟩) n4 (some ⟨x5,0,none⟩) n5 x:=⟨K0.wide (Nat.le_refl _) (by omega),K1.wide (Nat.le_refl _) (by omega),K2.wide eltKeep (Nat.le_refl _) (by omega),K3.wide eltMsg (Nat.le_refl _) (by omega),K4.wide eltLog (Nat.le_refl _) (by omega),K5⟩
  clear HB0 HB1 HB2 K0 K1 K2 K3 K4 K5 B0
  obtain ⟨e0,e1,e2,e3,e4,e5⟩:=B1.c6
  obtain ⟨d0,d1,d2,d3,d4,d5⟩:=B2.c6
  have y1:=B1.fro
  have y2:=B2.fro
  clear B1 B2
  go_wp2_with fail
  refine bodyPost_ret (v:=.agg #[.slice (some ⟨x0,0,none⟩) n0 n0,.slice (some ⟨x1,0,none⟩) n1 n1,.slice (some ⟨x2,0,none⟩) n2 n2,.slice (some ⟨x3,0,none⟩) n3 n3,.slice (some ⟨x4,0,none⟩) n4 n4,.slice (some ⟨x5,0,none⟩) n5 n5]) (by simp [results,Tryz.results22,go_sem,e0,e1,e2,e3,e4,e5]) rfl ⟨⟨x0,x1,x2,x3,x4,x5,rfl,?_⟩,?_⟩
  · refine WorldAt.wide (L:=w.heap.size + 3) (U:=w5.heap.size) (hAll.blocks fun b h1 h2=>?_) (by omega) (by simp)
    iterate 7 refine (Below.heap_setCell _ _ _ b (by simp <;> omega)).trans ?_
    rfl
  · iterate 7 refine Below.setCell ?_ (by simp <;> omega) _
    exact hB5
end
section
open Go.RowKit
end
section
open Go.RowKit
set_option maxRecDepth 100000 in
theorem cmpString (a b : ByteArray) (w : World) :
    Calls Tryz.prog 291 #[.string a,.string b] w fun e w'=>e = .returned (.int .i64 (Lib.compareBytes a.data.toList b.data.toList)) ∧ w' = w:=by
  go_enter Tryz.func291,Tryz.ntmps291
  go_wp2
  rw [run_callFunc_extern Tryz.func293 (by kernel_rfl) (by kernel_rfl) (by kernel_rfl) (e:=Extern.BytealgCompare.compare) (by kernel_rfl),Lib.run_compareString]
  simp only [Result.andThen]
  rw [Oper.upon_value]
  go_wp2
  go_ret
  exact ⟨rfl,rfl⟩
theorem compare_any (a b : ByteArray) (w : World) :
    Calls Tryz.prog 288 #[.string a,.string b] w fun e w'=>e = .returned (.int .i64 (Lib.compareBytes a.data.toList b.data.toList)) ∧ w' = w:=by
  go_enter Tryz.func288,Tryz.ntmps288
  go_wp2_with (go_at_call 291; refine (cmpString _ _ _).mono ?_; rintro e w' ⟨rfl,rfl⟩)
  go_ret
  exact ⟨rfl,rfl⟩
theorem closure_any (s : ByteArray) (i : Int) (b : ByteArray) (w : World) :
    Calls Tryz.prog 287 #[.agg #[.string s,.int .i64 i],.string b] w fun e w'=>e = .returned (.int .i64 (Lib.compareBytes s.data.toList b.data.toList)) ∧ w' = w.alloc (.cells #[.string s,.int .i64 i] 247):=by
  go_enter Tryz.func287,Tryz.ntmps287
  go_wp2_with (go_at_call 288; refine (compare_any _ _ _).mono ?_; rintro e w' ⟨rfl,rfl⟩)
  go_ret
  exact ⟨rfl,rfl⟩
theorem cmp_less : ∀ a b : List UInt8,Lib.compareBytes a b < 0 ↔ Op.bytesLess a b = true
  | [],[]=>by simp [Lib.compareBytes,Op.bytesLess]
  | [],_ :: _=>by simp [Lib.compareBytes,Op.bytesLess]
  | _ :: _,[]=>by simp [Lib.compareBytes,Op.bytesLess]
  | a :: x,b :: y=>by
    have ih:=cmp_less x y
    simp only [Lib.compareBytes,Op.bytesLess]
    by_cases h1 : a < b
    · simp [h1]
    · by_cases h2 : b < a
      · have h3 : ¬ a = b:=by intro h; rw [h] at h2; exact absurd h2 (by rw [UInt8.lt_iff_toNat_lt]; omega)
        simp [h1,h2,h3]
      · have h3 : a = b:=by
          rw [UInt8.lt_iff_toNat_lt] at h1 h2
          exact UInt8.toNat_inj.1 (by omega)
        subst h3
        simp [h1,ih]
theorem cmp_zero : ∀ a b : List UInt8,Lib.compareBytes a b = 0 ↔ a = b
  | [],[]=>by simp [Lib.compareBytes]
  | [],_ :: _=>by simp [Lib.compareBytes]
  | _ :: _,[]=>by simp [Lib.compareBytes]
  | a :: x,b :: y=>by
    have ih:=cmp_zero x y
    simp only [Lib.compareBytes]
    by_cases h1 : a < b
    · have h3 : ¬ a = b:=by intro h; rw [h] at h1; exact absurd h1 (by rw [UInt8.lt_iff_toNat_lt]; omega)
      simp [h1,h3]
    · by_cases h2 : b < a
      · have h3 : ¬ a = b:=by intro h; rw [h] at h2; exact absurd h2 (by rw [UInt8.lt_iff_toNat_lt]; omega)
        simp [h1,h2,h3]
      · have h3 : a = b:=by
          rw [UInt8.lt_iff_toNat_lt] at h1 h2
          exact UInt8.toNat_inj.1 (by omega)
        subst h3
        simp [h1,ih]
theorem less_trans : ∀ a b c : List UInt8,Op.bytesLess a b = true → Op.bytesLess b c = true → Op.bytesLess a c = true
  | _,[],_,h,_=>by simp [Op.bytesLess] at h
  | _,_ :: _,[],_,h=>by simp [Op.bytesLess] at h
  | [],_ :: _,_ :: _,_,_=>rfl
  | a :: x,b :: y,c :: z,h,k=>by
    simp only [Op.bytesLess,Bool.or_eq_true,Bool.and_eq_true,decide_eq_true_eq,beq_iff_eq] at h k ⊢
    rcases h with h | ⟨rfl,h⟩
    · rcases k with k | ⟨rfl,k⟩
      · left; rw [UInt8.lt_iff_toNat_lt] at *; omega
      · exact .inl h
    · rcases k with k | ⟨rfl,k⟩
      · exact .inl k
      · exact .inr ⟨rfl,less_trans x y z h k⟩
def nm (e : LEnt) : List UInt8:=e.name.data.toList
def Asc (es : List LEnt) : Prop:=∀ (i j : Nat) x y,i < j → es[i]? = some x → es[j]? = some y → Op.bytesLess (nm x) (nm y) = true
theorem asc_of {es : List LEnt} (h : kidsB es = true) : Asc es:=by
  have hk : ∀ i,i < es.length → kidAt es i = true:=by
    intro i hi
    unfold kidsB at h
    rw [List.all_eq_true] at h
    exact h i (by simpa using hi)
  have hs : ∀ (i : Nat) x y,es[i]? = some x → es[i + 1]? = some y → Op.bytesLess (nm x) (nm y) = true:=by
    intro i x y hx hy
    have h1:=hk (i + 1) (List.getElem?_eq_some_iff.1 hy).1
    have h2 : entB y = true:=by
      apply Classical.byContradiction
      intro hc
      rw [kidAt_ent hy (by simpa using hc)] at h1
      cases h1
    rw [kidAt_succ hy hx h2] at h1
    unfold nameLess at h1
    rwa [ByteArray.toList_eq,ByteArray.toList_eq] at h1
  intro i j
  induction j with
  | zero=>intro x y h; omega
  | succ j ih =>
    intro x y hij hx hy
    by_cases e : i = j
    · subst e
      exact hs i x y hx hy
    · have hj : j < es.length:=by have:=(List.getElem?_eq_some_iff.1 hy).1; omega
      obtain ⟨z,hz⟩ : ∃ z,es[j]? = some z:=⟨es[j],List.getElem?_eq_getElem hj⟩
      exact less_trans _ _ _ (ih x z (by omega) hx hz) (hs j z y hz hy)
def findV (es : List LEnt) (name : ByteArray) : Int:=match es.find? (fun e=>sEq e.name name) with | some e=>e.id | none=>-1
theorem findV_at {es : List LEnt} {k : Nat} {e : LEnt} {name : ByteArray} (he : es[k]? = some e) (h : ∀ i,i < k → ∀ x,es[i]? = some x → x.name ≠ name) (hi : e.name = name) : findV es name = e.id:=by
  unfold findV
  have hk : k < es.length:=(List.getElem?_eq_some_iff.1 he).1
  have e1 : es = es.take k ++ e :: es.drop (k + 1):=by
    have : es[k] = e:=(List.getElem?_eq_some_iff.1 he).2
    rw [← this,← List.drop_eq_getElem_cons hk,List.take_append_drop]
  have e2 : (es.take k).find? (fun e=>sEq e.name name) = none:=by
    rw [List.find?_eq_none]
    intro x hx
    obtain ⟨i,hi'⟩:=List.getElem?_of_mem hx
    have hlt : i < k:=by have:=(List.getElem?_eq_some_iff.1 hi').1; simp at this; omega
    rw [List.getElem?_take_of_lt hlt] at hi'
    exact fun hc=>h i hlt x hi' ((sEq_iff _ _).1 hc)
  conv=>lhs; rw [e1]
  rw [List.find?_append,e2]
  simp [(sEq_iff _ _).2 hi]
theorem findV_none {es : List LEnt} {name : ByteArray} (h : ∀ (i : Nat) x,es[i]? = some x → x.name ≠ name) : findV es name = -1:=by
  unfold findV
  have : es.find? (fun e=>sEq e.name name) = none:=by
    rw [List.find?_eq_none]
    intro x hx
    obtain ⟨i,hi⟩:=List.getElem?_of_mem hx
    exact fun hc=>h i x hi ((sEq_iff _ _).1 hc)
  rw [this]
theorem nm_inj {e : LEnt} {name : ByteArray} (h : nm e = name.data.toList) : e.name = name:=by
  refine (sEq_iff _ _).1 ?_
  unfold sEq
  rw [ByteArray.toList_eq,ByteArray.toList_eq]
  unfold nm at h
  simp [h]
def Low (es : List LEnt) (name : ByteArray) (x : Nat) : Prop:=∀ i,i < x → ∀ e,es[i]? = some e → Lib.compareBytes (nm e) name.data.toList < 0
def High (es : List LEnt) (name : ByteArray) (y : Nat) : Prop:=∀ i,y ≤ i → ∀ e,es[i]? = some e → ¬ Lib.compareBytes (nm e) name.data.toList < 0
theorem low_up {es : List LEnt} (ha : Asc es) {name : ByteArray} {h : Nat} {e : LEnt} (he : es[h]? = some e) (hc : Lib.compareBytes (nm e) name.data.toList < 0) : Low es name (h + 1):=by
  intro i hi x hx
  by_cases e' : i = h
  · subst e'; rw [he] at hx; cases hx; exact hc
  · rw [cmp_less] at hc ⊢
    exact less_trans _ _ _ (ha i h x e (by omega) hx he) hc
theorem high_down {es : List LEnt} (ha : Asc es) {name : ByteArray} {h : Nat} {e : LEnt} (he : es[h]? = some e) (hc : ¬ Lib.compareBytes (nm e) name.data.toList < 0) : High es name h:=by
  intro i hi x hx
  by_cases e' : i = h
  · subst e'; rw [he] at hx; cases hx; exact hc
  · intro hx'
    apply hc
    rw [cmp_less] at hx' ⊢
    exact less_trans _ _ _ (ha h i e x (by omega) he hx) hx'
theorem low_ne {es : List LEnt} {name : ByteArray} {x : Nat} (h : Low es name x) : ∀ i,i < x → ∀ e,es[i]? = some e → e.name ≠ name:=by
  intro i hi e he hn
  have:=h i hi e he
  rw [show nm e = name.data.toList by unfold nm; rw [hn],(cmp_zero _ _).2 rfl] at this
  omega
theorem search_hit {es : List LEnt} {name : ByteArray} {x : Nat} {e : LEnt} (hl : Low es name x) (he : es[x]? = some e) (hc : Lib.compareBytes (nm e) name.data.toList = 0) : findV es name = e.id :=
  findV_at he (low_ne hl) (nm_inj ((cmp_zero _ _).1 hc))
theorem search_miss {es : List LEnt} (ha : Asc es) {name : ByteArray} {x : Nat} {e : LEnt} (hl : Low es name x) (hh : High es name x) (he : es[x]? = some e) (hc : Lib.compareBytes (nm e) name.data.toList ≠ 0) : findV es name = -1:=by
  refine findV_none fun i y hy hn=>?_
  by_cases h1 : i < x
  · exact low_ne hl i h1 y hy hn
  · have hz : nm y = name.data.toList:=by unfold nm; rw [hn]
    by_cases h2 : i = x
    · subst h2; rw [he] at hy; cases hy
      exact hc ((cmp_zero _ _).2 hz)
    · have h3:=ha x i e y (by omega) he hy
      rw [hz,← cmp_less] at h3
      exact hh x (Nat.le_refl _) e he h3
theorem search_end {es : List LEnt} {name : ByteArray} (hl : Low es name es.length) : findV es name = -1 :=
  findV_none fun i y hy=>low_ne hl i (List.getElem?_eq_some_iff.1 hy).1 y hy
def SearchEnd (es : List LEnt) (name : ByteArray) (e : Ending) : Prop:=∃ (x : Nat) (b : Bool),e = .returned (.tuple #[.int .i64 x,.bool b]) ∧ ((b = true ∧ ∃ k,es[x]? = some k ∧ findV es name = k.id) ∨ (b = false ∧ findV es name = -1))
set_option maxHeartbeats 1000000 in
set_option maxRecDepth 100000 in
theorem search_any (a : Option Addr) (n c : Nat) (es : List LEnt) (L U : Nat) (name : ByteArray) (w : World) (hn : n ≤ 1048576) (ha : Asc es) (hU : U ≤ w.heap.size) (H : EntsAt w L U a n es) :
    Calls Tryz.prog 286 #[.slice a n c,.string name,.func (.func 287) #[] #[]] w fun e w'=>SearchEnd es name e ∧ Below w.heap.size w w':=by
  have HL : Hid (n = es.length):=H.len
  go_enter Tryz.func286,Tryz.ntmps286
  go_wp2_with fail
  go_loopg [9,10] (n + 1) (fun g i j wr=>∃ x y : Nat,x ≤ y ∧ y ≤ n ∧ Hid (g = y - x + 1) ∧ i = .int .i64 x ∧ j = .int .i64 y ∧ Hid (Low es name x ∧ High es name y) ∧ Below w.heap.size w wr)
  case atStart=>exact ⟨0,n,by omega,by omega,by show _ = _; omega,rfl,rfl,⟨fun i hi=>by omega,fun i hi e he=>by have:=(List.getElem?_eq_some_iff.1 he).1; have:=HL.out; omega⟩,Below.refl _ _⟩
  case round =>
    obtain ⟨x,y,hxy,hy,hg,rfl,rfl,hq,hb⟩:=hrel
    by_cases hlt : x < y
    · have hlt' : (x : Int) < (y : Int):=by omega
      obtain ⟨h,hh⟩ : ∃ h : Nat,((x : Int) + (y : Int)) / 2 = (h : Int):=⟨(x + y) / 2,by omega⟩
      have hh1 : x ≤ h:=by omega
      have hh2 : h < y:=by omega
      obtain ⟨b,off,ha',hL,hbU,hc⟩:=H.at_ (by omega)
      subst ha'
      obtain ⟨e,he,hsz,hc0,hc1⟩:=hc h (by omega)
      rw [← hb.cell (by simp; omega)] at hc0 hc1
      have HE : Hid (es[h]? = some e):=he
      clear he hc
      have hhn : (h : Int) < (n : Int):=by omega
      have hh0 : (0 : Int) ≤ (h : Int):=by omega
      go_wp2_with fail
      refine (closure_any _ _ _ _).mono ?_
      rintro z w1 ⟨rfl,rfl⟩
      have hb1 : ∀ o,Below w.heap.size w (wr.alloc o):=fun o=>hb.alloc hb.size _
      by_cases hcm : Lib.compareBytes e.name.data.toList name.data.toList < 0
      · have HC : Hid (Lib.compareBytes (nm e) name.data.toList < 0):=hcm
        go_wp2_with fail
        go_roundg (y - (h + 1) + 1)
        case measure=>have:=hg.out; omega
        case rel=>exact ⟨h + 1,y,by omega,by omega,rfl,by go_num,rfl,⟨low_up ha HE.out HC.out,hq.out.2⟩,hb1 _⟩
      · have HC : Hid (¬ Lib.compareBytes (nm e) name.data.toList < 0):=hcm
        go_wp2_with fail
        go_roundg (h - x + 1)
        case measure=>have:=hg.out; omega
        case rel=>exact ⟨x,h,by omega,by omega,rfl,rfl,rfl,⟨hq.out.1,high_down ha HE.out (by have:=HC.out; omega)⟩,hb1 _⟩
    · have hxy' : x = y:=by omega
      subst hxy'
      by_cases hxn : x < n
      · obtain ⟨b,off,ha',hL,hbU,hc⟩:=H.at_ (by omega)
        subst ha'
        obtain ⟨e,he,hsz,hc0,hc1⟩:=hc x hxn
        rw [← hb.cell (by simp; omega)] at hc0 hc1
        have HE : Hid (es[x]? = some e):=he
        clear he hc
        have hxn' : (x : Int) < (n : Int):=by omega
        have hx0 : (0 : Int) ≤ (x : Int):=by omega
        have hb1 : ∀ o,Below w.heap.size w (wr.alloc o):=fun o=>hb.alloc hb.size _
        go_wp2_with fail
        refine (closure_any _ _ _ _).mono ?_
        rintro z w1 ⟨rfl,rfl⟩
        by_cases hcm : Lib.compareBytes e.name.data.toList name.data.toList = 0
        · have HC : Hid (Lib.compareBytes (nm e) name.data.toList = 0):=hcm
          have t1 : (Lib.compareBytes e.name.data.toList name.data.toList == 0) = true:=by simpa using hcm
          clear hcm
          go_wp2_with fail
          go_ret2
          exact ⟨⟨x,true,rfl,.inl ⟨rfl,e,HE.out,search_hit hq.out.1 HE.out HC.out⟩⟩,hb1 _⟩
        · have HC : Hid (Lib.compareBytes (nm e) name.data.toList ≠ 0):=hcm
          have t1 : (Lib.compareBytes e.name.data.toList name.data.toList == 0) = false:=by simpa using hcm
          clear hcm
          go_wp2_with fail
          go_ret2
          exact ⟨⟨x,false,rfl,.inr ⟨rfl,search_miss ha hq.out.1 hq.out.2 HE.out HC.out⟩⟩,hb1 _⟩
      · have hxn' : ¬ (x : Int) < (n : Int):=by omega
        have HN : Hid (findV es name = -1):=by
          show _ = _
          refine search_end ?_
          have : es.length = x:=by have:=HL.out; omega
          rw [this]
          exact hq.out.1
        go_wp2_with fail
        go_ret2
        exact ⟨⟨x,false,rfl,.inr ⟨rfl,HN.out⟩⟩,hb⟩
set_option maxHeartbeats 400000 in
theorem place_any (a : Option Addr) (n c : Nat) (es : List LEnt) (L U : Nat) (name : ByteArray) (w : World) (hn : n ≤ 1048576) (ha : Asc es) (hU : U ≤ w.heap.size) (H : EntsAt w L U a n es) :
    Calls Tryz.prog 284 #[.slice a n c,.string name] w fun e w'=>SearchEnd es name e ∧ Below w.heap.size w w':=by
  go_enter Tryz.func284,Tryz.ntmps284
  go_wp2_with fail
  refine (search_any _ _ _ _ L U _ _ hn ha hU H).mono ?_
  rintro z w1 ⟨⟨x,b,rfl,hr⟩,hb⟩
  have HR : Hid ((b = true ∧ ∃ k,es[x]? = some k ∧ findV es name = k.id) ∨ (b = false ∧ findV es name = -1)):=hr
  clear hr
  go_wp2_with fail
  go_ret2
  exact ⟨⟨x,b,rfl,HR.out⟩,hb⟩
set_option maxHeartbeats 400000 in
theorem findKid_any (a : Option Addr) (n c : Nat) (es : List LEnt) (L U : Nat) (name : ByteArray) (w : World) (hn : n ≤ 1048576) (ha : Asc es) (hU : U ≤ w.heap.size) (H : EntsAt w L U a n es) :
    Calls Tryz.prog 283 #[.slice a n c,.string name] w fun e w'=>e = .returned (.int .i64 (findV es name)) ∧ Below w.heap.size w w':=by
  go_enter Tryz.func283,Tryz.ntmps283
  go_wp2_with fail
  refine (place_any _ _ _ _ L U _ _ hn ha hU H).mono ?_
  rintro z w1 ⟨⟨x,b,rfl,hr⟩,hb⟩
  rcases hr with ⟨rfl,k,hk,hv⟩ | ⟨rfl,hv⟩
  · have hx : x < n:=by rw [H.len]; exact (List.getElem?_eq_some_iff.1 hk).1
    obtain ⟨b,off,ha',hL,hbU,hc⟩:=H.at_ (by omega)
    subst ha'
    obtain ⟨e,he,hsz,hc0,hc1⟩:=hc x hx
    rw [hk] at he
    cases he
    rw [← hb.cell (by simp; omega)] at hc1
    have HV : Hid (findV es name = k.id):=hv
    clear hv hk hc hc0
    have hx0 : (0 : Int) ≤ (x : Int):=by omega
    have hx1 : (x : Int) < (n : Int):=by omega
    go_wp2_with fail
    go_ret
    exact ⟨ret_int HV.out.symm,hb⟩
  · have HV : Hid (findV es name = -1):=hv
    clear hv
    go_wp2_with fail
    go_ret
    exact ⟨ret_int HV.out.symm,hb⟩
set_option maxHeartbeats 400000 in
theorem l1Find_any (a : Option Addr) (n c : Nat) (es : List LEnt) (L U : Nat) (name : ByteArray) (w : World) (H : EntsAt w L U a n es) :
    Calls Tryz.prog 208 #[.slice a n c,.string name] w fun e w'=>e = .returned (.int .i64 (findV es name)) ∧ w' = w:=by
  have hbd:=H.bd
  unfold maxLen at hbd
  go_enter Tryz.func208,Tryz.ntmps208
  go_wp2_with fail
  go_loopg [5] n (fun g i wr=>∃ j : Nat,j ≤ n ∧ Hid (g = n - j) ∧ i = .int .i64 j ∧ Hid (∀ i,i < j → ∀ x,es[i]? = some x → x.name ≠ name) ∧ wr = w)
  case atStart=>exact ⟨0,Nat.zero_le _,by show _ = _; omega,rfl,fun i hi=>by omega,rfl⟩
  case round =>
    obtain ⟨j,hj,hk,rfl,hq,rfl⟩:=hrel
    by_cases hlt : j < n
    · obtain ⟨b,off,ha,hL,hbU,hc⟩:=H.at_ (by omega)
      subst ha
      obtain ⟨e,he,hsz,hc0,hc1⟩:=hc j hlt
      have HE : Hid (es[j]? = some e):=he
      clear he hc
      cases hid : sEq e.name name
      · have t1 : (e.name.toList == name.toList) = false:=hid
        have HI : Hid (e.name ≠ name):=fun hc=>by rw [(sEq_iff _ _).2 hc] at hid; cases hid
        clear hid
        go_wp2_with fail
        go_roundg (n - (j + 1))
        case measure=>have:=hk.out; omega
        case rel =>
          refine ⟨j + 1,by omega,rfl,by go_num,fun i hi x hx=>?_,rfl⟩
          by_cases ee : i = j
          · subst ee
            rw [HE.out] at hx
            cases hx
            exact HI.out
          · exact hq.out i (by omega) x hx
      · have t1 : (e.name.toList == name.toList) = true:=hid
        have HI : Hid (e.name = name):=(sEq_iff _ _).1 hid
        clear hid
        go_wp2_with fail
        go_ret
        exact ⟨ret_int (findV_at HE.out hq.out HI.out).symm,rfl⟩
    · go_wp2_with fail
      go_ret
      exact ⟨ret_int (findV_none (fun i x hx=>hq.out i (by have:=(List.getElem?_eq_some_iff.1 hx).1; have:=H.len; omega) x hx)).symm,rfl⟩
end
end Go.Proofs.YtloopeipheklpaaGreatDoor
