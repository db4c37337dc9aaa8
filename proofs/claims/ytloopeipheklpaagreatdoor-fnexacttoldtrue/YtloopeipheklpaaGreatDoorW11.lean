/- Lemmas that the proofs of this seat share: MsgA2, WldBase, WldA. -/
import Derived.Test.YtloopeipheklpaaGreatDoorW06
import Derived.Test.YtloopeipheklpaaGreatDoorW09
import Derived.Test.YtloopeipheklpaaGreatDoorW10
import Derived.Deep.Strs
import Derived.Lib.SmallJoins
namespace Go.Proofs.YtloopeipheklpaaGreatDoor
section
open Go.RowKit
end
section
open Go.RowKit Go.ChangeShapes Go.WideShapes
structure MsgAt (w : World) (L U : Nat) (q s : Int) (ba : Option Addr) (bn : Nat) (oa : Option Addr) (on : Nat) (ta : Option Addr) (tn : Nat) (l : LLog) (os : List LObj) : Prop where
  log : LogAt w L U q s ba bn oa on l
  tree : ObjsAt w L U ta tn os
theorem MsgAt.below {w w' : World} {L U B : Nat} {q s : Int} {ba oa ta : Option Addr} {bn on tn : Nat} {l : LLog} {os : List LObj} (h : MsgAt w L U q s ba bn oa on ta tn l os) (hb : Below B w w') (hU : U ≤ B) : MsgAt w' L U q s ba bn oa on ta tn l os:=⟨h.log.below hb hU,h.tree.below hb hU⟩
theorem MsgAt.wide {w : World} {L U L' U' : Nat} {q s : Int} {ba oa ta : Option Addr} {bn on tn : Nat} {l : LLog} {os : List LObj} (h : MsgAt w L U q s ba bn oa on ta tn l os) (hL : L' ≤ L) (hU : U ≤ U') : MsgAt w L' U' q s ba bn oa on ta tn l os:=⟨h.log.wide hL hU,h.tree.wide hL hU⟩
theorem LogAt.blocks_ {w w' : World} {L U : Nat} {q s : Int} {a a' : Option Addr} {n n' : Nat} {l : LLog} (h : LogAt w L U q s a n a' n' l) (hb : ∀ b,L ≤ b → b < U → w'.heap[b]? = w.heap[b]?) : LogAt w' L U q s a n a' n' l:=⟨h.q,h.s,h.b.blocks hb,h.o.blocks hb⟩
structure MBox (W : World) (p : Nat) (k who seq q s : Int) (ba : Option Addr) (bn bc : Nat) (oa : Option Addr) (on oc : Nat) (code : Int) (ta : Option Addr) (tn tc : Nat) : Prop where
  c0 : W.cell? ⟨p,0,none⟩ = some (.int .i64 k)
  c1 : W.cell? ⟨p,1,none⟩ = some (.int .i64 who)
  c2 : W.cell? ⟨p,2,none⟩ = some (.int .i64 seq)
  c3 : W.cell? ⟨p,3,none⟩ = some (.int .i64 q)
  c4 : W.cell? ⟨p,4,none⟩ = some (.int .i64 s)
  c5 : W.cell? ⟨p,5,none⟩ = some (.slice ba bn bc)
  c6 : W.cell? ⟨p,6,none⟩ = some (.slice oa on oc)
  c7 : W.cell? ⟨p,7,none⟩ = some (.int .i64 code)
  c8 : W.cell? ⟨p,8,none⟩ = some (.slice ta tn tc)
theorem MBox.of {W W' : World} {p : Nat} {k who seq q s : Int} {ba : Option Addr} {bn bc : Nat} {oa : Option Addr} {on oc : Nat} {code : Int} {ta : Option Addr} {tn tc : Nat} (h : MBox W p k who seq q s ba bn bc oa on oc code ta tn tc) (hb : W'.heap[p]? = W.heap[p]?) : MBox W' p k who seq q s ba bn bc oa on oc code ta tn tc:=by
  have hc : ∀ j,W'.cell? ⟨p,j,none⟩ = W.cell? ⟨p,j,none⟩:=fun j=>World.cell?_of_block (w:=W) hb
  exact ⟨by rw [hc]; exact h.c0,by rw [hc]; exact h.c1,by rw [hc]; exact h.c2,by rw [hc]; exact h.c3,by rw [hc]; exact h.c4,by rw [hc]; exact h.c5,by rw [hc]; exact h.c6,by rw [hc]; exact h.c7,by rw [hc]; exact h.c8⟩
structure HeldM (w wx : World) (p : Nat) (k who seq q s : Int) (ba : Option Addr) (bn bc : Nat) (oa : Option Addr) (on oc : Nat) (code : Int) (ta : Option Addr) (tn tc : Nat) : Prop where
  below : Below w.heap.size w wx
  box : MBox wx p k who seq q s ba bn bc oa on oc code ta tn tc
  lo : w.heap.size ≤ p
  hi : p < wx.heap.size
theorem HeldM.next {w wx wy : World} {p : Nat} {k who seq q s : Int} {ba : Option Addr} {bn bc : Nat} {oa : Option Addr} {on oc : Nat} {code : Int} {ta : Option Addr} {tn tc : Nat} (h : HeldM w wx p k who seq q s ba bn bc oa on oc code ta tn tc) (hb : Below wx.heap.size wx wy) : HeldM w wy p k who seq q s ba bn bc oa on oc code ta tn tc :=
  ⟨h.below.trans (hb.mono h.below.size),h.box.of (hb.block _ h.hi),h.lo,by have:=hb.size; have:=h.hi; omega⟩
theorem HeldM.new (w : World) (k who seq q s : Int) (ba : Option Addr) (bn bc : Nat) (oa : Option Addr) (on oc : Nat) (code : Int) (ta : Option Addr) (tn tc : Nat) (t : TypeId) : HeldM w (w.alloc (Obj.cells #[.int .i64 k,.int .i64 who,.int .i64 seq,.int .i64 q,.int .i64 s,.slice ba bn bc,.slice oa on oc,.int .i64 code,.slice ta tn tc] t)) w.heap.size k who seq q s ba bn bc oa on oc code ta tn tc :=
  ⟨(Below.refl _ _).alloc (Nat.le_refl _) _,⟨by simp [go_sem],by simp [go_sem],by simp [go_sem],by simp [go_sem],by simp [go_sem],by simp [go_sem],by simp [go_sem],by simp [go_sem],by simp [go_sem]⟩,Nat.le_refl _,by simp⟩
theorem HeldM.drew {w wx : World} {p : Nat} {k who seq q s : Int} {ba : Option Addr} {bn bc : Nat} {oa : Option Addr} {on oc : Nat} {code : Int} {ta : Option Addr} {tn tc : Nat} (h : HeldM w wx p k who seq q s ba bn bc oa on oc code ta tn tc) : HeldM w wx.drew p k who seq q s ba bn bc oa on oc code ta tn tc:=h.next (Below.refl _ _).drew
section
variable {H : Type} {enc : TypeId × Value → H} {w : World} {spare : Nat → Bool} {held : Bool}
theorem trod_struct6 {P : Program} {base : Nat} {t : TypeId} {f0 f1 f2 f3 f4 f5 : Field} {fuel : Nat} {cs : List Value} {x : DataW H × List MemPlace} (ht : P.underlying t = some (.struct #[f0,f1,f2,f3,f4,f5])) (h : DataW.trod enc P w base spare held fuel t cs = some x) :
    ∃ y0 y1 y2 y3 y4 y5 n,DataW.trod enc P w base spare held n f0.type ((cs.drop f0.offset).take (P.cellsOf f0.type)) = some y0 ∧ DataW.trod enc P w base spare held n f1.type ((cs.drop f1.offset).take (P.cellsOf f1.type)) = some y1 ∧ DataW.trod enc P w base spare held n f2.type ((cs.drop f2.offset).take (P.cellsOf f2.type)) = some y2 ∧ DataW.trod enc P w base spare held n f3.type ((cs.drop f3.offset).take (P.cellsOf f3.type)) = some y3 ∧ DataW.trod enc P w base spare held n f4.type ((cs.drop f4.offset).take (P.cellsOf f4.type)) = some y4 ∧ DataW.trod enc P w base spare held n f5.type ((cs.drop f5.offset).take (P.cellsOf f5.type)) = some y5:=by
  obtain ⟨xs,n,_,rfl,hl,hlen,hf⟩:=DataW.trod_struct ht h
  match xs,hlen with
  | [y0,y1,y2,y3,y4,y5],_=>exact ⟨y0,y1,y2,y3,y4,y5,n,by simpa using hf 0 f0 rfl,by simpa using hf 1 f1 rfl,by simpa using hf 2 f2 rfl,by simpa using hf 3 f3 rfl,by simpa using hf 4 f4 rfl,by simpa using hf 5 f5 rfl⟩
theorem open_log_cells {fuel : Nat} {v0 v1 v2 v3 : Value} {x : DataW H × List MemPlace} (h : DataW.trod enc Tryz.prog w 0 spare held fuel 80 [v0,v1,v2,v3] = some x) :
    ∃ q s a n c a' n' c' l,v0 = .int .i64 q ∧ v1 = .int .i64 s ∧ v2 = .slice a n c ∧ v3 = .slice a' n' c' ∧ LogAt w 0 w.heap.size q s a n a' n' l:=by
  have c3 : Tryz.prog.cellsOf 3 = 1:=by kernel_rfl
  have c22 : Tryz.prog.cellsOf 78 = 1:=by kernel_rfl
  have c23 : Tryz.prog.cellsOf 60 = 1:=by kernel_rfl
  obtain ⟨y0,y1,y2,y3,n',_,_,t0,t1,t2,t3⟩:=Go.Joins.trod_struct4 Tryz.underlying80 h
  simp [c3,c22,c23] at t0 t1 t2 t3
  obtain ⟨k,e0,_,_⟩:=DataW.trod_int Tryz.underlying3 t0
  obtain ⟨vr,e1,_,_⟩:=DataW.trod_int Tryz.underlying3 t1
  obtain ⟨ba,bn,bc,bs,e2,hB⟩:=open_bases t2
  obtain ⟨oa,on,oc,ops,e3,hO⟩:=open_ops_at t3
  simp at e0 e1
  exact ⟨k,vr,ba,bn,bc,oa,on,oc,⟨k,vr,bs,ops⟩,e0,e1,e2,e3,rfl,rfl,hB,hO⟩
end
def MsgSz (bn on tn : Nat) (os : List LObj) : Prop:=bn ≤ 1048576 ∧ on ≤ 1048576 ∧ tn ≤ 1048576 ∧ Sizes os 1048576
theorem szMsg_any (k who seq q s : Int) (ba : Option Addr) (bn bc : Nat) (oa : Option Addr) (on oc : Nat) (code : Int) (ta : Option Addr) (tn tc : Nat) (l : LLog) (os : List LObj) (L U : Nat) (left : Int) (w : World) (h0 : 0 ≤ left) (h1 : left ≤ 1048576) (hU : U ≤ w.heap.size) (H : MsgAt w L U q s ba bn oa on ta tn l os) :
    Calls Tryz.prog 127 #[.agg #[.int .i64 k,.int .i64 who,.int .i64 seq,.int .i64 q,.int .i64 s,.slice ba bn bc,.slice oa on oc,.int .i64 code,.slice ta tn tc],.int .i64 left] w fun e w'=>(∃ r : Int,e = .returned (.int .i64 r) ∧ (r = -1 ∨ (0 ≤ r ∧ r = left - bn - on - totOps l.list - tn - totT os))) ∧ Below w.heap.size w w':=by
  have HL:=H.log
  have HO:=H.tree
  clear H
  have hM:=HeldM.new w k who seq q s ba bn bc oa on oc code ta tn tc 189
  go_enter Tryz.func127,Tryz.ntmps127
  go_wp2_with fail
  refine (szLog_any _ _ _ _ _ _ _ _ l L U _ _ h0 h1 (by have:=hM.below.size; omega) (HL.below hM.below hU)).mono ?_
  rintro x w1 ⟨⟨r,rfl,hr⟩,hb⟩
  have HR : Hid (r = -1 ∨ 0 ≤ r ∧ r = left - bn - on - totOps l.list):=hr
  clear hr
  have h1':=hM.next hb
  have e8:=h1'.box.c8
  clear hM hb
  by_cases hneg : r < 0
  · go_wp2_with fail
    go_ret
    exact ⟨⟨-1,rfl,.inl rfl⟩,h1'.below⟩
  · go_wp2_with fail
    refine (szTree_any _ _ _ os L U _ _ (by omega) (by have:=HR.out; omega) (by have:=h1'.below.size; omega) (HO.below h1'.below hU)).mono ?_
    rintro x w2 ⟨⟨r2,rfl,hr2⟩,hb2⟩
    have HR2 : Hid (r2 = -1 ∨ 0 ≤ r2 ∧ r2 = r - tn - totT os):=hr2
    clear hr2
    have h2:=h1'.next hb2
    by_cases hneg2 : r2 < 0
    · go_wp2_with fail
      go_ret
      exact ⟨⟨-1,rfl,.inl rfl⟩,h2.below⟩
    · go_wp2_with fail
      go_ret
      exact ⟨⟨r2,rfl,by have:=HR.out; have:=HR2.out; omega⟩,h2.below⟩
set_option maxHeartbeats 2000000 in
theorem toMsg_any (k who seq q s : Int) (ba : Option Addr) (bn bc : Nat) (oa : Option Addr) (on oc : Nat) (code : Int) (ta : Option Addr) (tn tc : Nat) (l : LLog) (os : List LObj) (L U : Nat) (w : World) (hs : MsgSz bn on tn os) (hU : U ≤ w.heap.size) (H : MsgAt w L U q s ba bn oa on ta tn l os) :
    Calls Tryz.prog 130 #[.agg #[.int .i64 k,.int .i64 who,.int .i64 seq,.int .i64 q,.int .i64 s,.slice ba bn bc,.slice oa on oc,.int .i64 code,.slice ta tn tc]] w fun e w'=>(∃ b b' b'',e = .returned (.agg #[.int .i64 k,.int .i64 who,.int .i64 seq,.int .i64 q,.int .i64 s,.slice (some ⟨b,0,none⟩) bn bn,.slice (some ⟨b',0,none⟩) on on,.int .i64 code,.slice (some ⟨b'',0,none⟩) tn tn]) ∧ MsgAt w' w.heap.size w'.heap.size q s (some ⟨b,0,none⟩) bn (some ⟨b',0,none⟩) on (some ⟨b'',0,none⟩) tn l os) ∧ Below w.heap.size w w':=by
  have HL:=H.log
  have HO:=H.tree
  clear H
  have hA : ∀ o1 o2 o3 : Obj,Below w.heap.size w (((w.alloc o1).alloc o2).alloc o3):=fun o1 o2 o3=>(((Below.refl _ _).alloc (Nat.le_refl _) _).alloc (by simp) _).alloc (by simp <;> omega) _
  go_enter Tryz.func130,Tryz.ntmps130
  go_wp2_with fail
  refine (toLog_any _ _ _ _ _ _ _ _ l L U _ hs.1 hs.2.1 (by simp <;> omega) (HL.below (hA _ _ _) hU)).mono ?_
  rintro x w1 ⟨⟨b,b',rfl,hk⟩,hb⟩
  have hz : w.heap.size + 3 ≤ w1.heap.size:=by have:=hb.size; simp at this; omega
  have hb0 : Below w.heap.size w w1:=(hA _ _ _).trans (hb.mono (by simp <;> omega))
  have hk1 : LogAt w1 (w.heap.size + 3) w1.heap.size q s (some ⟨b,0,none⟩) bn (some ⟨b',0,none⟩) on l:=hk.wide (by simp) (Nat.le_refl _)
  obtain ⟨hc,hf⟩:=bcell hb
  have p7 : w1.cell? ⟨w.heap.size,7,none⟩ = some (.int .i64 code):=by rw [hc _ _ (by simp <;> omega)]; simp [go_sem]
  have p8 : w1.cell? ⟨w.heap.size,8,none⟩ = some (.slice ta tn tc):=by rw [hc _ _ (by simp <;> omega)]; simp [go_sem]
  have r0 : w1.cell? ⟨w.heap.size + 1,0,none⟩ = some (.int .i64 0):=by rw [hc _ _ (by simp <;> omega)]; simp [go_sem]
  have r1 : w1.cell? ⟨w.heap.size + 1,1,none⟩ = some (.int .i64 0):=by rw [hc _ _ (by simp <;> omega)]; simp [go_sem]
  have r2 : w1.cell? ⟨w.heap.size + 1,2,none⟩ = some (.int .i64 0):=by rw [hc _ _ (by simp <;> omega)]; simp [go_sem]
  have r3 : w1.cell? ⟨w.heap.size + 1,3,none⟩ = some (.int .i64 0):=by rw [hc _ _ (by simp <;> omega)]; simp [go_sem]
  have r4 : w1.cell? ⟨w.heap.size + 1,4,none⟩ = some (.int .i64 0):=by rw [hc _ _ (by simp <;> omega)]; simp [go_sem]
  have r5 : w1.cell? ⟨w.heap.size + 1,5,none⟩ = some (.slice none 0 0):=by rw [hc _ _ (by simp <;> omega)]; simp [go_sem]
  have r6 : w1.cell? ⟨w.heap.size + 1,6,none⟩ = some (.slice none 0 0):=by rw [hc _ _ (by simp <;> omega)]; simp [go_sem]
  have r7 : w1.cell? ⟨w.heap.size + 1,7,none⟩ = some (.int .i64 0):=by rw [hc _ _ (by simp <;> omega)]; simp [go_sem]
  have r8 : w1.cell? ⟨w.heap.size + 1,8,none⟩ = some (.slice none 0 0):=by rw [hc _ _ (by simp <;> omega)]; simp [go_sem]
  have q0 : w1.cell? ⟨w.heap.size + 1 + 1,0,none⟩ = some (.int .i64 k):=by rw [hc _ _ (by simp)]; simp [go_sem]
  have q1 : w1.cell? ⟨w.heap.size + 1 + 1,1,none⟩ = some (.int .i64 who):=by rw [hc _ _ (by simp)]; simp [go_sem]
  have q2 : w1.cell? ⟨w.heap.size + 1 + 1,2,none⟩ = some (.int .i64 seq):=by rw [hc _ _ (by simp)]; simp [go_sem]
  have q3 : w1.cell? ⟨w.heap.size + 1 + 1,3,none⟩ = some (.int .i64 0):=by rw [hc _ _ (by simp)]; simp [go_sem]
  have q4 : w1.cell? ⟨w.heap.size + 1 + 1,4,none⟩ = some (.int .i64 0):=by rw [hc _ _ (by simp)]; simp [go_sem]
  have q5 : w1.cell? ⟨w.heap.size + 1 + 1,5,none⟩ = some (.slice none 0 0):=by rw [hc _ _ (by simp)]; simp [go_sem]
  have q6 : w1.cell? ⟨w.heap.size + 1 + 1,6,none⟩ = some (.slice none 0 0):=by rw [hc _ _ (by simp)]; simp [go_sem]
  have q7 : w1.cell? ⟨w.heap.size + 1 + 1,7,none⟩ = some (.int .i64 0):=by rw [hc _ _ (by simp)]; simp [go_sem]
  have q8 : w1.cell? ⟨w.heap.size + 1 + 1,8,none⟩ = some (.slice none 0 0):=by rw [hc _ _ (by simp)]; simp [go_sem]
  have y1 : ∀ o,w1.frozen? ⟨w.heap.size + 1,o,none⟩ = false:=fun o=>by rw [hf _ _ (by simp <;> omega)]; simp [go_sem]
  have y2 : ∀ o,w1.frozen? ⟨w.heap.size + 1 + 1,o,none⟩ = false:=fun o=>by rw [hf _ _ (by simp)]; simp [go_sem]
  clear hc hf hb hk
  go_wp2_with fail
  refine (toTree_any _ _ _ os L U _ hs.2.2.1 hs.2.2.2 (by simp <;> omega) (HO.below (((((hb0.setCell (by simp <;> omega) _).setCell (by simp <;> omega) _).setCell (by simp <;> omega) _).setCell (by simp <;> omega) _).setCell (by simp <;> omega) _) hU)).mono ?_
  rintro x w2 ⟨⟨b'',rfl,hk2⟩,hb2⟩
  obtain ⟨hc,hf⟩:=bcell hb2
  have hz2 : w1.heap.size ≤ w2.heap.size:=by have:=hb2.size; simp at this; omega
  have e0:=hc (w.heap.size + 1) 0 (by simp <;> omega)
  have e1:=hc (w.heap.size + 1) 1 (by simp <;> omega)
  have e2:=hc (w.heap.size + 1) 2 (by simp <;> omega)
  have e3:=hc (w.heap.size + 1) 3 (by simp <;> omega)
  have e4:=hc (w.heap.size + 1) 4 (by simp <;> omega)
  have e5:=hc (w.heap.size + 1) 5 (by simp <;> omega)
  have e6:=hc (w.heap.size + 1) 6 (by simp <;> omega)
  have e7:=hc (w.heap.size + 1) 7 (by simp <;> omega)
  have e8:=hc (w.heap.size + 1) 8 (by simp <;> omega)
  have d0:=hc (w.heap.size + 1 + 1) 0 (by simp <;> omega)
  have d1:=hc (w.heap.size + 1 + 1) 1 (by simp <;> omega)
  have d2:=hc (w.heap.size + 1 + 1) 2 (by simp <;> omega)
  have d3:=hc (w.heap.size + 1 + 1) 3 (by simp <;> omega)
  have d4:=hc (w.heap.size + 1 + 1) 4 (by simp <;> omega)
  have d5:=hc (w.heap.size + 1 + 1) 5 (by simp <;> omega)
  have d6:=hc (w.heap.size + 1 + 1) 6 (by simp <;> omega)
  have d7:=hc (w.heap.size + 1 + 1) 7 (by simp <;> omega)
  have d8:=hc (w.heap.size + 1 + 1) 8 (by simp <;> omega)
  have x1 : ∀ o,w2.frozen? ⟨w.heap.size + 1,o,none⟩ = false:=fun o=>by rw [hf _ _ (by simp <;> omega)]; simp [go_sem,y1]
  have x2 : ∀ o,w2.frozen? ⟨w.heap.size + 1 + 1,o,none⟩ = false:=fun o=>by rw [hf _ _ (by simp <;> omega)]; simp [go_sem,y2]
  simp [go_sem,r0,r1,r2,r3,r4,r5,r6,r7,r8,q0,q1,q2,q3,q4,q5,q6,q7,q8] at e0 e1 e2 e3 e4 e5 e6 e7 e8 d0 d1 d2 d3 d4 d5 d6 d7 d8
  have hb3 : Below w.heap.size w w2:=(((((hb0.setCell (p:=⟨w.heap.size + 1 + 1,3,none⟩) (by simp <;> omega) (.int .i64 q)).setCell (p:=⟨w.heap.size + 1 + 1,4,none⟩) (by simp <;> omega) (.int .i64 s)).setCell (p:=⟨w.heap.size + 1 + 1,5,none⟩) (by simp <;> omega) (.slice (some ⟨b,0,none⟩) bn bn)).setCell (p:=⟨w.heap.size + 1 + 1,6,none⟩) (by simp <;> omega) (.slice (some ⟨b',0,none⟩) on on)).setCell (p:=⟨w.heap.size + 1 + 1,7,none⟩) (by simp <;> omega) (.int .i64 code)).trans (hb2.mono (by simp <;> omega))
  have hk3 : LogAt w2 (w.heap.size + 3) w1.heap.size q s (some ⟨b,0,none⟩) bn (some ⟨b',0,none⟩) on l:=hk1.blocks_ fun k h1 h2=>by
    rw [hb2.block k (by simp <;> omega)]
    iterate 5 refine (Below.heap_setCell _ _ _ k (by simp <;> omega)).trans ?_
    rfl
  have hk4 : ObjsAt w2 (w.heap.size + 3) w2.heap.size (some ⟨b'',0,none⟩) tn os:=hk2.wide (by simp <;> omega) (Nat.le_refl _)
  clear hc hf hb2 hk1 hk2 p7 p8 r0 r1 r2 r3 r4 r5 r6 r7 r8 q0 q1 q2 q3 q4 q5 q6 q7 q8 y1 y2
  go_wp2_with fail
  refine bodyPost_ret (v:=.agg #[.int .i64 k,.int .i64 who,.int .i64 seq,.int .i64 q,.int .i64 s,.slice (some ⟨b,0,none⟩) bn bn,.slice (some ⟨b',0,none⟩) on on,.int .i64 code,.slice (some ⟨b'',0,none⟩) tn tn]) (by simp [results,Tryz.results130,go_sem,e0,e1,e2,e3,e4,e5,e6,e7,e8]) rfl ⟨⟨b,b',b'',rfl,?_,?_⟩,?_⟩
  · refine LogAt.wide (L:=w.heap.size + 3) (U:=w1.heap.size) ?_ (by omega) (by simp <;> omega)
    refine hk3.blocks_ fun k h1 h2=>?_
    iterate 10 refine (Below.heap_setCell _ _ _ k (by simp <;> omega)).trans ?_
    rfl
  · refine ObjsAt.wide (L:=w.heap.size + 3) (U:=w2.heap.size) ?_ (by omega) (by simp)
    refine hk4.blocks_ fun k h1 h2=>?_
    iterate 10 refine (Below.heap_setCell _ _ _ k (by simp <;> omega)).trans ?_
    rfl
  · iterate 10 refine Below.setCell ?_ (by simp <;> omega) _
    exact hb3
set_option maxHeartbeats 2000000 in
theorem eqMsg_same (k who seq q s : Int) (ba : Option Addr) (bn bc : Nat) (oa : Option Addr) (on oc : Nat) (code : Int) (ta : Option Addr) (tn tc : Nat) (ba2 : Option Addr) (bc2 : Nat) (oa2 : Option Addr) (oc2 : Nat) (ta2 : Option Addr) (tc2 : Nat) (l : LLog) (os : List LObj) (L U L' U' : Nat) (w : World) (hU : U ≤ w.heap.size) (hU' : U' ≤ w.heap.size) (H : MsgAt w L U q s ba bn oa on ta tn l os) (H' : MsgAt w L' U' q s ba2 bn oa2 on ta2 tn l os) :
    Calls Tryz.prog 136 #[.agg #[.int .i64 k,.int .i64 who,.int .i64 seq,.int .i64 q,.int .i64 s,.slice ba bn bc,.slice oa on oc,.int .i64 code,.slice ta tn tc],.agg #[.int .i64 k,.int .i64 who,.int .i64 seq,.int .i64 q,.int .i64 s,.slice ba2 bn bc2,.slice oa2 on oc2,.int .i64 code,.slice ta2 tn tc2]] w fun e w'=>e = .returned (.bool true) ∧ Below w.heap.size w w':=by
  have hM : HeldM w ((w.alloc (Obj.cells #[.int .i64 k,.int .i64 who,.int .i64 seq,.int .i64 q,.int .i64 s,.slice ba bn bc,.slice oa on oc,.int .i64 code,.slice ta tn tc] 156)).alloc (Obj.cells #[.int .i64 k,.int .i64 who,.int .i64 seq,.int .i64 q,.int .i64 s,.slice ba2 bn bc2,.slice oa2 on oc2,.int .i64 code,.slice ta2 tn tc2] 156)) w.heap.size k who seq q s ba bn bc oa on oc code ta tn tc:=(HeldM.new w k who seq q s ba bn bc oa on oc code ta tn tc 156).next ((Below.refl _ _).alloc (Nat.le_refl _) _)
  have hN : HeldM w ((w.alloc (Obj.cells #[.int .i64 k,.int .i64 who,.int .i64 seq,.int .i64 q,.int .i64 s,.slice ba bn bc,.slice oa on oc,.int .i64 code,.slice ta tn tc] 156)).alloc (Obj.cells #[.int .i64 k,.int .i64 who,.int .i64 seq,.int .i64 q,.int .i64 s,.slice ba2 bn bc2,.slice oa2 on oc2,.int .i64 code,.slice ta2 tn tc2] 156)) (w.heap.size + 1) k who seq q s ba2 bn bc2 oa2 on oc2 code ta2 tn tc2 :=
    ⟨hM.below,⟨by simp [go_sem],by simp [go_sem],by simp [go_sem],by simp [go_sem],by simp [go_sem],by simp [go_sem],by simp [go_sem],by simp [go_sem],by simp [go_sem]⟩,by omega,by simp⟩
  go_enter Tryz.func136,Tryz.ntmps136
  go_wp2_with fail
  refine (eqLog_same _ _ _ _ _ _ _ _ _ _ _ _ l L U L' U' _ (by have:=hM.below.size; omega) (by have:=hM.below.size; omega) (H.log.below hM.below hU) (H'.log.below hM.below hU')).mono ?_
  rintro x w1 ⟨rfl,hb1⟩
  have h1:=hM.next hb1
  have g1:=hN.next hb1
  have e7:=h1.box.c7
  have e8:=h1.box.c8
  have f7:=g1.box.c7
  have f8:=g1.box.c8
  clear hM hN hb1
  go_wp2_with fail
  refine (eqTree_same _ _ _ _ _ os L U L' U' _ (by have:=h1.below.size; omega) (by have:=h1.below.size; omega) (H.tree.below h1.below hU) (H'.tree.below h1.below hU')).mono ?_
  rintro x w2 ⟨rfl,hb3⟩
  go_wp2_with fail
  go_ret
  exact ⟨rfl,(h1.next hb3).below⟩
end
section
open Go.RowKit Go.ChangeShapes Go.WideShapes
structure RowsAt {α : Type} (c : Nat) (E : World → Nat → Nat → List Value → α → Prop) (w : World) (L U : Nat) (a : Option Addr) (n : Nat) (xs : List α) : Prop where
  len : n = xs.length
  bd : n ≤ maxLen
  at_ : n ≠ 0 → ∃ b off,a = some ⟨b,off,none⟩ ∧ L ≤ b ∧ b < U ∧ ∀ i,i < n → ∃ x vs,xs[i]? = some x ∧ (∀ k v,vs[k]? = some v → w.cell? ⟨b,off + i * c + k,none⟩ = some v) ∧ E w L U vs x
structure Elt {α : Type} (E : World → Nat → Nat → List Value → α → Prop) : Prop where
  blocks : ∀ {w w' L U vs x},E w L U vs x → (∀ b,L ≤ b → b < U → w'.heap[b]? = w.heap[b]?) → E w' L U vs x
  wide : ∀ {w L U L' U' vs x},E w L U vs x → L' ≤ L → U ≤ U' → E w L' U' vs x
theorem RowsAt.blocks {α : Type} {c : Nat} {E : World → Nat → Nat → List Value → α → Prop} {w w' : World} {L U : Nat} {a : Option Addr} {n : Nat} {xs : List α} (h : RowsAt c E w L U a n xs) (K : Elt E) (hb : ∀ b,L ≤ b → b < U → w'.heap[b]? = w.heap[b]?) : RowsAt c E w' L U a n xs :=
  ⟨h.len,h.bd,fun hn=>by
    obtain ⟨b,off,ha,hL,hbU,hc⟩:=h.at_ hn
    refine ⟨b,off,ha,hL,hbU,fun i hi=>?_⟩
    obtain ⟨x,vs,he,h0,h1⟩:=hc i hi
    have hk:=hb b hL hbU
    exact ⟨x,vs,he,fun k v hv=>by rw [World.cell?_of_block (w:=w) hk]; exact h0 k v hv,K.blocks h1 hb⟩⟩
theorem RowsAt.below {α : Type} {c : Nat} {E : World → Nat → Nat → List Value → α → Prop} {w w' : World} {L U B : Nat} {a : Option Addr} {n : Nat} {xs : List α} (h : RowsAt c E w L U a n xs) (K : Elt E) (hb : Below B w w') (hU : U ≤ B) : RowsAt c E w' L U a n xs :=
  h.blocks K fun b _ hbU=>hb.block b (by omega)
theorem RowsAt.wide {α : Type} {c : Nat} {E : World → Nat → Nat → List Value → α → Prop} {w : World} {L U L' U' : Nat} {a : Option Addr} {n : Nat} {xs : List α} (h : RowsAt c E w L U a n xs) (K : Elt E) (hL : L' ≤ L) (hU : U ≤ U') : RowsAt c E w L' U' a n xs :=
  ⟨h.len,h.bd,fun hn=>by
    obtain ⟨b,off,ha,hL,hbU,hc⟩:=h.at_ hn
    refine ⟨b,off,ha,by omega,by omega,fun i hi=>?_⟩
    obtain ⟨x,vs,he,h0,h1⟩:=hc i hi
    exact ⟨x,vs,he,h0,K.wide h1 (by omega) hU⟩⟩
theorem RowsAt.none_ {α : Type} (c : Nat) (E : World → Nat → Nat → List Value → α → Prop) (w : World) (L U : Nat) (a : Option Addr) : RowsAt c E w L U a 0 []:=⟨rfl,by simp,fun h=>absurd rfl h⟩
theorem Elt.below {α : Type} {E : World → Nat → Nat → List Value → α → Prop} (K : Elt E) {w w' : World} {L U B : Nat} {vs : List Value} {x : α} (h : E w L U vs x) (hb : Below B w w') (hU : U ≤ B) : E w' L U vs x:=K.blocks h fun b _ hbU=>hb.block b (by omega)
section
variable {H : Type} {enc : TypeId × Value → H} {w : World} {spare : Nat → Bool} {held : Bool}
theorem open_rows {α : Type} {E : World → Nat → Nat → List Value → α → Prop} {t e : TypeId} {c : Nat} (ht : Tryz.prog.underlying t = some (.slice e)) (ce : Tryz.prog.cellsOf e = c) (hc : 0 < c) (hel : ∀ (fuel : Nat) (cs : List Value) (x : DataW H × List MemPlace),cs.length = c → DataW.trod enc Tryz.prog w 0 spare held fuel e cs = some x → ∃ y : α,E w 0 w.heap.size cs y) {fuel : Nat} {v : Value} {x : DataW H × List MemPlace} (h : DataW.trod enc Tryz.prog w 0 spare held fuel t [v] = some x) :
    ∃ a n k es,v = .slice a n k ∧ RowsAt c E w 0 w.heap.size a n es:=by
  rcases Go.Deep.open_slice ht h with ⟨hcs,_⟩ | ⟨a,len,cap,m,n,D,Pl,hcs,_,hl,hm,hmm,_,hx⟩
  · simp at hcs
    exact ⟨none,0,0,[],hcs,RowsAt.none_ _ _ _ _ _ _⟩
  · simp at hcs
    have hlm : len ≤ m:=by rw [hmm]; split <;> omega
    obtain ⟨es,hes,hp⟩:=list_of (n:=len) (p:=fun i (o : α)=>∃ vs : List Value,vs.length = c ∧ (∀ k v,vs[k]? = some v → w.cell? (a.add (i * c + k)) = some v) ∧ E w 0 w.heap.size vs o) (fun i hi=>by
      obtain ⟨cs',h1,h2⟩:=hx i (by omega)
      rw [ce] at h1
      obtain ⟨_,hlen,hcell⟩:=World.cells?_some h1
      obtain ⟨y,hy⟩:=hel _ cs' _ hlen h2
      refine ⟨y,cs',hlen,fun k v hv=>?_,hy⟩
      have hk : k < c:=by rw [← hlen]; exact (List.getElem?_eq_some_iff.1 hv).1
      have g0:=hcell k hk
      rw [Go.Deep.add_add] at g0
      rw [g0]
      exact hv)
    refine ⟨some a,len,cap,es,hcs,hes.symm,by omega,fun hn=>?_⟩
    obtain ⟨b,off,spot⟩:=a
    obtain ⟨_,_,vs0,hl0,c0,_⟩:=hp 0 (by omega)
    have c0:=c0 0 _ (List.getElem?_eq_getElem (by omega))
    have hspot : spot = none:=by simpa [Addr.add] using World.cell?_spot c0
    subst hspot
    refine ⟨b,off,rfl,Nat.zero_le _,by have:=cell_lt c0; simpa [Addr.add] using this,fun i hi=>?_⟩
    obtain ⟨o,ho,vs,hlen,q0,hE⟩:=hp i hi
    exact ⟨o,vs,ho,fun k v hv=>by rw [Nat.add_assoc,← addr_add]; exact q0 k v hv,hE⟩
end
def OpsE (w : World) (L U : Nat) (vs : List Value) (ops : List LOp) : Prop:=∃ a n c,vs = [.slice a n c] ∧ OpsAt w L U a n ops
theorem eltOps : Elt OpsE:=⟨fun ⟨a,n,c,h,H⟩ hb=>⟨a,n,c,h,H.blocks hb⟩,fun ⟨a,n,c,h,H⟩ hL hU=>⟨a,n,c,h,H.wide hL hU⟩⟩
section
variable {H : Type} {enc : TypeId × Value → H} {w : World} {spare : Nat → Bool} {held : Bool}
theorem open_opss {fuel : Nat} {v : Value} {x : DataW H × List MemPlace} (h : DataW.trod enc Tryz.prog w 0 spare held fuel 61 [v] = some x) : ∃ a n k es,v = .slice a n k ∧ RowsAt 1 OpsE w 0 w.heap.size a n es :=
  open_rows Tryz.underlying61 (by kernel_rfl) (by omega) (fun fuel cs x hl h=>by
    match cs,hl with
    | [v],_ =>
      obtain ⟨a,n,c,ops,e,hO⟩:=open_ops_at h
      exact ⟨ops,a,n,c,by rw [e],hO⟩) h
end
structure LKeep where
  who : Int
  seq : Int
  base : List LObj
  waits : Bool
  sent : List LOp
  list : List LOp
  shelf : List (List LOp)
structure KeepAt (w : World) (L U : Nat) (q s : Int) (a : Option Addr) (n : Nat) (b : Bool) (a1 : Option Addr) (n1 : Nat) (a2 : Option Addr) (n2 : Nat) (a3 : Option Addr) (n3 : Nat) (k : LKeep) : Prop where
  q : q = k.who
  s : s = k.seq
  b : b = k.waits
  base : ObjsAt w L U a n k.base
  sent : OpsAt w L U a1 n1 k.sent
  list : OpsAt w L U a2 n2 k.list
  shelf : RowsAt 1 OpsE w L U a3 n3 k.shelf
theorem KeepAt.blocks {w w' : World} {L U : Nat} {q s : Int} {a a1 a2 a3 : Option Addr} {n n1 n2 n3 : Nat} {b : Bool} {k : LKeep} (h : KeepAt w L U q s a n b a1 n1 a2 n2 a3 n3 k) (hb : ∀ b,L ≤ b → b < U → w'.heap[b]? = w.heap[b]?) : KeepAt w' L U q s a n b a1 n1 a2 n2 a3 n3 k :=
  ⟨h.q,h.s,h.b,h.base.blocks_ hb,h.sent.blocks hb,h.list.blocks hb,h.shelf.blocks eltOps hb⟩
theorem KeepAt.wide {w : World} {L U L' U' : Nat} {q s : Int} {a a1 a2 a3 : Option Addr} {n n1 n2 n3 : Nat} {b : Bool} {k : LKeep} (h : KeepAt w L U q s a n b a1 n1 a2 n2 a3 n3 k) (hL : L' ≤ L) (hU : U ≤ U') : KeepAt w L' U' q s a n b a1 n1 a2 n2 a3 n3 k :=
  ⟨h.q,h.s,h.b,h.base.wide hL hU,h.sent.wide hL hU,h.list.wide hL hU,h.shelf.wide eltOps hL hU⟩
theorem KeepAt.below {w w' : World} {L U B : Nat} {q s : Int} {a a1 a2 a3 : Option Addr} {n n1 n2 n3 : Nat} {b : Bool} {k : LKeep} (h : KeepAt w L U q s a n b a1 n1 a2 n2 a3 n3 k) (hb : Below B w w') (hU : U ≤ B) : KeepAt w' L U q s a n b a1 n1 a2 n2 a3 n3 k:=h.blocks fun b _ hbU=>hb.block b (by omega)
def KeepE (w : World) (L U : Nat) (vs : List Value) (k : LKeep) : Prop:=∃ q s a n c b a1 n1 c1 a2 n2 c2 a3 n3 c3,vs = [.int .i64 q,.int .i64 s,.slice a n c,.bool b,.slice a1 n1 c1,.slice a2 n2 c2,.slice a3 n3 c3] ∧ KeepAt w L U q s a n b a1 n1 a2 n2 a3 n3 k
theorem eltKeep : Elt KeepE:=⟨fun ⟨q,s,a,n,c,b,a1,n1,c1,a2,n2,c2,a3,n3,c3,h,H⟩ hb=>⟨q,s,a,n,c,b,a1,n1,c1,a2,n2,c2,a3,n3,c3,h,H.blocks hb⟩,fun ⟨q,s,a,n,c,b,a1,n1,c1,a2,n2,c2,a3,n3,c3,h,H⟩ hL hU=>⟨q,s,a,n,c,b,a1,n1,c1,a2,n2,c2,a3,n3,c3,h,H.wide hL hU⟩⟩
section
variable {H : Type} {enc : TypeId × Value → H} {w : World} {spare : Nat → Bool} {held : Bool}
theorem open_keep_cells {fuel : Nat} {v0 v1 v2 v3 v4 v5 v6 : Value} {x : DataW H × List MemPlace} (h : DataW.trod enc Tryz.prog w 0 spare held fuel 63 [v0,v1,v2,v3,v4,v5,v6] = some x) :
    ∃ k,KeepE w 0 w.heap.size [v0,v1,v2,v3,v4,v5,v6] k:=by
  have c3 : Tryz.prog.cellsOf 3 = 1:=by kernel_rfl
  have c4 : Tryz.prog.cellsOf 4 = 1:=by kernel_rfl
  have c38 : Tryz.prog.cellsOf 38 = 1:=by kernel_rfl
  have c36 : Tryz.prog.cellsOf 36 = 1:=by kernel_rfl
  have c60 : Tryz.prog.cellsOf 60 = 1:=by kernel_rfl
  have c61 : Tryz.prog.cellsOf 61 = 1:=by kernel_rfl
  obtain ⟨y0,y1,y2,y3,y4,y5,y6,n',t0,t1,t2,t3,t4,t5,t6⟩:=trod_struct7 Tryz.underlying63 h
  simp [c3,c4,c38,c60,c61] at t0 t1 t2 t3 t4 t5 t6
  obtain ⟨q,e0,_,_⟩:=DataW.trod_int Tryz.underlying3 t0
  obtain ⟨s,e1,_,_⟩:=DataW.trod_int Tryz.underlying3 t1
  obtain ⟨z0,n2,_,_,t7⟩:=trod_struct1 Tryz.underlying38 t2
  simp [c36] at t7
  obtain ⟨a,n,c,os,e2,hO⟩:=open_objs t7
  obtain ⟨b,e3,_,_⟩:=DataW.trod_bool Tryz.underlying4 t3
  obtain ⟨a1,n1,c1,l1,e4,h1⟩:=open_ops_at t4
  obtain ⟨a2,n2,c2,l2,e5,h2⟩:=open_ops_at t5
  obtain ⟨a3,n3,c3',l3,e6,h3⟩:=open_opss t6
  simp at e0 e1 e3
  subst e0 e1 e2 e3 e4 e5 e6
  exact ⟨⟨q,s,os,b,l1,l2,l3⟩,_,_,_,_,_,_,_,_,_,_,_,_,_,_,_,rfl,rfl,rfl,rfl,hO,h1,h2,h3⟩
theorem array7l {α : Type} {l : List α} (h : l.length = 7) : ∃ c0 c1 c2 c3 c4 c5 c6,l = [c0,c1,c2,c3,c4,c5,c6]:=by
  match l,h with
  | [c0,c1,c2,c3,c4,c5,c6],_=>exact ⟨c0,c1,c2,c3,c4,c5,c6,rfl⟩
end
section
variable {H : Type} {enc : TypeId × Value → H} {w : World} {spare : Nat → Bool} {held : Bool}
theorem open_keeps {fuel : Nat} {v : Value} {x : DataW H × List MemPlace} (h : DataW.trod enc Tryz.prog w 0 spare held fuel 42 [v] = some x) : ∃ a n k es,v = .slice a n k ∧ RowsAt 7 KeepE w 0 w.heap.size a n es :=
  open_rows Tryz.underlying42 (by kernel_rfl) (by omega) (fun fuel cs x hl h=>by
    obtain ⟨v0,v1,v2,v3,v4,v5,v6,rfl⟩:=array7l hl
    exact open_keep_cells h) h
end
def LogE (w : World) (L U : Nat) (vs : List Value) (l : LLog) : Prop:=∃ q s a n c a' n' c',vs = [.int .i64 q,.int .i64 s,.slice a n c,.slice a' n' c'] ∧ (n' ≤ c' ∧ c' ≤ maxLen) ∧ LogAt w L U q s a n a' n' l
theorem LogAt.blocksX {w w' : World} {L U : Nat} {q s : Int} {a a' : Option Addr} {n n' : Nat} {l : LLog} (h : LogAt w L U q s a n a' n' l) (hb : ∀ b,L ≤ b → b < U → w'.heap[b]? = w.heap[b]?) : LogAt w' L U q s a n a' n' l:=⟨h.q,h.s,h.b.blocks hb,h.o.blocks hb⟩
theorem eltLog : Elt LogE:=⟨fun ⟨q,s,a,n,c,a',n',c',h,hc,H⟩ hb=>⟨q,s,a,n,c,a',n',c',h,hc,H.blocksX hb⟩,fun ⟨q,s,a,n,c,a',n',c',h,hc,H⟩ hL hU=>⟨q,s,a,n,c,a',n',c',h,hc,H.wide hL hU⟩⟩
section
variable {H : Type} {enc : TypeId × Value → H} {w : World} {spare : Nat → Bool} {held : Bool}
theorem list4w {α : Type} {l : List α} (h : l.length = 4) : ∃ a b c d,l = [a,b,c,d]:=by
  match l,h with
  | [a,b,c,d],_=>exact ⟨a,b,c,d,rfl⟩
theorem slice_caps {t e : TypeId} (ht : Tryz.prog.underlying t = some (.slice e)) {fuel : Nat} {a : Option Addr} {n c : Nat} {x : DataW H × List MemPlace} (h : DataW.trod enc Tryz.prog w 0 spare held fuel t [.slice a n c] = some x) : n ≤ c ∧ c ≤ maxLen:=by
  rcases Go.Deep.open_slice ht h with ⟨hcs,_⟩ | ⟨a,len,cap,m,n,D,Pl,hcs,_,hl,hm,hmm,_,hx⟩
  · simp at hcs; omega
  · simp at hcs; omega
theorem log_caps {fuel : Nat} {v0 v1 v2 : Value} {a : Option Addr} {n c : Nat} {x : DataW H × List MemPlace} (h : DataW.trod enc Tryz.prog w 0 spare held fuel 80 [v0,v1,v2,.slice a n c] = some x) : n ≤ c ∧ c ≤ maxLen:=by
  have c3 : Tryz.prog.cellsOf 3 = 1:=by kernel_rfl
  have cb : Tryz.prog.cellsOf 78 = 1:=by kernel_rfl
  have co : Tryz.prog.cellsOf 60 = 1:=by kernel_rfl
  obtain ⟨y0,y1,y2,y3,n',_,_,t0,t1,t2,t3⟩:=Go.Joins.trod_struct4 Tryz.underlying80 h
  simp [c3,cb,co] at t0 t1 t2 t3
  exact slice_caps Tryz.underlying60 t3
theorem open_logs {fuel : Nat} {v : Value} {x : DataW H × List MemPlace} (h : DataW.trod enc Tryz.prog w 0 spare held fuel 22 [v] = some x) : ∃ a n k es,v = .slice a n k ∧ RowsAt 4 LogE w 0 w.heap.size a n es :=
  open_rows Tryz.underlying22 (by kernel_rfl) (by omega) (fun fuel cs x hl h=>by
    obtain ⟨v0,v1,v2,v3,rfl⟩:=list4w hl
    obtain ⟨q,s,a,n,c,a',n',c',l,rfl,rfl,rfl,rfl,hL⟩:=open_log_cells h
    exact ⟨l,q,s,a,n,c,a',n',c',rfl,log_caps h,hL⟩) h
end
structure LMsg where
  kind : Int
  who : Int
  seq : Int
  log : LLog
  code : Int
  tree : List LObj
def MsgE (w : World) (L U : Nat) (vs : List Value) (m : LMsg) : Prop:=∃ q s ba bn bc oa on oc ta tn tc,vs = [.int .i64 m.kind,.int .i64 m.who,.int .i64 m.seq,.int .i64 q,.int .i64 s,.slice ba bn bc,.slice oa on oc,.int .i64 m.code,.slice ta tn tc] ∧ (on ≤ oc ∧ oc ≤ maxLen) ∧ MsgAt w L U q s ba bn oa on ta tn m.log m.tree
theorem eltMsg : Elt MsgE:=⟨fun ⟨q,s,ba,bn,bc,oa,on,oc,ta,tn,tc,h,hc,H⟩ hb=>⟨q,s,ba,bn,bc,oa,on,oc,ta,tn,tc,h,hc,H.log.blocks_ hb,H.tree.blocks_ hb⟩,fun ⟨q,s,ba,bn,bc,oa,on,oc,ta,tn,tc,h,hc,H⟩ hL hU=>⟨q,s,ba,bn,bc,oa,on,oc,ta,tn,tc,h,hc,H.wide hL hU⟩⟩
section
variable {H : Type} {enc : TypeId × Value → H} {w : World} {spare : Nat → Bool} {held : Bool}
theorem list9w {α : Type} {l : List α} (h : l.length = 9) : ∃ c0 c1 c2 c3 c4 c5 c6 c7 c8,l = [c0,c1,c2,c3,c4,c5,c6,c7,c8]:=by
  match l,h with
  | [c0,c1,c2,c3,c4,c5,c6,c7,c8],_=>exact ⟨c0,c1,c2,c3,c4,c5,c6,c7,c8,rfl⟩
theorem open_msg_cells {fuel : Nat} {v0 v1 v2 v3 v4 v5 v6 v7 v8 : Value} {x : DataW H × List MemPlace} (h : DataW.trod enc Tryz.prog w 0 spare held fuel 189 [v0,v1,v2,v3,v4,v5,v6,v7,v8] = some x) :
    ∃ m,MsgE w 0 w.heap.size [v0,v1,v2,v3,v4,v5,v6,v7,v8] m:=by
  have c3 : Tryz.prog.cellsOf 3 = 1:=by kernel_rfl
  have c80 : Tryz.prog.cellsOf 80 = 4:=by kernel_rfl
  have c38 : Tryz.prog.cellsOf 38 = 1:=by kernel_rfl
  have c36 : Tryz.prog.cellsOf 36 = 1:=by kernel_rfl
  obtain ⟨y0,y1,y2,y3,y4,y5,n',t0,t1,t2,t3,t4,t5⟩:=trod_struct6 Tryz.underlying189 h
  simp [c3,c80,c38] at t0 t1 t2 t3 t4 t5
  obtain ⟨k,e0,_,_⟩:=DataW.trod_int Tryz.underlying3 t0
  obtain ⟨who,e1,_,_⟩:=DataW.trod_int Tryz.underlying3 t1
  obtain ⟨seq,e2,_,_⟩:=DataW.trod_int Tryz.underlying3 t2
  obtain ⟨q,s,ba,bn,bc,oa,on,oc,l,e3,e4,e5,e6,hL⟩:=open_log_cells t3
  have hcp : on ≤ oc ∧ oc ≤ maxLen:=by subst e6; exact log_caps t3
  obtain ⟨code,e7,_,_⟩:=DataW.trod_int Tryz.underlying3 t4
  obtain ⟨z0,n2,_,_,t6⟩:=trod_struct1 Tryz.underlying38 t5
  simp [c36] at t6
  obtain ⟨ta,tn,tc,os,e8,hO⟩:=open_objs t6
  simp at e0 e1 e2 e7
  subst e0 e1 e2 e3 e4 e5 e6 e7 e8
  exact ⟨⟨k,who,seq,l,code,os⟩,q,s,ba,bn,bc,oa,on,oc,ta,tn,tc,rfl,hcp,hL,hO⟩
theorem open_msgs {fuel : Nat} {v : Value} {x : DataW H × List MemPlace} (h : DataW.trod enc Tryz.prog w 0 spare held fuel 43 [v] = some x) : ∃ a n k es,v = .slice a n k ∧ RowsAt 9 MsgE w 0 w.heap.size a n es :=
  open_rows Tryz.underlying43 (by kernel_rfl) (by omega) (fun fuel cs x hl h=>by
    obtain ⟨v0,v1,v2,v3,v4,v5,v6,v7,v8,rfl⟩:=list9w hl
    exact open_msg_cells h) h
end
structure LTold where
  who : Int
  seq : Int
  code : Int
def ToldE (_ : World) (_ _ : Nat) (vs : List Value) (t : LTold) : Prop:=vs = [.int .i64 t.who,.int .i64 t.seq,.int .i64 t.code]
theorem eltTold : Elt ToldE:=⟨fun h _=>h,fun h _ _=>h⟩
section
variable {H : Type} {enc : TypeId × Value → H} {w : World} {spare : Nat → Bool} {held : Bool}
theorem open_tolds {fuel : Nat} {v : Value} {x : DataW H × List MemPlace} (h : DataW.trod enc Tryz.prog w 0 spare held fuel 44 [v] = some x) : ∃ a n k es,v = .slice a n k ∧ RowsAt 3 ToldE w 0 w.heap.size a n es :=
  open_rows Tryz.underlying44 (by kernel_rfl) (by omega) (fun fuel cs x hl h=>by
    obtain ⟨v0,v1,v2,rfl⟩:=list3 hl
    have c3 : Tryz.prog.cellsOf 3 = 1:=by kernel_rfl
    obtain ⟨y0,y1,y2,n,_,_,t0,t1,t2⟩:=Go.Deep.trod_struct3 Tryz.underlying193 h
    simp [c3] at t0 t1 t2
    obtain ⟨k0,e0,_,_⟩:=DataW.trod_int Tryz.underlying3 t0
    obtain ⟨k1,e1,_,_⟩:=DataW.trod_int Tryz.underlying3 t1
    obtain ⟨k2,e2,_,_⟩:=DataW.trod_int Tryz.underlying3 t2
    simp at e0 e1 e2
    exact ⟨⟨k0,k1,k2⟩,by rw [e0,e1,e2]; rfl⟩) h
end
structure LWorld where
  tree : List LObj
  dones : List LDone
  keeps : List LKeep
  net : List LMsg
  past : List LLog
  told : List LTold
structure WorldAt (w : World) (L U : Nat) (a0 : Option Addr) (n0 : Nat) (a1 : Option Addr) (n1 : Nat) (a2 : Option Addr) (n2 : Nat) (a3 : Option Addr) (n3 : Nat) (a4 : Option Addr) (n4 : Nat) (a5 : Option Addr) (n5 : Nat) (x : LWorld) : Prop where
  tree : ObjsAt w L U a0 n0 x.tree
  dones : DonesAt w L U a1 n1 x.dones
  keeps : RowsAt 7 KeepE w L U a2 n2 x.keeps
  net : RowsAt 9 MsgE w L U a3 n3 x.net
  past : RowsAt 4 LogE w L U a4 n4 x.past
  told : RowsAt 3 ToldE w L U a5 n5 x.told
theorem WorldAt.blocks {w w' : World} {L U : Nat} {a0 a1 a2 a3 a4 a5 : Option Addr} {n0 n1 n2 n3 n4 n5 : Nat} {x : LWorld} (h : WorldAt w L U a0 n0 a1 n1 a2 n2 a3 n3 a4 n4 a5 n5 x) (hb : ∀ b,L ≤ b → b < U → w'.heap[b]? = w.heap[b]?) : WorldAt w' L U a0 n0 a1 n1 a2 n2 a3 n3 a4 n4 a5 n5 x :=
  ⟨h.tree.blocks_ hb,h.dones.blocks hb,h.keeps.blocks eltKeep hb,h.net.blocks eltMsg hb,h.past.blocks eltLog hb,h.told.blocks eltTold hb⟩
theorem WorldAt.wide {w : World} {L U L' U' : Nat} {a0 a1 a2 a3 a4 a5 : Option Addr} {n0 n1 n2 n3 n4 n5 : Nat} {x : LWorld} (h : WorldAt w L U a0 n0 a1 n1 a2 n2 a3 n3 a4 n4 a5 n5 x) (hL : L' ≤ L) (hU : U ≤ U') : WorldAt w L' U' a0 n0 a1 n1 a2 n2 a3 n3 a4 n4 a5 n5 x :=
  ⟨h.tree.wide hL hU,h.dones.wide hL hU,h.keeps.wide eltKeep hL hU,h.net.wide eltMsg hL hU,h.past.wide eltLog hL hU,h.told.wide eltTold hL hU⟩
theorem WorldAt.below {w w' : World} {L U B : Nat} {a0 a1 a2 a3 a4 a5 : Option Addr} {n0 n1 n2 n3 n4 n5 : Nat} {x : LWorld} (h : WorldAt w L U a0 n0 a1 n1 a2 n2 a3 n3 a4 n4 a5 n5 x) (hb : Below B w w') (hU : U ≤ B) : WorldAt w' L U a0 n0 a1 n1 a2 n2 a3 n3 a4 n4 a5 n5 x:=h.blocks fun b _ hbU=>hb.block b (by omega)
section
variable {H : Type} {enc : TypeId × Value → H} {w : World} {spare : Nat → Bool} {held : Bool}
theorem trod_struct5 {P : Program} {base : Nat} {t : TypeId} {f0 f1 f2 f3 f4 : Field} {fuel : Nat} {cs : List Value} {x : DataW H × List MemPlace} (ht : P.underlying t = some (.struct #[f0,f1,f2,f3,f4])) (h : DataW.trod enc P w base spare held fuel t cs = some x) :
    ∃ y0 y1 y2 y3 y4 n,DataW.trod enc P w base spare held n f0.type ((cs.drop f0.offset).take (P.cellsOf f0.type)) = some y0 ∧ DataW.trod enc P w base spare held n f1.type ((cs.drop f1.offset).take (P.cellsOf f1.type)) = some y1 ∧ DataW.trod enc P w base spare held n f2.type ((cs.drop f2.offset).take (P.cellsOf f2.type)) = some y2 ∧ DataW.trod enc P w base spare held n f3.type ((cs.drop f3.offset).take (P.cellsOf f3.type)) = some y3 ∧ DataW.trod enc P w base spare held n f4.type ((cs.drop f4.offset).take (P.cellsOf f4.type)) = some y4:=by
  obtain ⟨xs,n,_,rfl,hl,hlen,hf⟩:=DataW.trod_struct ht h
  match xs,hlen with
  | [y0,y1,y2,y3,y4],_=>exact ⟨y0,y1,y2,y3,y4,n,by simpa using hf 0 f0 rfl,by simpa using hf 1 f1 rfl,by simpa using hf 2 f2 rfl,by simpa using hf 3 f3 rfl,by simpa using hf 4 f4 rfl⟩
theorem array6 {α : Type} {cs : Array α} (h : cs.size = 6) : ∃ c0 c1 c2 c3 c4 c5,cs = #[c0,c1,c2,c3,c4,c5]:=by
  obtain ⟨l⟩:=cs
  match l,h with
  | [c0,c1,c2,c3,c4,c5],_=>exact ⟨c0,c1,c2,c3,c4,c5,rfl⟩
set_option maxRecDepth 100000 in
theorem open_world {r : Reach} {b0 : Nat} {v : Value} {d : DataW H} {p : List MemPlace} (hv : Value.okWide Tryz.prog w r b0 46 v) (h : DataW.Trod enc Tryz.prog w 0 spare held 46 v d p) :
    ∃ a0 n0 c0 a1 n1 c1 a2 n2 c2 a3 n3 c3 a4 n4 c4 a5 n5 c5 x,v = .agg #[.slice a0 n0 c0,.slice a1 n1 c1,.slice a2 n2 c2,.slice a3 n3 c3,.slice a4 n4 c4,.slice a5 n5 c5] ∧ WorldAt w 0 w.heap.size a0 n0 a1 n1 a2 n2 a3 n3 a4 n4 a5 n5 x:=by
  have c41 : Tryz.prog.cellsOf 41 = 2:=by kernel_rfl
  have c38 : Tryz.prog.cellsOf 38 = 1:=by kernel_rfl
  have c36 : Tryz.prog.cellsOf 36 = 1:=by kernel_rfl
  have c39 : Tryz.prog.cellsOf 39 = 1:=by kernel_rfl
  have c42 : Tryz.prog.cellsOf 42 = 1:=by kernel_rfl
  have c43 : Tryz.prog.cellsOf 43 = 1:=by kernel_rfl
  have c22 : Tryz.prog.cellsOf 22 = 1:=by kernel_rfl
  have c44 : Tryz.prog.cellsOf 44 = 1:=by kernel_rfl
  obtain ⟨cs,rfl,hsz⟩:=okWide_struct Tryz.underlying46 hv
  obtain ⟨v0,v1,v2,v3,v4,v5,rfl⟩:=array6 (hsz.trans (by kernel_rfl))
  obtain ⟨fuel,hf⟩:=h
  obtain ⟨y0,y1,y2,y3,y4,n',t0,t1,t2,t3,t4⟩:=trod_struct5 Tryz.underlying46 hf
  simp [c41,c42,c43,c22,c44,Value.cells] at t0 t1 t2 t3 t4
  obtain ⟨z0,z1,n2,_,_,t5,t6⟩:=trod_struct2 Tryz.underlying41 t0
  simp [c38,c39] at t5 t6
  obtain ⟨z2,n3,_,_,t7⟩:=trod_struct1 Tryz.underlying38 t5
  simp [c36] at t7
  obtain ⟨a0,n0,k0,l0,rfl,h0⟩:=open_objs t7
  obtain ⟨a1,n1,k1,l1,rfl,h1⟩:=open_dones t6
  obtain ⟨a2,n2,k2,l2,rfl,h2⟩:=open_keeps t1
  obtain ⟨a3,n3,k3,l3,rfl,h3⟩:=open_msgs t2
  obtain ⟨a4,n4,k4,l4,rfl,h4⟩:=open_logs t3
  obtain ⟨a5,n5,k5,l5,rfl,h5⟩:=open_tolds t4
  exact ⟨_,_,_,_,_,_,_,_,_,_,_,_,_,_,_,_,_,_,⟨l0,l1,l2,l3,l4,l5⟩,rfl,h0,h1,h2,h3,h4,h5⟩
end
end
end Go.Proofs.YtloopeipheklpaaGreatDoor
