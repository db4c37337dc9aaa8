/- Lemmas that the proofs of this seat share: LogB. -/
import Derived.Test.YtloopeipheklpaaGreatDoorW01
import Derived.Test.YtloopeipheklpaaGreatDoorW04
namespace Go.Proofs.YtloopeipheklpaaGreatDoor
open Go.RowKit
def baseEq (x y : LBase) : Bool:=(x.id == y.id) && (x.ver == y.ver)
theorem baseParts (x y : LBase) : ((x.id == y.id) = true ∧ (x.ver == y.ver) = true) ∨ ((x.id == y.id) = false) ∨ ((x.id == y.id) = true ∧ (x.ver == y.ver) = false):=by
  cases h0 : (x.id == y.id) <;> cases h1 : (x.ver == y.ver) <;> simp
def logEq (l m : LLog) : Bool:=(l.who == m.who) && (l.seq == m.seq) && listEq baseEq l.bases m.bases && listEq opEq l.list m.list
set_option maxHeartbeats 2000000 in
theorem equalBases (a a' : Option Addr) (n n' c c' : Nat) (ops ops' : List LBase) (L U L' U' : Nat) (w : World) (H : BasesAt w L U a n ops) (H' : BasesAt w L' U' a' n' ops') :
    Calls Tryz.prog 244 #[.slice a n c,.slice a' n' c'] w fun e w'=>e = .returned (.bool (listEq baseEq ops ops')) ∧ ∃ m,w' = w.drewN m:=by
  have hbd:=H.bd
  have hbd':=H'.bd
  unfold maxLen at hbd hbd'
  by_cases hnn : n = n'
  · subst hnn
    go_enter Tryz.func244,Tryz.ntmps244
    go_wp2
    go_loopg [13] n (fun k i wr=>∃ j : Nat,j ≤ n ∧ Hid (k = n - j) ∧ i = .int .i64 j ∧ Hid (∀ i,i < j → ∀ x y,ops[i]? = some x → ops'[i]? = some y → baseEq x y = true) ∧ Hid (∃ m,wr = w.drewN m))
    case atStart=>exact ⟨0,Nat.zero_le _,by show _ = _; omega,rfl,fun i hi=>by omega,⟨0,rfl⟩⟩
    case round =>
      obtain ⟨j,hj,hk,rfl,hq,hb⟩:=hrel
      obtain ⟨m,rfl⟩:=hb.out
      by_cases hlt : j < n
      · obtain ⟨b,off,ha,hL,hbU,hc⟩:=H.at_ (by omega)
        obtain ⟨b',off',ha',hL',hbU',hc'⟩:=H'.at_ (by omega)
        subst ha ha'
        obtain ⟨x,he,c0,c1⟩:=hc j hlt
        obtain ⟨y,he2,d0,d1⟩:=hc' j hlt
        have HE : Hid (ops[j]? = some x ∧ ops'[j]? = some y):=⟨he,he2⟩
        have hlt' : (j : Int) < (n : Int):=by omega
        clear he he2 hc hc'
        rcases baseParts x y with ⟨t0,t1⟩ | t0 | ⟨t0,t1⟩
        · have HY : Hid (baseEq x y = true):=by show _ = _; simp only [baseEq,t0,t1,Bool.and_true]
          go_wp2_with fail
          go_quiet (fail)
          go_wp2_with fail
          go_roundg (n - (j + 1))
          case measure=>have:=hk.out; omega
          case rel =>
            refine ⟨j + 1,by omega,rfl,by go_num,fun i hi x' y' hx hy=>?_,⟨_,rfl⟩⟩
            by_cases e : i = j
            · subst e
              rw [HE.out.1] at hx
              rw [HE.out.2] at hy
              cases hx
              cases hy
              exact HY.out
            · exact hq.out i (by omega) x' y' hx hy
        all_goals
          have HN : Hid (baseEq x y = false):=by show _ = _; simp only [baseEq, *,Bool.and_false,Bool.false_and]
          go_wp2_with fail
          go_quiet (fail)
          go_wp2_with fail
          go_ret
          exact ⟨ret_bool (listEq_no HE.out.1 HE.out.2 HN.out).symm,m + nq,by rw [World.drewN_drewN]⟩
      · go_wp2_with fail
        go_ret
        exact ⟨ret_bool (listEq_yes (by rw [← H.len,← H'.len]) (fun i x y hx hy=>hq.out i (by have:=(List.getElem?_eq_some_iff.1 hx).1; have:=H.len; omega) x y hx hy)).symm,m,rfl⟩
  · have hne : ((n : Int) == n') = false:=by simp; omega
    go_enter Tryz.func244,Tryz.ntmps244
    go_wp2
    go_ret
    exact ⟨ret_bool (listEq_len (by rw [← H.len,← H'.len]; exact hnn)).symm,0,rfl⟩
theorem bundleOf_any (q s : Int) (a : Option Addr) (n c : Nat) (a' : Option Addr) (n' c' : Nat) (w : World) :
    Calls Tryz.prog 114 #[.agg #[.int .i64 q,.int .i64 s,.slice a n c,.slice a' n' c']] w fun e w'=>e = .returned (.agg #[.int .i64 q,.int .i64 s,.slice a n c,.slice a' n' c']) ∧ Below w.heap.size w w':=by
  go_enter Tryz.func114,Tryz.ntmps114
  go_wp2
  exact bodyPost_ret (v:=.agg #[.int .i64 q,.int .i64 s,.slice a n c,.slice a' n' c']) (by simp [results,Tryz.results114,go_sem]) rfl ⟨rfl,by
    repeat (first | exact Below.refl _ _ | refine Below.setCell ?_ (by simp <;> omega) _ | refine Below.alloc ?_ (by simp <;> omega) _)⟩
structure LogBox (W : World) (q : Nat) (x y : Int) (a : Option Addr) (n c : Nat) (a' : Option Addr) (n' c' : Nat) : Prop where
  c0 : W.cell? ⟨q,0,none⟩ = some (.int .i64 x)
  c1 : W.cell? ⟨q,1,none⟩ = some (.int .i64 y)
  c2 : W.cell? ⟨q,2,none⟩ = some (.slice a n c)
  c3 : W.cell? ⟨q,3,none⟩ = some (.slice a' n' c')
theorem LogBox.of {W W' : World} {q : Nat} {x y : Int} {a : Option Addr} {n c : Nat} {a' : Option Addr} {n' c' : Nat} (h : LogBox W q x y a n c a' n' c') (e : W'.heap[q]? = W.heap[q]?) : LogBox W' q x y a n c a' n' c':=by
  have hc : ∀ j,W'.cell? ⟨q,j,none⟩ = W.cell? ⟨q,j,none⟩:=fun j=>World.cell?_of_block (w:=W) e
  exact ⟨by rw [hc]; exact h.c0,by rw [hc]; exact h.c1,by rw [hc]; exact h.c2,by rw [hc]; exact h.c3⟩
section
variable {ops : Array Oper} {ac : Act} {K : Act → World → Prop} {Q : Exit → Act → World → Prop} {E : Prop} {ty : TypeId} {ps : String} {af : Array Edge}
theorem st_allocL (W : World) (d : Nat)
    (h : ∀ q W',q = W.heap.size → Below W.heap.size W W' → W'.rowIs q 174 4 (zrow #[.int .i64 0,.int .i64 0,.slice none 0 0,.slice none 0 0]) → K (ac.put (some d) (.pointer (some ⟨q,0,none⟩))) W') :
    if Region.wanted { dst:=some d,op:=.alloc 174,type:=ty,pos:=ps,after:=af,guard:=none } (yielded ops ac.tmps) = true then Oper.wp Tryz.prog { dst:=some d,op:=.alloc 174,type:=ty,pos:=ps,after:=af,guard:=none } ac W K Q else E:=by
  rw [if_pos (by simp [Region.wanted])]
  have:=h W.heap.size (W.alloc (.cells #[.int .i64 0,.int .i64 0,.slice none 0 0,.slice none 0 0] 174)) rfl ((Below.refl _ _).alloc (Nat.le_refl _) _) (zrow_new W _ 174)
  unfold Oper.wp
  go_simp
  exact this
theorem st_storeL (W : World) (tp tv : Nat) (q : Nat) (x y : Int) (a : Option Addr) (n c : Nat) (a' : Option Addr) (n' c' : Nat) (hp : ac.tmps[tp]?.getD undef = .pointer (some ⟨q,0,none⟩)) (hv : ac.tmps[tv]?.getD undef = .agg #[.int .i64 x,.int .i64 y,.slice a n c,.slice a' n' c']) (hr : W.rowIs q 174 4 (zrow #[.int .i64 0,.int .i64 0,.slice none 0 0,.slice none 0 0]))
    (h : ∀ W',But q W W' → LogBox W' q x y a n c a' n' c' → K ac W') :
    if Region.wanted { dst:=none,op:=.store 174 (.tmp tp) (.tmp tv),type:=ty,pos:=ps,after:=af,guard:=none } (yielded ops ac.tmps) = true then Oper.wp Tryz.prog { dst:=none,op:=.store 174 (.tmp tp) (.tmp tv),type:=ty,pos:=ps,after:=af,guard:=none } ac W K Q else E:=by
  rw [if_pos (by simp [Region.wanted])]
  have c0 : W.cell? ⟨q,0,none⟩ = some (.int .i64 0):=by rw [hr.cell (by omega)]; rfl
  have c1 : W.cell? ⟨q,1,none⟩ = some (.int .i64 0):=by rw [hr.cell (by omega)]; rfl
  have c2 : W.cell? ⟨q,2,none⟩ = some (.slice none 0 0):=by rw [hr.cell (by omega)]; rfl
  have c3 : W.cell? ⟨q,3,none⟩ = some (.slice none 0 0):=by rw [hr.cell (by omega)]; rfl
  have z0 : W.frozen? ⟨q,0,none⟩ = false:=hr.frozen _
  have z1 : W.frozen? ⟨q,1,none⟩ = false:=hr.frozen _
  have z2 : W.frozen? ⟨q,2,none⟩ = false:=hr.frozen _
  have z3 : W.frozen? ⟨q,3,none⟩ = false:=hr.frozen _
  have hw:=(((hr.set 0 (.int .i64 x)).set 1 (.int .i64 y)).set 2 (.slice a n c)).set 3 (.slice a' n' c')
  have:=h ((((W.setCell ⟨q,0,none⟩ (.int .i64 x)).setCell ⟨q,1,none⟩ (.int .i64 y)).setCell ⟨q,2,none⟩ (.slice a n c)).setCell ⟨q,3,none⟩ (.slice a' n' c')) ((((But.refl q W).set _ _).set _ _).set _ _ |>.set _ _)
    ⟨by rw [hw.cell (by omega)]; rfl,by rw [hw.cell (by omega)]; rfl,by rw [hw.cell (by omega)]; rfl,by rw [hw.cell (by omega)]; rfl⟩
  clear h hr hw
  unfold Oper.wp
  go_simp
  exact this
end
set_option maxHeartbeats 4000000 in
set_option maxRecDepth 20000 in
theorem implLogSame (q s : Int) (a : Option Addr) (n c : Nat) (a' : Option Addr) (n' c' : Nat) (p r : Int) (b : Option Addr) (m d : Nat) (b' : Option Addr) (m' d' : Nat) (l k : LLog) (L U L' U' : Nat) (w : World) (hU : U ≤ w.heap.size) (hU' : U' ≤ w.heap.size) (H : LogAt w L U q s a n a' n' l) (H' : LogAt w L' U' p r b m b' m' k) :
    Calls Tryz.prog 230 #[.agg #[.int .i64 q,.int .i64 s,.slice a n c,.slice a' n' c'],.agg #[.int .i64 p,.int .i64 r,.slice b m d,.slice b' m' d']] w fun e w'=>e = .returned (.bool (logEq l k)) ∧ Below w.heap.size w w':=by
  have HV : Hid (logEq l k = ((q == p) && (s == r) && listEq baseEq l.bases k.bases && listEq opEq l.list k.list)):=by show _ = _; unfold logEq; rw [H.q,H.s,H'.q,H'.s]
  have HB:=H.b
  have HO:=H.o
  have HB':=H'.b
  have HO':=H'.o
  clear H H'
  go_enter Tryz.func230,Tryz.ntmps230
  go_upto_region 1 with fail
  obtain ⟨w2,hw2⟩ : ∃ W : World,W = (w.alloc (Obj.cells #[.int .i64 q,.int .i64 s,.slice a n c,.slice a' n' c'] 85)).alloc (Obj.cells #[.int .i64 p,.int .i64 r,.slice b m d,.slice b' m' d'] 85):=⟨_,rfl⟩
  rw [← hw2]
  have HX : Hid (LogBox w2 w.heap.size q s a n c a' n' c'):=⟨by rw [hw2]; simp [go_sem],by rw [hw2]; simp [go_sem],by rw [hw2]; simp [go_sem],by rw [hw2]; simp [go_sem]⟩
  have HY : Hid (LogBox w2 (w.heap.size + 1) p r b m d b' m' d'):=⟨by rw [hw2]; simp [go_sem],by rw [hw2]; simp [go_sem],by rw [hw2]; simp [go_sem],by rw [hw2]; simp [go_sem]⟩
  have hA : Below w.heap.size w w2:=by rw [hw2]; exact ((Below.refl _ _).alloc (Nat.le_refl _) _).alloc (by simp) _
  have hz2 : w2.heap.size = w.heap.size + 2:=by rw [hw2]; simp
  have l1 : w.heap.size < w2.heap.size:=by omega
  have l2 : w.heap.size + 1 < w2.heap.size:=by omega
  clear hw2
  go_cut [5,6] (fun s5 s6 wx=>∃ q5 q6,s5 = .pointer (some ⟨q5,0,none⟩) ∧ s6 = .pointer (some ⟨q6,0,none⟩) ∧ LogBox wx q5 q s a n c a' n' c' ∧ LogBox wx q6 p r b m d b' m' d' ∧ Below w2.heap.size w2 wx)
  case first =>
    refine wp_region_held_drew (S:=(fun W=>Below w2.heap.size w2 W)) (by kernel_rfl) (Below.refl _ _).drew (fun hHeld=>?_)
    refine listH (l2:=#[false,false,false,false,false,false,false,false]) (by kernel_rfl) ?_
    have hB : Below w2.heap.size w2 w2.drew:=(Below.refl _ _).drew
    refine takeH (i:=0) (oi:=_) (v:=?vk1) 7 #[true,false,false,false,false,false,false,false] rfl (by kernel_rfl) (by kernel_rfl) (by kernel_rfl) rfl (by kernel_rfl) (fun _ _ _ h=>h) (Or.inl ⟨by rfl,?yk1⟩) (by assumption) ?rk1
    case yk1=>(intro w' hSw; have x0:=hSw.cell (p:=⟨w.heap.size,0,none⟩) (by simpa using l1); have x1:=hSw.cell (p:=⟨w.heap.size,1,none⟩) (by simpa using l1); have x2:=hSw.cell (p:=⟨w.heap.size,2,none⟩) (by simpa using l1); have x3:=hSw.cell (p:=⟨w.heap.size,3,none⟩) (by simpa using l1); rw [HX.out.c0] at x0; rw [HX.out.c1] at x1; rw [HX.out.c2] at x2; rw [HX.out.c3] at x3; go_simp; try with_reducible rfl)
    simp only [Act.put,sT,sS,sZ]
    refine takeH (i:=2) (oi:=_) (v:=?vk2) 9 #[true,false,true,false,false,false,false,false] rfl (by kernel_rfl) (by kernel_rfl) (by kernel_rfl) rfl (by kernel_rfl) (fun _ _ _ h=>h) (Or.inl ⟨by rfl,?yk2⟩) (by assumption) ?rk2
    case yk2=>(intro w' hSw; have x0:=hSw.cell (p:=⟨w.heap.size + 1,0,none⟩) (by simpa using l2); have x1:=hSw.cell (p:=⟨w.heap.size + 1,1,none⟩) (by simpa using l2); have x2:=hSw.cell (p:=⟨w.heap.size + 1,2,none⟩) (by simpa using l2); have x3:=hSw.cell (p:=⟨w.heap.size + 1,3,none⟩) (by simpa using l2); rw [HY.out.c0] at x0; rw [HY.out.c1] at x1; rw [HY.out.c2] at x2; rw [HY.out.c3] at x3; go_simp; try with_reducible rfl)
    simp only [Act.put,sT,sS,sZ]
    refine wpAnyH_ready (rs:=[1,4,5]) (by kernel_rfl) (by simp) ?_
    refine AllReadyH.cons (o:=_) rfl (fun K hK=>?_) (AllReadyH.cons (o:=_) rfl (fun K hK=>?_) (AllReadyH.cons (o:=_) rfl (fun K hK=>?_) AllReadyH.nil))
    · go_simp
      refine (bundleOf_any _ _ _ _ _ _ _ _ _).mono ?_
      rintro e V1 ⟨rfl,hbS⟩
      have hB : Below w2.heap.size w2 V1:=hB.trans (hbS.mono hB.size)
      clear hbS
      try dsimp only
      refine hK.out _ _ hB (fun hHeld=>?_)
      clear hK K
      try simp only [Act.put]
      refine listH (l2:=#[true,true,true,false,false,false,false,false]) (by kernel_rfl) ?_
      refine wpAnyH_ready (rs:=[3,4,5]) (by kernel_rfl) (by simp) ?_
      refine AllReadyH.cons (o:=_) rfl (fun K hK=>?_) (AllReadyH.cons (o:=_) rfl (fun K hK=>?_) (AllReadyH.cons (o:=_) rfl (fun K hK=>?_) AllReadyH.nil))
      · go_simp
        refine (bundleOf_any _ _ _ _ _ _ _ _ _).mono ?_
        rintro e V2 ⟨rfl,hbS⟩
        have hB : Below w2.heap.size w2 V2:=hB.trans (hbS.mono hB.size)
        clear hbS
        try dsimp only
        refine hK.out _ _ hB (fun hHeld=>?_)
        clear hK K
        try simp only [Act.put]
        refine listH (l2:=#[true,true,true,true,false,false,false,false]) (by kernel_rfl) ?_
        refine wpAnyH_ready (rs:=[4,5]) (by kernel_rfl) (by simp) ?_
        refine AllReadyH.cons (o:=_) rfl (fun K hK=>?_) (AllReadyH.cons (o:=_) rfl (fun K hK=>?_) AllReadyH.nil)
        · refine st_allocL _ 5 ?_
          intro q5 V3 hq5 hbS R5n
          have lo5 : w2.heap.size ≤ q5:=by rw [hq5]; exact hB.size
          have hB : Below w2.heap.size w2 V3:=hB.trans (hbS.mono hB.size)
          have R5:=R5n
          clear R5n hbS hq5
          refine hK.out _ _ hB (fun hHeld=>?_)
          clear hK K
          simp only [Act.put,sT,sS,sZ]
          refine listH (l2:=#[true,true,true,true,true,false,false,false]) (by kernel_rfl) ?_
          have RL5:=R5.lt
          refine wpAnyH_ready (rs:=[5]) (by kernel_rfl) (by simp) ?_
          refine AllReadyH.cons (o:=_) rfl (fun K hK=>?_) AllReadyH.nil
          refine st_allocL _ 6 ?_
          intro q6 V4 hq6 hbS R6n
          have R5:=R5.of_block (hbS.block _ R5.lt)
          have lo6 : w2.heap.size ≤ q6:=by rw [hq6]; exact hB.size
          have ne56 : q5 ≠ q6:=by have:=RL5; have:=hq6; omega
          have hB : Below w2.heap.size w2 V4:=hB.trans (hbS.mono hB.size)
          have R6:=R6n
          clear R6n hbS hq6
          refine hK.out _ _ hB (fun hHeld=>?_)
          clear hK K
          simp only [Act.put,sT,sS,sZ]
          refine listH (l2:=#[true,true,true,true,true,true,false,false]) (by kernel_rfl) ?_
          refine wpAnyH_ready (rs:=[6]) (by kernel_rfl) (by simp) ?_
          refine AllReadyH.cons (o:=_) rfl (fun K hK=>?_) AllReadyH.nil
          refine st_storeL _ 5 8 q5 _ _ _ _ _ _ _ _ rfl rfl R5 ?_
          intro V6 hbS B5
          have R6:=R6.of_block (hbS.block _ ne56.symm R6.lt)
          have hB : Below w2.heap.size w2 V6:=hB.trans (hbS.below.mono lo5)
          clear hbS R5
          refine hK.out _ _ hB (fun hHeld=>?_)
          clear hK K
          refine listH (l2:=#[true,true,true,true,true,true,true,false]) (by kernel_rfl) ?_
          refine wpAnyH_ready (rs:=[7]) (by kernel_rfl) (by simp) ?_
          refine AllReadyH.cons (o:=_) rfl (fun K hK=>?_) AllReadyH.nil
          refine st_storeL _ 6 10 q6 _ _ _ _ _ _ _ _ rfl rfl R6 ?_
          intro V7 hbS B6
          have B5:=B5.of (hbS.block _ ne56 (World.block_lt_of_cell? _ _ B5.c0))
          have hB : Below w2.heap.size w2 V7:=hB.trans (hbS.below.mono lo6)
          clear hbS R6
          refine hK.out _ _ hB (fun hHeld=>?_)
          clear hK K
          refine wpAnyH_done (by kernel_rfl) ?_ _
          go_wp2_with fail
          go_meet
          exact ⟨q5,q6,rfl,rfl,B5,B6,hB⟩
        · refine st_allocL _ 6 ?_
          intro q6 V5 hq6 hbS R6n
          have lo6 : w2.heap.size ≤ q6:=by rw [hq6]; exact hB.size
          have hB : Below w2.heap.size w2 V5:=hB.trans (hbS.mono hB.size)
          have R6:=R6n
          clear R6n hbS hq6
          refine hK.out _ _ hB (fun hHeld=>?_)
          clear hK K
          simp only [Act.put,sT,sS,sZ]
          refine listH (l2:=#[true,true,true,true,false,true,false,false]) (by kernel_rfl) ?_
          have RL6:=R6.lt
          refine wpAnyH_ready (rs:=[4]) (by kernel_rfl) (by simp) ?_
          refine AllReadyH.cons (o:=_) rfl (fun K hK=>?_) AllReadyH.nil
          refine st_allocL _ 5 ?_
          intro q5 V6 hq5 hbS R5n
          have R6:=R6.of_block (hbS.block _ R6.lt)
          have lo5 : w2.heap.size ≤ q5:=by rw [hq5]; exact hB.size
          have ne56 : q5 ≠ q6:=by have:=RL6; have:=hq5; omega
          have hB : Below w2.heap.size w2 V6:=hB.trans (hbS.mono hB.size)
          have R5:=R5n
          clear R5n hbS hq5
          refine hK.out _ _ hB (fun hHeld=>?_)
          clear hK K
          simp only [Act.put,sT,sS,sZ]
          refine listH (l2:=#[true,true,true,true,true,true,false,false]) (by kernel_rfl) ?_
          refine wpAnyH_ready (rs:=[6]) (by kernel_rfl) (by simp) ?_
          refine AllReadyH.cons (o:=_) rfl (fun K hK=>?_) AllReadyH.nil
          refine st_storeL _ 5 8 q5 _ _ _ _ _ _ _ _ rfl rfl R5 ?_
          intro V6 hbS B5
          have R6:=R6.of_block (hbS.block _ ne56.symm R6.lt)
          have hB : Below w2.heap.size w2 V6:=hB.trans (hbS.below.mono lo5)
          clear hbS R5
          refine hK.out _ _ hB (fun hHeld=>?_)
          clear hK K
          refine listH (l2:=#[true,true,true,true,true,true,true,false]) (by kernel_rfl) ?_
          refine wpAnyH_ready (rs:=[7]) (by kernel_rfl) (by simp) ?_
          refine AllReadyH.cons (o:=_) rfl (fun K hK=>?_) AllReadyH.nil
          refine st_storeL _ 6 10 q6 _ _ _ _ _ _ _ _ rfl rfl R6 ?_
          intro V7 hbS B6
          have B5:=B5.of (hbS.block _ ne56 (World.block_lt_of_cell? _ _ B5.c0))
          have hB : Below w2.heap.size w2 V7:=hB.trans (hbS.below.mono lo6)
          clear hbS R6
          refine hK.out _ _ hB (fun hHeld=>?_)
          clear hK K
          refine wpAnyH_done (by kernel_rfl) ?_ _
          go_wp2_with fail
          go_meet
          exact ⟨q5,q6,rfl,rfl,B5,B6,hB⟩
      · refine st_allocL _ 5 ?_
        intro q5 V7 hq5 hbS R5n
        have lo5 : w2.heap.size ≤ q5:=by rw [hq5]; exact hB.size
        have hB : Below w2.heap.size w2 V7:=hB.trans (hbS.mono hB.size)
        have R5:=R5n
        clear R5n hbS hq5
        refine hK.out _ _ hB (fun hHeld=>?_)
        clear hK K
        simp only [Act.put,sT,sS,sZ]
        refine listH (l2:=#[true,true,true,false,true,false,false,false]) (by kernel_rfl) ?_
        have RL5:=R5.lt
        refine wpAnyH_ready (rs:=[3,5]) (by kernel_rfl) (by simp) ?_
        refine AllReadyH.cons (o:=_) rfl (fun K hK=>?_) (AllReadyH.cons (o:=_) rfl (fun K hK=>?_) AllReadyH.nil)
        · go_simp
          refine (bundleOf_any _ _ _ _ _ _ _ _ _).mono ?_
          rintro e V8 ⟨rfl,hbS⟩
          have R5:=R5.of_block (hbS.block _ R5.lt)
          have hB : Below w2.heap.size w2 V8:=hB.trans (hbS.mono hB.size)
          clear hbS
          try dsimp only
          refine hK.out _ _ hB (fun hHeld=>?_)
          clear hK K
          try simp only [Act.put]
          refine listH (l2:=#[true,true,true,true,true,false,false,false]) (by kernel_rfl) ?_
          have RL5:=R5.lt
          refine wpAnyH_ready (rs:=[5]) (by kernel_rfl) (by simp) ?_
          refine AllReadyH.cons (o:=_) rfl (fun K hK=>?_) AllReadyH.nil
          refine st_allocL _ 6 ?_
          intro q6 V9 hq6 hbS R6n
          have R5:=R5.of_block (hbS.block _ R5.lt)
          have lo6 : w2.heap.size ≤ q6:=by rw [hq6]; exact hB.size
          have ne56 : q5 ≠ q6:=by have:=RL5; have:=hq6; omega
          have hB : Below w2.heap.size w2 V9:=hB.trans (hbS.mono hB.size)
          have R6:=R6n
          clear R6n hbS hq6
          refine hK.out _ _ hB (fun hHeld=>?_)
          clear hK K
          simp only [Act.put,sT,sS,sZ]
          refine listH (l2:=#[true,true,true,true,true,true,false,false]) (by kernel_rfl) ?_
          refine wpAnyH_ready (rs:=[6]) (by kernel_rfl) (by simp) ?_
          refine AllReadyH.cons (o:=_) rfl (fun K hK=>?_) AllReadyH.nil
          refine st_storeL _ 5 8 q5 _ _ _ _ _ _ _ _ rfl rfl R5 ?_
          intro V6 hbS B5
          have R6:=R6.of_block (hbS.block _ ne56.symm R6.lt)
          have hB : Below w2.heap.size w2 V6:=hB.trans (hbS.below.mono lo5)
          clear hbS R5
          refine hK.out _ _ hB (fun hHeld=>?_)
          clear hK K
          refine listH (l2:=#[true,true,true,true,true,true,true,false]) (by kernel_rfl) ?_
          refine wpAnyH_ready (rs:=[7]) (by kernel_rfl) (by simp) ?_
          refine AllReadyH.cons (o:=_) rfl (fun K hK=>?_) AllReadyH.nil
          refine st_storeL _ 6 10 q6 _ _ _ _ _ _ _ _ rfl rfl R6 ?_
          intro V7 hbS B6
          have B5:=B5.of (hbS.block _ ne56 (World.block_lt_of_cell? _ _ B5.c0))
          have hB : Below w2.heap.size w2 V7:=hB.trans (hbS.below.mono lo6)
          clear hbS R6
          refine hK.out _ _ hB (fun hHeld=>?_)
          clear hK K
          refine wpAnyH_done (by kernel_rfl) ?_ _
          go_wp2_with fail
          go_meet
          exact ⟨q5,q6,rfl,rfl,B5,B6,hB⟩
        · refine st_allocL _ 6 ?_
          intro q6 V10 hq6 hbS R6n
          have R5:=R5.of_block (hbS.block _ R5.lt)
          have lo6 : w2.heap.size ≤ q6:=by rw [hq6]; exact hB.size
          have ne56 : q5 ≠ q6:=by have:=RL5; have:=hq6; omega
          have hB : Below w2.heap.size w2 V10:=hB.trans (hbS.mono hB.size)
          have R6:=R6n
          clear R6n hbS hq6
          refine hK.out _ _ hB (fun hHeld=>?_)
          clear hK K
          simp only [Act.put,sT,sS,sZ]
          refine listH (l2:=#[true,true,true,false,true,true,false,false]) (by kernel_rfl) ?_
          refine wpAnyH_ready (rs:=[3]) (by kernel_rfl) (by simp) ?_
          refine AllReadyH.cons (o:=_) rfl (fun K hK=>?_) AllReadyH.nil
          go_simp
          refine (bundleOf_any _ _ _ _ _ _ _ _ _).mono ?_
          rintro e V11 ⟨rfl,hbS⟩
          have R5:=R5.of_block (hbS.block _ R5.lt)
          have R6:=R6.of_block (hbS.block _ R6.lt)
          have hB : Below w2.heap.size w2 V11:=hB.trans (hbS.mono hB.size)
          clear hbS
          try dsimp only
          refine hK.out _ _ hB (fun hHeld=>?_)
          clear hK K
          try simp only [Act.put]
          refine listH (l2:=#[true,true,true,true,true,true,false,false]) (by kernel_rfl) ?_
          refine wpAnyH_ready (rs:=[6]) (by kernel_rfl) (by simp) ?_
          refine AllReadyH.cons (o:=_) rfl (fun K hK=>?_) AllReadyH.nil
          refine st_storeL _ 5 8 q5 _ _ _ _ _ _ _ _ rfl rfl R5 ?_
          intro V6 hbS B5
          have R6:=R6.of_block (hbS.block _ ne56.symm R6.lt)
          have hB : Below w2.heap.size w2 V6:=hB.trans (hbS.below.mono lo5)
          clear hbS R5
          refine hK.out _ _ hB (fun hHeld=>?_)
          clear hK K
          refine listH (l2:=#[true,true,true,true,true,true,true,false]) (by kernel_rfl) ?_
          refine wpAnyH_ready (rs:=[7]) (by kernel_rfl) (by simp) ?_
          refine AllReadyH.cons (o:=_) rfl (fun K hK=>?_) AllReadyH.nil
          refine st_storeL _ 6 10 q6 _ _ _ _ _ _ _ _ rfl rfl R6 ?_
          intro V7 hbS B6
          have B5:=B5.of (hbS.block _ ne56 (World.block_lt_of_cell? _ _ B5.c0))
          have hB : Below w2.heap.size w2 V7:=hB.trans (hbS.below.mono lo6)
          clear hbS R6
          refine hK.out _ _ hB (fun hHeld=>?_)
          clear hK K
          refine wpAnyH_done (by kernel_rfl) ?_ _
          go_wp2_with fail
          go_meet
          exact ⟨q5,q6,rfl,rfl,B5,B6,hB⟩
      · refine st_allocL _ 6 ?_
        intro q6 V12 hq6 hbS R6n
        have lo6 : w2.heap.size ≤ q6:=by rw [hq6]; exact hB.size
        have hB : Below w2.heap.size w2 V12:=hB.trans (hbS.mono hB.size)
        have R6:=R6n
        clear R6n hbS hq6
        refine hK.out _ _ hB (fun hHeld=>?_)
        clear hK K
        simp only [Act.put,sT,sS,sZ]
        refine listH (l2:=#[true,true,true,false,false,true,false,false]) (by kernel_rfl) ?_
        have RL6:=R6.lt
        refine wpAnyH_ready (rs:=[3,4]) (by kernel_rfl) (by simp) ?_
        refine AllReadyH.cons (o:=_) rfl (fun K hK=>?_) (AllReadyH.cons (o:=_) rfl (fun K hK=>?_) AllReadyH.nil)
        · go_simp
          refine (bundleOf_any _ _ _ _ _ _ _ _ _).mono ?_
          rintro e V13 ⟨rfl,hbS⟩
          have R6:=R6.of_block (hbS.block _ R6.lt)
          have hB : Below w2.heap.size w2 V13:=hB.trans (hbS.mono hB.size)
          clear hbS
          try dsimp only
          refine hK.out _ _ hB (fun hHeld=>?_)
          clear hK K
          try simp only [Act.put]
          refine listH (l2:=#[true,true,true,true,false,true,false,false]) (by kernel_rfl) ?_
          have RL6:=R6.lt
          refine wpAnyH_ready (rs:=[4]) (by kernel_rfl) (by simp) ?_
          refine AllReadyH.cons (o:=_) rfl (fun K hK=>?_) AllReadyH.nil
          refine st_allocL _ 5 ?_
          intro q5 V14 hq5 hbS R5n
          have R6:=R6.of_block (hbS.block _ R6.lt)
          have lo5 : w2.heap.size ≤ q5:=by rw [hq5]; exact hB.size
          have ne56 : q5 ≠ q6:=by have:=RL6; have:=hq5; omega
          have hB : Below w2.heap.size w2 V14:=hB.trans (hbS.mono hB.size)
          have R5:=R5n
          clear R5n hbS hq5
          refine hK.out _ _ hB (fun hHeld=>?_)
          clear hK K
          simp only [Act.put,sT,sS,sZ]
          refine listH (l2:=#[true,true,true,true,true,true,false,false]) (by kernel_rfl) ?_
          refine wpAnyH_ready (rs:=[6]) (by kernel_rfl) (by simp) ?_
          refine AllReadyH.cons (o:=_) rfl (fun K hK=>?_) AllReadyH.nil
          refine st_storeL _ 5 8 q5 _ _ _ _ _ _ _ _ rfl rfl R5 ?_
          intro V6 hbS B5
          have R6:=R6.of_block (hbS.block _ ne56.symm R6.lt)
          have hB : Below w2.heap.size w2 V6:=hB.trans (hbS.below.mono lo5)
          clear hbS R5
          refine hK.out _ _ hB (fun hHeld=>?_)
          clear hK K
          refine listH (l2:=#[true,true,true,true,true,true,true,false]) (by kernel_rfl) ?_
          refine wpAnyH_ready (rs:=[7]) (by kernel_rfl) (by simp) ?_
          refine AllReadyH.cons (o:=_) rfl (fun K hK=>?_) AllReadyH.nil
          refine st_storeL _ 6 10 q6 _ _ _ _ _ _ _ _ rfl rfl R6 ?_
          intro V7 hbS B6
          have B5:=B5.of (hbS.block _ ne56 (World.block_lt_of_cell? _ _ B5.c0))
          have hB : Below w2.heap.size w2 V7:=hB.trans (hbS.below.mono lo6)
          clear hbS R6
          refine hK.out _ _ hB (fun hHeld=>?_)
          clear hK K
          refine wpAnyH_done (by kernel_rfl) ?_ _
          go_wp2_with fail
          go_meet
          exact ⟨q5,q6,rfl,rfl,B5,B6,hB⟩
        · refine st_allocL _ 5 ?_
          intro q5 V15 hq5 hbS R5n
          have R6:=R6.of_block (hbS.block _ R6.lt)
          have lo5 : w2.heap.size ≤ q5:=by rw [hq5]; exact hB.size
          have ne56 : q5 ≠ q6:=by have:=RL6; have:=hq5; omega
          have hB : Below w2.heap.size w2 V15:=hB.trans (hbS.mono hB.size)
          have R5:=R5n
          clear R5n hbS hq5
          refine hK.out _ _ hB (fun hHeld=>?_)
          clear hK K
          simp only [Act.put,sT,sS,sZ]
          refine listH (l2:=#[true,true,true,false,true,true,false,false]) (by kernel_rfl) ?_
          refine wpAnyH_ready (rs:=[3]) (by kernel_rfl) (by simp) ?_
          refine AllReadyH.cons (o:=_) rfl (fun K hK=>?_) AllReadyH.nil
          go_simp
          refine (bundleOf_any _ _ _ _ _ _ _ _ _).mono ?_
          rintro e V16 ⟨rfl,hbS⟩
          have R5:=R5.of_block (hbS.block _ R5.lt)
          have R6:=R6.of_block (hbS.block _ R6.lt)
          have hB : Below w2.heap.size w2 V16:=hB.trans (hbS.mono hB.size)
          clear hbS
          try dsimp only
          refine hK.out _ _ hB (fun hHeld=>?_)
          clear hK K
          try simp only [Act.put]
          refine listH (l2:=#[true,true,true,true,true,true,false,false]) (by kernel_rfl) ?_
          refine wpAnyH_ready (rs:=[6]) (by kernel_rfl) (by simp) ?_
          refine AllReadyH.cons (o:=_) rfl (fun K hK=>?_) AllReadyH.nil
          refine st_storeL _ 5 8 q5 _ _ _ _ _ _ _ _ rfl rfl R5 ?_
          intro V6 hbS B5
          have R6:=R6.of_block (hbS.block _ ne56.symm R6.lt)
          have hB : Below w2.heap.size w2 V6:=hB.trans (hbS.below.mono lo5)
          clear hbS R5
          refine hK.out _ _ hB (fun hHeld=>?_)
          clear hK K
          refine listH (l2:=#[true,true,true,true,true,true,true,false]) (by kernel_rfl) ?_
          refine wpAnyH_ready (rs:=[7]) (by kernel_rfl) (by simp) ?_
          refine AllReadyH.cons (o:=_) rfl (fun K hK=>?_) AllReadyH.nil
          refine st_storeL _ 6 10 q6 _ _ _ _ _ _ _ _ rfl rfl R6 ?_
          intro V7 hbS B6
          have B5:=B5.of (hbS.block _ ne56 (World.block_lt_of_cell? _ _ B5.c0))
          have hB : Below w2.heap.size w2 V7:=hB.trans (hbS.below.mono lo6)
          clear hbS R6
          refine hK.out _ _ hB (fun hHeld=>?_)
          clear hK K
          refine wpAnyH_done (by kernel_rfl) ?_ _
          go_wp2_with fail
          go_meet
          exact ⟨q5,q6,rfl,rfl,B5,B6,hB⟩
    · refine st_allocL _ 5 ?_
      intro q5 V17 hq5 hbS R5n
      have lo5 : w2.heap.size ≤ q5:=by rw [hq5]; exact hB.size
      have hB : Below w2.heap.size w2 V17:=hB.trans (hbS.mono hB.size)
      have R5:=R5n
      clear R5n hbS hq5
      refine hK.out _ _ hB (fun hHeld=>?_)
      clear hK K
      simp only [Act.put,sT,sS,sZ]
      refine listH (l2:=#[true,false,true,false,true,false,false,false]) (by kernel_rfl) ?_
      have RL5:=R5.lt
      refine wpAnyH_ready (rs:=[1,5]) (by kernel_rfl) (by simp) ?_
      refine AllReadyH.cons (o:=_) rfl (fun K hK=>?_) (AllReadyH.cons (o:=_) rfl (fun K hK=>?_) AllReadyH.nil)
      · go_simp
        refine (bundleOf_any _ _ _ _ _ _ _ _ _).mono ?_
        rintro e V18 ⟨rfl,hbS⟩
        have R5:=R5.of_block (hbS.block _ R5.lt)
        have hB : Below w2.heap.size w2 V18:=hB.trans (hbS.mono hB.size)
        clear hbS
        try dsimp only
        refine hK.out _ _ hB (fun hHeld=>?_)
        clear hK K
        try simp only [Act.put]
        refine listH (l2:=#[true,true,true,false,true,false,false,false]) (by kernel_rfl) ?_
        have RL5:=R5.lt
        refine wpAnyH_ready (rs:=[3,5]) (by kernel_rfl) (by simp) ?_
        refine AllReadyH.cons (o:=_) rfl (fun K hK=>?_) (AllReadyH.cons (o:=_) rfl (fun K hK=>?_) AllReadyH.nil)
        · go_simp
          refine (bundleOf_any _ _ _ _ _ _ _ _ _).mono ?_
          rintro e V19 ⟨rfl,hbS⟩
          have R5:=R5.of_block (hbS.block _ R5.lt)
          have hB : Below w2.heap.size w2 V19:=hB.trans (hbS.mono hB.size)
          clear hbS
          try dsimp only
          refine hK.out _ _ hB (fun hHeld=>?_)
          clear hK K
          try simp only [Act.put]
          refine listH (l2:=#[true,true,true,true,true,false,false,false]) (by kernel_rfl) ?_
          have RL5:=R5.lt
          refine wpAnyH_ready (rs:=[5]) (by kernel_rfl) (by simp) ?_
          refine AllReadyH.cons (o:=_) rfl (fun K hK=>?_) AllReadyH.nil
          refine st_allocL _ 6 ?_
          intro q6 V20 hq6 hbS R6n
          have R5:=R5.of_block (hbS.block _ R5.lt)
          have lo6 : w2.heap.size ≤ q6:=by rw [hq6]; exact hB.size
          have ne56 : q5 ≠ q6:=by have:=RL5; have:=hq6; omega
          have hB : Below w2.heap.size w2 V20:=hB.trans (hbS.mono hB.size)
          have R6:=R6n
          clear R6n hbS hq6
          refine hK.out _ _ hB (fun hHeld=>?_)
          clear hK K
          simp only [Act.put,sT,sS,sZ]
          refine listH (l2:=#[true,true,true,true,true,true,false,false]) (by kernel_rfl) ?_
          refine wpAnyH_ready (rs:=[6]) (by kernel_rfl) (by simp) ?_
          refine AllReadyH.cons (o:=_) rfl (fun K hK=>?_) AllReadyH.nil
          refine st_storeL _ 5 8 q5 _ _ _ _ _ _ _ _ rfl rfl R5 ?_
          intro V6 hbS B5
          have R6:=R6.of_block (hbS.block _ ne56.symm R6.lt)
          have hB : Below w2.heap.size w2 V6:=hB.trans (hbS.below.mono lo5)
          clear hbS R5
          refine hK.out _ _ hB (fun hHeld=>?_)
          clear hK K
          refine listH (l2:=#[true,true,true,true,true,true,true,false]) (by kernel_rfl) ?_
          refine wpAnyH_ready (rs:=[7]) (by kernel_rfl) (by simp) ?_
          refine AllReadyH.cons (o:=_) rfl (fun K hK=>?_) AllReadyH.nil
          refine st_storeL _ 6 10 q6 _ _ _ _ _ _ _ _ rfl rfl R6 ?_
          intro V7 hbS B6
          have B5:=B5.of (hbS.block _ ne56 (World.block_lt_of_cell? _ _ B5.c0))
          have hB : Below w2.heap.size w2 V7:=hB.trans (hbS.below.mono lo6)
          clear hbS R6
          refine hK.out _ _ hB (fun hHeld=>?_)
          clear hK K
          refine wpAnyH_done (by kernel_rfl) ?_ _
          go_wp2_with fail
          go_meet
          exact ⟨q5,q6,rfl,rfl,B5,B6,hB⟩
        · refine st_allocL _ 6 ?_
          intro q6 V21 hq6 hbS R6n
          have R5:=R5.of_block (hbS.block _ R5.lt)
          have lo6 : w2.heap.size ≤ q6:=by rw [hq6]; exact hB.size
          have ne56 : q5 ≠ q6:=by have:=RL5; have:=hq6; omega
          have hB : Below w2.heap.size w2 V21:=hB.trans (hbS.mono hB.size)
          have R6:=R6n
          clear R6n hbS hq6
          refine hK.out _ _ hB (fun hHeld=>?_)
          clear hK K
          simp only [Act.put,sT,sS,sZ]
          refine listH (l2:=#[true,true,true,false,true,true,false,false]) (by kernel_rfl) ?_
          refine wpAnyH_ready (rs:=[3]) (by kernel_rfl) (by simp) ?_
          refine AllReadyH.cons (o:=_) rfl (fun K hK=>?_) AllReadyH.nil
          go_simp
          refine (bundleOf_any _ _ _ _ _ _ _ _ _).mono ?_
          rintro e V22 ⟨rfl,hbS⟩
          have R5:=R5.of_block (hbS.block _ R5.lt)
          have R6:=R6.of_block (hbS.block _ R6.lt)
          have hB : Below w2.heap.size w2 V22:=hB.trans (hbS.mono hB.size)
          clear hbS
          try dsimp only
          refine hK.out _ _ hB (fun hHeld=>?_)
          clear hK K
          try simp only [Act.put]
          refine listH (l2:=#[true,true,true,true,true,true,false,false]) (by kernel_rfl) ?_
          refine wpAnyH_ready (rs:=[6]) (by kernel_rfl) (by simp) ?_
          refine AllReadyH.cons (o:=_) rfl (fun K hK=>?_) AllReadyH.nil
          refine st_storeL _ 5 8 q5 _ _ _ _ _ _ _ _ rfl rfl R5 ?_
          intro V6 hbS B5
          have R6:=R6.of_block (hbS.block _ ne56.symm R6.lt)
          have hB : Below w2.heap.size w2 V6:=hB.trans (hbS.below.mono lo5)
          clear hbS R5
          refine hK.out _ _ hB (fun hHeld=>?_)
          clear hK K
          refine listH (l2:=#[true,true,true,true,true,true,true,false]) (by kernel_rfl) ?_
          refine wpAnyH_ready (rs:=[7]) (by kernel_rfl) (by simp) ?_
          refine AllReadyH.cons (o:=_) rfl (fun K hK=>?_) AllReadyH.nil
          refine st_storeL _ 6 10 q6 _ _ _ _ _ _ _ _ rfl rfl R6 ?_
          intro V7 hbS B6
          have B5:=B5.of (hbS.block _ ne56 (World.block_lt_of_cell? _ _ B5.c0))
          have hB : Below w2.heap.size w2 V7:=hB.trans (hbS.below.mono lo6)
          clear hbS R6
          refine hK.out _ _ hB (fun hHeld=>?_)
          clear hK K
          refine wpAnyH_done (by kernel_rfl) ?_ _
          go_wp2_with fail
          go_meet
          exact ⟨q5,q6,rfl,rfl,B5,B6,hB⟩
      · refine st_allocL _ 6 ?_
        intro q6 V23 hq6 hbS R6n
        have R5:=R5.of_block (hbS.block _ R5.lt)
        have lo6 : w2.heap.size ≤ q6:=by rw [hq6]; exact hB.size
        have ne56 : q5 ≠ q6:=by have:=RL5; have:=hq6; omega
        have hB : Below w2.heap.size w2 V23:=hB.trans (hbS.mono hB.size)
        have R6:=R6n
        clear R6n hbS hq6
        refine hK.out _ _ hB (fun hHeld=>?_)
        clear hK K
        simp only [Act.put,sT,sS,sZ]
        refine listH (l2:=#[true,false,true,false,true,true,false,false]) (by kernel_rfl) ?_
        refine wpAnyH_ready (rs:=[1]) (by kernel_rfl) (by simp) ?_
        refine AllReadyH.cons (o:=_) rfl (fun K hK=>?_) AllReadyH.nil
        go_simp
        refine (bundleOf_any _ _ _ _ _ _ _ _ _).mono ?_
        rintro e V24 ⟨rfl,hbS⟩
        have R5:=R5.of_block (hbS.block _ R5.lt)
        have R6:=R6.of_block (hbS.block _ R6.lt)
        have hB : Below w2.heap.size w2 V24:=hB.trans (hbS.mono hB.size)
        clear hbS
        try dsimp only
        refine hK.out _ _ hB (fun hHeld=>?_)
        clear hK K
        try simp only [Act.put]
        refine listH (l2:=#[true,true,true,false,true,true,false,false]) (by kernel_rfl) ?_
        refine wpAnyH_ready (rs:=[3]) (by kernel_rfl) (by simp) ?_
        refine AllReadyH.cons (o:=_) rfl (fun K hK=>?_) AllReadyH.nil
        go_simp
        refine (bundleOf_any _ _ _ _ _ _ _ _ _).mono ?_
        rintro e V25 ⟨rfl,hbS⟩
        have R5:=R5.of_block (hbS.block _ R5.lt)
        have R6:=R6.of_block (hbS.block _ R6.lt)
        have hB : Below w2.heap.size w2 V25:=hB.trans (hbS.mono hB.size)
        clear hbS
        try dsimp only
        refine hK.out _ _ hB (fun hHeld=>?_)
        clear hK K
        try simp only [Act.put]
        refine listH (l2:=#[true,true,true,true,true,true,false,false]) (by kernel_rfl) ?_
        refine wpAnyH_ready (rs:=[6]) (by kernel_rfl) (by simp) ?_
        refine AllReadyH.cons (o:=_) rfl (fun K hK=>?_) AllReadyH.nil
        refine st_storeL _ 5 8 q5 _ _ _ _ _ _ _ _ rfl rfl R5 ?_
        intro V6 hbS B5
        have R6:=R6.of_block (hbS.block _ ne56.symm R6.lt)
        have hB : Below w2.heap.size w2 V6:=hB.trans (hbS.below.mono lo5)
        clear hbS R5
        refine hK.out _ _ hB (fun hHeld=>?_)
        clear hK K
        refine listH (l2:=#[true,true,true,true,true,true,true,false]) (by kernel_rfl) ?_
        refine wpAnyH_ready (rs:=[7]) (by kernel_rfl) (by simp) ?_
        refine AllReadyH.cons (o:=_) rfl (fun K hK=>?_) AllReadyH.nil
        refine st_storeL _ 6 10 q6 _ _ _ _ _ _ _ _ rfl rfl R6 ?_
        intro V7 hbS B6
        have B5:=B5.of (hbS.block _ ne56 (World.block_lt_of_cell? _ _ B5.c0))
        have hB : Below w2.heap.size w2 V7:=hB.trans (hbS.below.mono lo6)
        clear hbS R6
        refine hK.out _ _ hB (fun hHeld=>?_)
        clear hK K
        refine wpAnyH_done (by kernel_rfl) ?_ _
        go_wp2_with fail
        go_meet
        exact ⟨q5,q6,rfl,rfl,B5,B6,hB⟩
    · refine st_allocL _ 6 ?_
      intro q6 V26 hq6 hbS R6n
      have lo6 : w2.heap.size ≤ q6:=by rw [hq6]; exact hB.size
      have hB : Below w2.heap.size w2 V26:=hB.trans (hbS.mono hB.size)
      have R6:=R6n
      clear R6n hbS hq6
      refine hK.out _ _ hB (fun hHeld=>?_)
      clear hK K
      simp only [Act.put,sT,sS,sZ]
      refine listH (l2:=#[true,false,true,false,false,true,false,false]) (by kernel_rfl) ?_
      have RL6:=R6.lt
      refine wpAnyH_ready (rs:=[1,4]) (by kernel_rfl) (by simp) ?_
      refine AllReadyH.cons (o:=_) rfl (fun K hK=>?_) (AllReadyH.cons (o:=_) rfl (fun K hK=>?_) AllReadyH.nil)
      · go_simp
        refine (bundleOf_any _ _ _ _ _ _ _ _ _).mono ?_
        rintro e V27 ⟨rfl,hbS⟩
        have R6:=R6.of_block (hbS.block _ R6.lt)
        have hB : Below w2.heap.size w2 V27:=hB.trans (hbS.mono hB.size)
        clear hbS
        try dsimp only
        refine hK.out _ _ hB (fun hHeld=>?_)
        clear hK K
        try simp only [Act.put]
        refine listH (l2:=#[true,true,true,false,false,true,false,false]) (by kernel_rfl) ?_
        have RL6:=R6.lt
        refine wpAnyH_ready (rs:=[3,4]) (by kernel_rfl) (by simp) ?_
        refine AllReadyH.cons (o:=_) rfl (fun K hK=>?_) (AllReadyH.cons (o:=_) rfl (fun K hK=>?_) AllReadyH.nil)
        · go_simp
          refine (bundleOf_any _ _ _ _ _ _ _ _ _).mono ?_
          rintro e V28 ⟨rfl,hbS⟩
          have R6:=R6.of_block (hbS.block _ R6.lt)
          have hB : Below w2.heap.size w2 V28:=hB.trans (hbS.mono hB.size)
          clear hbS
          try dsimp only
          refine hK.out _ _ hB (fun hHeld=>?_)
          clear hK K
          try simp only [Act.put]
          refine listH (l2:=#[true,true,true,true,false,true,false,false]) (by kernel_rfl) ?_
          have RL6:=R6.lt
          refine wpAnyH_ready (rs:=[4]) (by kernel_rfl) (by simp) ?_
          refine AllReadyH.cons (o:=_) rfl (fun K hK=>?_) AllReadyH.nil
          refine st_allocL _ 5 ?_
          intro q5 V29 hq5 hbS R5n
          have R6:=R6.of_block (hbS.block _ R6.lt)
          have lo5 : w2.heap.size ≤ q5:=by rw [hq5]; exact hB.size
          have ne56 : q5 ≠ q6:=by have:=RL6; have:=hq5; omega
          have hB : Below w2.heap.size w2 V29:=hB.trans (hbS.mono hB.size)
          have R5:=R5n
          clear R5n hbS hq5
          refine hK.out _ _ hB (fun hHeld=>?_)
          clear hK K
          simp only [Act.put,sT,sS,sZ]
          refine listH (l2:=#[true,true,true,true,true,true,false,false]) (by kernel_rfl) ?_
          refine wpAnyH_ready (rs:=[6]) (by kernel_rfl) (by simp) ?_
          refine AllReadyH.cons (o:=_) rfl (fun K hK=>?_) AllReadyH.nil
          refine st_storeL _ 5 8 q5 _ _ _ _ _ _ _ _ rfl rfl R5 ?_
          intro V6 hbS B5
          have R6:=R6.of_block (hbS.block _ ne56.symm R6.lt)
          have hB : Below w2.heap.size w2 V6:=hB.trans (hbS.below.mono lo5)
          clear hbS R5
          refine hK.out _ _ hB (fun hHeld=>?_)
          clear hK K
          refine listH (l2:=#[true,true,true,true,true,true,true,false]) (by kernel_rfl) ?_
          refine wpAnyH_ready (rs:=[7]) (by kernel_rfl) (by simp) ?_
          refine AllReadyH.cons (o:=_) rfl (fun K hK=>?_) AllReadyH.nil
          refine st_storeL _ 6 10 q6 _ _ _ _ _ _ _ _ rfl rfl R6 ?_
          intro V7 hbS B6
          have B5:=B5.of (hbS.block _ ne56 (World.block_lt_of_cell? _ _ B5.c0))
          have hB : Below w2.heap.size w2 V7:=hB.trans (hbS.below.mono lo6)
          clear hbS R6
          refine hK.out _ _ hB (fun hHeld=>?_)
          clear hK K
          refine wpAnyH_done (by kernel_rfl) ?_ _
          go_wp2_with fail
          go_meet
          exact ⟨q5,q6,rfl,rfl,B5,B6,hB⟩
        · refine st_allocL _ 5 ?_
          intro q5 V30 hq5 hbS R5n
          have R6:=R6.of_block (hbS.block _ R6.lt)
          have lo5 : w2.heap.size ≤ q5:=by rw [hq5]; exact hB.size
          have ne56 : q5 ≠ q6:=by have:=RL6; have:=hq5; omega
          have hB : Below w2.heap.size w2 V30:=hB.trans (hbS.mono hB.size)
          have R5:=R5n
          clear R5n hbS hq5
          refine hK.out _ _ hB (fun hHeld=>?_)
          clear hK K
          simp only [Act.put,sT,sS,sZ]
          refine listH (l2:=#[true,true,true,false,true,true,false,false]) (by kernel_rfl) ?_
          refine wpAnyH_ready (rs:=[3]) (by kernel_rfl) (by simp) ?_
          refine AllReadyH.cons (o:=_) rfl (fun K hK=>?_) AllReadyH.nil
          go_simp
          refine (bundleOf_any _ _ _ _ _ _ _ _ _).mono ?_
          rintro e V31 ⟨rfl,hbS⟩
          have R5:=R5.of_block (hbS.block _ R5.lt)
          have R6:=R6.of_block (hbS.block _ R6.lt)
          have hB : Below w2.heap.size w2 V31:=hB.trans (hbS.mono hB.size)
          clear hbS
          try dsimp only
          refine hK.out _ _ hB (fun hHeld=>?_)
          clear hK K
          try simp only [Act.put]
          refine listH (l2:=#[true,true,true,true,true,true,false,false]) (by kernel_rfl) ?_
          refine wpAnyH_ready (rs:=[6]) (by kernel_rfl) (by simp) ?_
          refine AllReadyH.cons (o:=_) rfl (fun K hK=>?_) AllReadyH.nil
          refine st_storeL _ 5 8 q5 _ _ _ _ _ _ _ _ rfl rfl R5 ?_
          intro V6 hbS B5
          have R6:=R6.of_block (hbS.block _ ne56.symm R6.lt)
          have hB : Below w2.heap.size w2 V6:=hB.trans (hbS.below.mono lo5)
          clear hbS R5
          refine hK.out _ _ hB (fun hHeld=>?_)
          clear hK K
          refine listH (l2:=#[true,true,true,true,true,true,true,false]) (by kernel_rfl) ?_
          refine wpAnyH_ready (rs:=[7]) (by kernel_rfl) (by simp) ?_
          refine AllReadyH.cons (o:=_) rfl (fun K hK=>?_) AllReadyH.nil
          refine st_storeL _ 6 10 q6 _ _ _ _ _ _ _ _ rfl rfl R6 ?_
          intro V7 hbS B6
          have B5:=B5.of (hbS.block _ ne56 (World.block_lt_of_cell? _ _ B5.c0))
          have hB : Below w2.heap.size w2 V7:=hB.trans (hbS.below.mono lo6)
          clear hbS R6
          refine hK.out _ _ hB (fun hHeld=>?_)
          clear hK K
          refine wpAnyH_done (by kernel_rfl) ?_ _
          go_wp2_with fail
          go_meet
          exact ⟨q5,q6,rfl,rfl,B5,B6,hB⟩
      · refine st_allocL _ 5 ?_
        intro q5 V32 hq5 hbS R5n
        have R6:=R6.of_block (hbS.block _ R6.lt)
        have lo5 : w2.heap.size ≤ q5:=by rw [hq5]; exact hB.size
        have ne56 : q5 ≠ q6:=by have:=RL6; have:=hq5; omega
        have hB : Below w2.heap.size w2 V32:=hB.trans (hbS.mono hB.size)
        have R5:=R5n
        clear R5n hbS hq5
        refine hK.out _ _ hB (fun hHeld=>?_)
        clear hK K
        simp only [Act.put,sT,sS,sZ]
        refine listH (l2:=#[true,false,true,false,true,true,false,false]) (by kernel_rfl) ?_
        refine wpAnyH_ready (rs:=[1]) (by kernel_rfl) (by simp) ?_
        refine AllReadyH.cons (o:=_) rfl (fun K hK=>?_) AllReadyH.nil
        go_simp
        refine (bundleOf_any _ _ _ _ _ _ _ _ _).mono ?_
        rintro e V33 ⟨rfl,hbS⟩
        have R5:=R5.of_block (hbS.block _ R5.lt)
        have R6:=R6.of_block (hbS.block _ R6.lt)
        have hB : Below w2.heap.size w2 V33:=hB.trans (hbS.mono hB.size)
        clear hbS
        try dsimp only
        refine hK.out _ _ hB (fun hHeld=>?_)
        clear hK K
        try simp only [Act.put]
        refine listH (l2:=#[true,true,true,false,true,true,false,false]) (by kernel_rfl) ?_
        refine wpAnyH_ready (rs:=[3]) (by kernel_rfl) (by simp) ?_
        refine AllReadyH.cons (o:=_) rfl (fun K hK=>?_) AllReadyH.nil
        go_simp
        refine (bundleOf_any _ _ _ _ _ _ _ _ _).mono ?_
        rintro e V34 ⟨rfl,hbS⟩
        have R5:=R5.of_block (hbS.block _ R5.lt)
        have R6:=R6.of_block (hbS.block _ R6.lt)
        have hB : Below w2.heap.size w2 V34:=hB.trans (hbS.mono hB.size)
        clear hbS
        try dsimp only
        refine hK.out _ _ hB (fun hHeld=>?_)
        clear hK K
        try simp only [Act.put]
        refine listH (l2:=#[true,true,true,true,true,true,false,false]) (by kernel_rfl) ?_
        refine wpAnyH_ready (rs:=[6]) (by kernel_rfl) (by simp) ?_
        refine AllReadyH.cons (o:=_) rfl (fun K hK=>?_) AllReadyH.nil
        refine st_storeL _ 5 8 q5 _ _ _ _ _ _ _ _ rfl rfl R5 ?_
        intro V6 hbS B5
        have R6:=R6.of_block (hbS.block _ ne56.symm R6.lt)
        have hB : Below w2.heap.size w2 V6:=hB.trans (hbS.below.mono lo5)
        clear hbS R5
        refine hK.out _ _ hB (fun hHeld=>?_)
        clear hK K
        refine listH (l2:=#[true,true,true,true,true,true,true,false]) (by kernel_rfl) ?_
        refine wpAnyH_ready (rs:=[7]) (by kernel_rfl) (by simp) ?_
        refine AllReadyH.cons (o:=_) rfl (fun K hK=>?_) AllReadyH.nil
        refine st_storeL _ 6 10 q6 _ _ _ _ _ _ _ _ rfl rfl R6 ?_
        intro V7 hbS B6
        have B5:=B5.of (hbS.block _ ne56 (World.block_lt_of_cell? _ _ B5.c0))
        have hB : Below w2.heap.size w2 V7:=hB.trans (hbS.below.mono lo6)
        clear hbS R6
        refine hK.out _ _ hB (fun hHeld=>?_)
        clear hK K
        refine wpAnyH_done (by kernel_rfl) ?_ _
        go_wp2_with fail
        go_meet
        exact ⟨q5,q6,rfl,rfl,B5,B6,hB⟩
  obtain ⟨q5,q6,rfl,rfl,⟨x0,x1,x2,x3⟩,⟨y0,y1,y2,y3⟩,hB⟩:=hcut
  have hC : Below w.heap.size w wc:=hA.trans (hB.mono hA.size)
  clear HX HY hB hA
  rcases t1 : (q == p) with _ | _
  · go_wp2_with fail
    go_ret
    exact ⟨ret_bool (by rw [HV.out,t1]; rfl),hC⟩
  rcases t2 : (s == r) with _ | _
  · go_wp2_with fail
    go_ret
    exact ⟨ret_bool (by rw [HV.out,t1,t2]; rfl),hC⟩
  go_wp2_with fail
  refine (equalBases _ _ _ _ _ _ _ _ L U L' U' _ (HB.below hC hU) (HB'.below hC hU')).mono ?_
  rintro e w4 ⟨rfl,m4,rfl⟩
  have hD : Below w.heap.size w (wc.drewN m4):=hC.trans ((Below.drewN wc m4).mono hC.size)
  rcases t3 : listEq baseEq l.bases k.bases with _ | _
  · go_wp2_with fail
    go_ret
    exact ⟨ret_bool (by rw [HV.out,t1,t2,t3]; rfl),hD⟩
  go_wp2_with fail
  refine (implOpSame _ _ _ _ _ _ _ _ L U L' U' _ (HO.below hD hU) (HO'.below hD hU')).mono ?_
  rintro e w5 ⟨rfl,m5,rfl⟩
  have hE : Below w.heap.size w ((wc.drewN m4).drewN m5):=hD.trans ((Below.drewN _ m5).mono hD.size)
  go_wp2_with fail
  go_ret
  exact ⟨ret_bool (by rw [HV.out,t1,t2,t3]; simp),by rw [← World.drewN_drewN]; exact hE⟩
end Go.Proofs.YtloopeipheklpaaGreatDoor
