/- Lemmas that the proofs of this seat share: LogD, HomeAll, SpecOk, Lay. -/
import Derived.Test.YtloopeipheklpaaGreatDoorW01
import Derived.Test.YtloopeipheklpaaGreatDoorW05
import Derived.Test.YtloopeipheklpaaGreatDoorW08
import Derived.Test.YtloopeipheklpaaGreatDoorW04
import Derived.Test.YtloopeipheklpaaGreatDoorW02
import Derived.BigRegion
namespace Go.Proofs.YtloopeipheklpaaGreatDoor
section
open Go.RowKit
def baseOf (x : LBase) (i : Nat) : Bool:=(x.id == (i : Int)) && (decide (0 ≤ x.ver) && decide (x.ver ≤ 1000000))
def basesFor : List LBase → List Nat → Bool
  | [],[]=>true
  | x :: xs,i :: is=>baseOf x i && basesFor xs is
  | _,_=>false
def whoB (q s : Int) : Bool:=decide (0 ≤ q) && decide (q < 3) && (decide (1 ≤ s) && decide (s ≤ 1000))
def logOk (l : LLog) : Bool:=whoB l.who l.seq && formsB l.list && basesFor l.bases (logIds l.list)
theorem basesFor_len : ∀ {xs : List LBase} {is : List Nat},xs.length ≠ is.length → basesFor xs is = false
  | [],[],h=>absurd rfl h
  | [],_ :: _,_=>rfl
  | _ :: _,[],_=>rfl
  | x :: xs,i :: is,h=>by
    have:=basesFor_len (xs:=xs) (is:=is) (by simpa using h)
    simp [basesFor,this]
theorem basesFor_no : ∀ {xs : List LBase} {is : List Nat} {j : Nat} {x : LBase} {i : Nat},xs[j]? = some x → is[j]? = some i → baseOf x i = false → basesFor xs is = false
  | [],_,_,_,_,h,_,_=>by simp at h
  | _ :: _,[],_,_,_,_,h,_=>by simp at h
  | x :: xs,i :: is,0,y,k,h1,h2,h3=>by
    simp at h1 h2; subst h1 h2; simp [basesFor,h3]
  | x :: xs,i :: is,j + 1,y,k,h1,h2,h3=>by
    have:=basesFor_no (xs:=xs) (is:=is) (j:=j) (x:=y) (i:=k) (by simpa using h1) (by simpa using h2) h3
    simp [basesFor,this]
theorem basesFor_yes : ∀ {xs : List LBase} {is : List Nat},xs.length = is.length → (∀ (j : Nat) x i,xs[j]? = some x → is[j]? = some i → baseOf x i = true) → basesFor xs is = true
  | [],[],_,_=>rfl
  | [],_ :: _,h,_=>by simp at h
  | _ :: _,[],h,_=>by simp at h
  | x :: xs,i :: is,h,hj=>by
    have h1:=basesFor_yes (xs:=xs) (is:=is) (by simpa using h) (fun j x i h1 h2=>hj (j + 1) x i (by simpa using h1) (by simpa using h2))
    have h2:=hj 0 x i rfl rfl
    simp [basesFor,h1,h2]
theorem isClient_any (q : Int) (w : World) : Calls Tryz.prog 85 #[.int .i64 q] w fun e w'=>e = .returned (.bool (decide (0 ≤ q) && decide (q < 3))) ∧ w' = w:=by
  by_cases h : 0 ≤ q
  · go_enter Tryz.func85,Tryz.ntmps85
    go_wp2
    go_ret
    exact ⟨ret_bool (by simp [h]),rfl⟩
  · go_enter Tryz.func85,Tryz.ntmps85
    go_wp2
    go_ret
    exact ⟨ret_bool (by simp; omega),rfl⟩
theorem isLogNumber_any (q : Int) (w : World) : Calls Tryz.prog 149 #[.int .i64 q] w fun e w'=>e = .returned (.bool (decide (1 ≤ q) && decide (q ≤ 1000))) ∧ w' = w:=by
  by_cases h : 1 ≤ q
  · go_enter Tryz.func149,Tryz.ntmps149
    go_wp2
    go_ret
    exact ⟨ret_bool (by simp [h]),rfl⟩
  · go_enter Tryz.func149,Tryz.ntmps149
    go_wp2
    go_ret
    exact ⟨ret_bool (by simp; omega),rfl⟩
theorem ownerOk_any (q s : Int) (w : World) : Calls Tryz.prog 115 #[.agg #[.int .i64 q,.int .i64 s]] w fun e w'=>e = .returned (.bool (whoB q s)) ∧ Below w.heap.size w w':=by
  rcases t1 : (decide (0 ≤ q) && decide (q < 3)) with _ | _
  · go_enter Tryz.func115,Tryz.ntmps115
    go_wp2_with fail
    refine (isClient_any _ _).mono ?_
    rintro e w1 ⟨rfl,rfl⟩
    rw [t1]
    go_wp2_with fail
    go_ret
    exact ⟨ret_bool (by simp only [whoB,t1,Bool.false_and]),(Below.refl _ _).alloc (Nat.le_refl _) _⟩
  · go_enter Tryz.func115,Tryz.ntmps115
    go_wp2_with fail
    refine (isClient_any _ _).mono ?_
    rintro e w1 ⟨rfl,rfl⟩
    rw [t1]
    go_wp2_with fail
    refine (isLogNumber_any _ _).mono ?_
    rintro e w1 ⟨rfl,rfl⟩
    go_wp2_with fail
    go_ret
    exact ⟨ret_bool (by simp only [whoB,t1,Bool.true_and]),(Below.refl _ _).alloc (Nat.le_refl _) _⟩
theorem clos140 (x : LBase) (i : Nat) (w : World) : Calls Tryz.prog 182 #[.agg #[.int .i64 x.id,.int .i64 x.ver],.int .i64 (i : Int)] w fun e w'=>e = .returned (.bool (baseOf x i)) ∧ Below w.heap.size w w':=by
  rcases t1 : (x.id == (i : Int)) with _ | _
  · go_enter Tryz.func182,Tryz.ntmps182
    go_wp2_with fail
    go_ret
    exact ⟨ret_bool (by simp only [baseOf,t1,Bool.false_and]),(Below.refl _ _).alloc (Nat.le_refl _) _⟩
  by_cases t2 : 0 ≤ x.ver
  · go_enter Tryz.func182,Tryz.ntmps182
    go_wp2_with fail
    go_ret
    exact ⟨ret_bool (by simp [baseOf,t1,t2]),(Below.refl _ _).alloc (Nat.le_refl _) _⟩
  · go_enter Tryz.func182,Tryz.ntmps182
    go_wp2_with fail
    go_ret
    exact ⟨ret_bool (by simp [baseOf]; omega),(Below.refl _ _).alloc (Nat.le_refl _) _⟩
def IntsAt (w : World) (L U : Nat) (a : Option Addr) (n : Nat) (l : List Nat) : Prop:=n = l.length ∧ ∀ i,i < n → ∃ g k,a = some ⟨g,0,none⟩ ∧ L ≤ g ∧ g < U ∧ l[i]? = some k ∧ w.cell? ⟨g,i,none⟩ = some (.int .i64 (k : Nat))
theorem OwnInts.at_ {w : World} {B : Nat} {v : Value} {l : List Nat} (h : OwnInts w B v l) : ∃ a c,v = .slice a l.length c ∧ IntsAt w B w.heap.size a l.length l:=by
  obtain ⟨a,c,rfl,hc⟩:=h.form
  exact ⟨a,c,rfl,rfl,fun i hi=>by
    obtain ⟨g,k,h1,h2,h3,h4,h5⟩:=hc i hi
    exact ⟨g,k,h1,h2,h3,h4,h5⟩⟩
set_option maxHeartbeats 1000000 in
theorem equalFuncB (a a' : Option Addr) (n n' c c' : Nat) (bs : List LBase) (l : List Nat) (L U L' U' : Nat) (w : World) (hU : U ≤ w.heap.size) (hU' : U' ≤ w.heap.size) (hl : n' ≤ 1000000) (H : BasesAt w L U a n bs) (H' : IntsAt w L' U' a' n' l) :
    Calls Tryz.prog 180 #[.slice a n c,.slice a' n' c',.func (.func 182) #[] #[]] w fun e w'=>e = .returned (.bool (basesFor bs l)) ∧ Below w.heap.size w w':=by
  have hbd:=H.bd
  unfold maxLen at hbd
  by_cases hnn : n = n'
  case neg =>
    have hne : ((n : Int) != n') = true:=by simp; omega
    have HN : Hid (basesFor bs l = false):=basesFor_len (by rw [← H.len,← H'.1]; exact hnn)
    go_enter Tryz.func180,Tryz.ntmps180
    go_wp2_with fail
    go_ret
    exact ⟨ret_bool HN.out.symm,Below.refl _ _⟩
  subst hnn
  go_enter Tryz.func180,Tryz.ntmps180
  go_wp2_with fail
  go_loopg [17] n (fun g i wr=>∃ j : Nat,j ≤ n ∧ Hid (g = n - j) ∧ i = .int .i64 j ∧ Hid (∀ i,i < j → ∀ x y,bs[i]? = some x → l[i]? = some y → baseOf x y = true) ∧ Below w.heap.size w wr)
  case atStart=>exact ⟨0,Nat.zero_le _,rfl,rfl,fun i hi=>by omega,Below.refl _ _⟩
  case round =>
    obtain ⟨j,hj,hk,rfl,hq,hb⟩:=hrel
    have hzz:=hb.size
    by_cases hlt : j < n
    · obtain ⟨b,off,ha,hL,hbU,hc⟩:=H.at_ (by omega)
      subst ha
      obtain ⟨x,he,c0,c1⟩:=hc j hlt
      obtain ⟨g,k,rfl,hg1,hg2,he2,d0⟩:=H'.2 j hlt
      rw [← hb.cell (by simp; omega)] at c0 c1 d0
      have HE : Hid (bs[j]? = some x ∧ l[j]? = some k):=⟨he,he2⟩
      have hlt' : (j : Int) < (n : Int):=by omega
      have e0 : ∀ o,(wr.alloc o).cell? ⟨g,j,none⟩ = some (.int .i64 (k : Nat)):=fun o=>by rw [((Below.refl wr.heap.size wr).alloc (Nat.le_refl _) o).cell (by simp; omega)]; exact d0
      have HCL:=clos140 x k
      clear he he2 hc
      go_wp2_with fail
      refine (HCL _).mono ?_
      rintro e w1 ⟨rfl,hb1⟩
      have hbb : Below w.heap.size w w1:=(hb.alloc hb.size _).trans (hb1.mono (by simp; omega))
      rcases t : baseOf x k with _ | _
      · have HN : Hid (basesFor bs l = false):=basesFor_no HE.out.1 HE.out.2 t
        go_wp2_with fail
        go_ret
        exact ⟨ret_bool HN.out.symm,hbb⟩
      · have HT : Hid (baseOf x k = true):=t
        go_wp2_with fail
        go_roundg (n - (j + 1))
        case measure=>have:=hk.out; omega
        case rel =>
          refine ⟨j + 1,by omega,rfl,by go_num,fun i hi x' y' hx hy=>?_,hbb⟩
          by_cases e : i = j
          · subst e
            rw [HE.out.1] at hx
            rw [HE.out.2] at hy
            cases hx
            cases hy
            exact HT.out
          · exact hq.out i (by omega) x' y' hx hy
    · have HN : Hid (basesFor bs l = true):=basesFor_yes (by rw [← H.len,← H'.1]) (fun i x y hx hy=>hq.out i (by have:=(List.getElem?_eq_some_iff.1 hx).1; have:=H.len; omega) x y hx hy)
      go_wp2_with fail
      go_ret
      exact ⟨ret_bool HN.out.symm,hb⟩
set_option maxHeartbeats 2000000 in
set_option maxRecDepth 20000 in
theorem basesOk_any (q s : Int) (a : Option Addr) (n c : Nat) (a' : Option Addr) (n' c' : Nat) (l : LLog) (L U : Nat) (w : World) (hU : U ≤ w.heap.size) (hnc : n' ≤ c') (hcm : c' ≤ maxLen) (HB : BasesAt w L U a n l.bases) (HO : OpsAt w L U a' n' l.list) :
    Calls Tryz.prog 117 #[.agg #[.int .i64 q,.int .i64 s,.slice a n c,.slice a' n' c']] w fun e w'=>e = .returned (.bool (basesFor l.bases (logIds l.list))) ∧ Below w.heap.size w w':=by
  go_enter Tryz.func117,Tryz.ntmps117
  go_upto_region 1 with fail
  obtain ⟨w2,hw2⟩ : ∃ W : World,W = w.alloc (Obj.cells #[.int .i64 q,.int .i64 s,.slice a n c,.slice a' n' c'] 174):=⟨_,rfl⟩
  rw [← hw2]
  have HX : Hid (LogBox w2 w.heap.size q s a n c a' n' c'):=⟨by rw [hw2]; simp [go_sem],by rw [hw2]; simp [go_sem],by rw [hw2]; simp [go_sem],by rw [hw2]; simp [go_sem]⟩
  have hA : Below w.heap.size w w2:=by rw [hw2]; exact (Below.refl _ _).alloc (Nat.le_refl _) _
  have hz2 : w2.heap.size = w.heap.size + 1:=by rw [hw2]; simp
  have l1 : w.heap.size < w2.heap.size:=by omega
  clear hw2
  go_cut [2] (fun x wx=>x = .bool (basesFor l.bases (logIds l.list)) ∧ Below w2.heap.size w2 wx)
  case first =>
    refine wp_region_held_drew (S:=(fun W=>Below w2.heap.size w2 W)) (by kernel_rfl) ?_ (fun hHeld=>?_)
    · exact (Below.refl _ _).drew
    refine listH (l2:=#[false,false,false,false,false,false,false]) (by kernel_rfl) ?_
    refine takeH (i:=0) (oi:=_) (v:=?v0) 3 #[true,false,false,false,false,false,false] rfl (by kernel_rfl) (by kernel_rfl) (by kernel_rfl) rfl (by kernel_rfl) (fun _ _ _ h=>h) (Or.inl ⟨by rfl,?y0⟩) (by assumption) ?r0
    case y0=>(intro w' hSw; (try dsimp only at hSw); have x0:=hSw.cell (p:=⟨w.heap.size,0,none⟩) (by simpa using l1); have x1:=hSw.cell (p:=⟨w.heap.size,1,none⟩) (by simpa using l1); have x2:=hSw.cell (p:=⟨w.heap.size,2,none⟩) (by simpa using l1); have x3:=hSw.cell (p:=⟨w.heap.size,3,none⟩) (by simpa using l1); rw [HX.out.c0] at x0; rw [HX.out.c1] at x1; rw [HX.out.c2] at x2; rw [HX.out.c3] at x3; go_simp; try with_reducible rfl)
    simp only [Act.put,sT,sS,sZ]
    refine takeH (i:=1) (oi:=_) (v:=?v1) 4 #[true,true,false,false,false,false,false] rfl (by kernel_rfl) (by kernel_rfl) (by kernel_rfl) rfl (by kernel_rfl) (fun _ _ _ h=>h) (Or.inl ⟨by rfl,?y1⟩) (by assumption) ?r1
    case y1=>(intro w' hSw; (try dsimp only at hSw); have x0:=hSw.cell (p:=⟨w.heap.size,0,none⟩) (by simpa using l1); have x1:=hSw.cell (p:=⟨w.heap.size,1,none⟩) (by simpa using l1); have x2:=hSw.cell (p:=⟨w.heap.size,2,none⟩) (by simpa using l1); have x3:=hSw.cell (p:=⟨w.heap.size,3,none⟩) (by simpa using l1); rw [HX.out.c0] at x0; rw [HX.out.c1] at x1; rw [HX.out.c2] at x2; rw [HX.out.c3] at x3; go_simp; try with_reducible rfl)
    simp only [Act.put,sT,sS,sZ]
    refine takeH (i:=2) (oi:=_) (v:=?v2) 5 #[true,true,true,false,false,false,false] rfl (by kernel_rfl) (by kernel_rfl) (by kernel_rfl) rfl (by kernel_rfl) (fun _ _ _ h=>h) (Or.inl ⟨by rfl,?y2⟩) (by assumption) ?r2
    case y2=>(intro w' hSw; (try dsimp only at hSw); have x0:=hSw.cell (p:=⟨w.heap.size,0,none⟩) (by simpa using l1); have x1:=hSw.cell (p:=⟨w.heap.size,1,none⟩) (by simpa using l1); have x2:=hSw.cell (p:=⟨w.heap.size,2,none⟩) (by simpa using l1); have x3:=hSw.cell (p:=⟨w.heap.size,3,none⟩) (by simpa using l1); rw [HX.out.c0] at x0; rw [HX.out.c1] at x1; rw [HX.out.c2] at x2; rw [HX.out.c3] at x3; go_simp; try with_reducible rfl)
    simp only [Act.put,sT,sS,sZ]
    refine takeH (i:=3) (oi:=_) (v:=?v3) 6 #[true,true,true,true,false,false,false] rfl (by kernel_rfl) (by kernel_rfl) (by kernel_rfl) rfl (by kernel_rfl) (fun _ _ _ h=>h) (Or.inl ⟨by rfl,?y3⟩) (by assumption) ?r3
    case y3=>(intro w' hSw; (try dsimp only at hSw); have x0:=hSw.cell (p:=⟨w.heap.size,0,none⟩) (by simpa using l1); have x1:=hSw.cell (p:=⟨w.heap.size,1,none⟩) (by simpa using l1); have x2:=hSw.cell (p:=⟨w.heap.size,2,none⟩) (by simpa using l1); have x3:=hSw.cell (p:=⟨w.heap.size,3,none⟩) (by simpa using l1); rw [HX.out.c0] at x0; rw [HX.out.c1] at x1; rw [HX.out.c2] at x2; rw [HX.out.c3] at x3; go_simp; try with_reducible rfl)
    simp only [Act.put,sT,sS,sZ]
    refine wpAnyH_ready (rs:=[4]) (by kernel_rfl) (by simp) ?_
    refine AllReadyH.cons (o:=_) rfl (fun K hK=>?_) AllReadyH.nil
    go_simp
    refine (implLogIds _ _ _ _ L U _ (by simp; omega) hnc hcm (HO.below ((hA).drew) hU)).mono ?_
    rintro e w3 ⟨⟨v3,rfl,hv3⟩,hb3⟩
    obtain ⟨a3,c3,rfl,hI⟩:=hv3.out.at_
    have hB : Below w2.heap.size w2 w3:=(Below.refl _ _).drew.trans hb3
    go_wp2_with fail
    refine hK.out _ _ ?_ (fun hHeld=>?_)
    · exact hB
    clear hK K
    try simp only [Act.put]
    refine listH (l2:=#[true,true,true,true,true,false,false]) (by kernel_rfl) ?_
    refine wpAnyH_ready (rs:=[5]) (by kernel_rfl) (by simp) ?_
    refine AllReadyH.cons (o:=_) rfl (fun K hK=>?_) AllReadyH.nil
    go_simp
    refine (equalFuncB _ _ _ _ _ _ _ _ L U _ _ _ (by have:=hB.size; omega) (Nat.le_refl _) (by have:=logIds_le l.list; omega) (HB.below (hA.trans (hB.mono hA.size)) hU) hI).mono ?_
    rintro e w4 ⟨rfl,hb4⟩
    have hB4 : Below w2.heap.size w2 w4:=hB.trans (hb4.mono hB.size)
    go_wp2_with fail
    refine hK.out _ _ ?_ (fun hHeld=>?_)
    · exact hB4
    clear hK K
    try simp only [Act.put]
    refine listH (l2:=#[true,true,true,true,true,true,false]) (by kernel_rfl) ?_
    refine wpAnyH_ready (rs:=[6]) (by kernel_rfl) (by simp) ?_
    refine AllReadyH.cons (o:=_) rfl (fun K hK=>?_) AllReadyH.nil
    go_simp
    refine hK.out _ _ ?_ (fun hHeld=>?_)
    · exact hB4
    clear hK K
    try simp only [Act.put]
    refine listH (l2:=#[true,true,true,true,true,true,true]) (by kernel_rfl) ?_
    refine wpAnyH_done (by kernel_rfl) ?_ _
    go_wp2_with fail
    go_meet
    exact ⟨rfl,hB4⟩
  obtain ⟨rfl,hB⟩:=hcut
  go_wp2_with fail
  go_ret
  exact ⟨rfl,hA.trans (hB.mono hA.size)⟩
set_option maxHeartbeats 2000000 in
theorem implLogOk (q s : Int) (a : Option Addr) (n c : Nat) (a' : Option Addr) (n' c' : Nat) (l : LLog) (L U : Nat) (w : World) (hU : U ≤ w.heap.size) (hnc : n' ≤ c') (hcm : c' ≤ maxLen) (H : LogAt w L U q s a n a' n' l) :
    Calls Tryz.prog 50 #[.agg #[.int .i64 q,.int .i64 s,.slice a n c,.slice a' n' c']] w fun e w'=>e = .returned (.bool (logOk l)) ∧ Below w.heap.size w w':=by
  have HV : Hid (logOk l = (whoB q s && formsB l.list && basesFor l.bases (logIds l.list))):=by show _ = _; unfold logOk; rw [H.q,H.s]
  have HB:=H.b
  have HO:=H.o
  clear H
  go_enter Tryz.func50,Tryz.ntmps50
  go_wp2_with fail
  refine (bundleOf_any _ _ _ _ _ _ _ _ _).mono ?_
  rintro e w1 ⟨rfl,hb1⟩
  have h1 : Below w.heap.size w w1:=((Below.refl _ _).alloc (Nat.le_refl _) _).trans (hb1.mono (by simp))
  clear hb1
  go_wp2_with fail
  have h2 : Below w.heap.size w (w1.alloc (Obj.cells #[.int .i64 q,.int .i64 s,.slice a n c,.slice a' n' c'] 174)):=h1.alloc h1.size _
  have hz:=h1.size
  refine (ownerOk_any _ _ _).mono ?_
  rintro e w3 ⟨rfl,hb3⟩
  have h3 : Below w.heap.size w w3:=h2.trans (hb3.mono (by simp; omega))
  have c0 : w3.cell? ⟨w1.heap.size,0,none⟩ = some (.int .i64 q):=by rw [hb3.cell (by simp)]; simp [go_sem]
  have c1 : w3.cell? ⟨w1.heap.size,1,none⟩ = some (.int .i64 s):=by rw [hb3.cell (by simp)]; simp [go_sem]
  have c2 : w3.cell? ⟨w1.heap.size,2,none⟩ = some (.slice a n c):=by rw [hb3.cell (by simp)]; simp [go_sem]
  have c3 : w3.cell? ⟨w1.heap.size,3,none⟩ = some (.slice a' n' c'):=by rw [hb3.cell (by simp)]; simp [go_sem]
  have hz3 : w1.heap.size < w3.heap.size:=by have:=hb3.size; simp at this; omega
  clear hb3 h2 h1
  rcases t1 : whoB q s with _ | _
  · go_wp2_with fail
    go_ret
    exact ⟨ret_bool (by rw [HV.out,t1]; rfl),h3⟩
  go_wp2_with fail
  refine (listOk_any _ _ _ _ L U _ (by have:=h3.size; omega) (HO.below h3 hU)).mono ?_
  rintro e w4 ⟨rfl,hb4⟩
  have h4 : Below w.heap.size w w4:=h3.trans (hb4.mono h3.size)
  have d0 : w4.cell? ⟨w1.heap.size,0,none⟩ = some (.int .i64 q):=by rw [hb4.cell (by simpa using hz3)]; exact c0
  have d1 : w4.cell? ⟨w1.heap.size,1,none⟩ = some (.int .i64 s):=by rw [hb4.cell (by simpa using hz3)]; exact c1
  have d2 : w4.cell? ⟨w1.heap.size,2,none⟩ = some (.slice a n c):=by rw [hb4.cell (by simpa using hz3)]; exact c2
  have d3 : w4.cell? ⟨w1.heap.size,3,none⟩ = some (.slice a' n' c'):=by rw [hb4.cell (by simpa using hz3)]; exact c3
  clear c0 c1 c2 c3 hb4 h3
  rcases t2 : formsB l.list with _ | _
  · go_wp2_with fail
    go_ret
    exact ⟨ret_bool (by rw [HV.out,t1,t2]; rfl),h4⟩
  go_wp2_with fail
  refine (basesOk_any _ _ _ _ _ _ _ _ l L U _ (by have:=h4.size; omega) hnc hcm (HB.below h4 hU) (HO.below h4 hU)).mono ?_
  rintro e w5 ⟨rfl,hb5⟩
  go_wp2_with fail
  go_ret
  exact ⟨ret_bool (by rw [HV.out,t1,t2]; rfl),h4.trans (hb5.mono h4.size)⟩
end
section
open Go.RowKit
def tagged (d : Nat) (es : List LEnt) : List (Nat × LEnt):=es.map (fun e=>(d,e))
def flatFrom : Nat → List LObj → List (Nat × LEnt)
  | _,[]=>[]
  | d,o :: l=>tagged d o.kids ++ flatFrom (d + 1) l
def flat (t : List LObj) : List (Nat × LEnt):=flatFrom 0 t
theorem flatFrom_append (d : Nat) (l m : List LObj) : flatFrom d (l ++ m) = flatFrom d l ++ flatFrom (d + l.length) m:=by
  induction l generalizing d with
  | nil=>simp [flatFrom]
  | cons x l ih=>simp [flatFrom,ih,Nat.add_assoc,Nat.add_comm 1]
theorem flat_take {t : List LObj} {i : Nat} {o : LObj} (h : t[i]? = some o) : flat (t.take (i + 1)) = flat (t.take i) ++ tagged i o.kids:=by
  have hi : i < t.length:=(List.getElem?_eq_some_iff.1 h).1
  have ho : t[i] = o:=(List.getElem?_eq_some_iff.1 h).2
  rw [List.take_succ_eq_append_getElem hi,ho]
  unfold flat
  rw [flatFrom_append]
  simp [flatFrom,Nat.min_eq_left (Nat.le_of_lt hi)]
theorem flat_split {t : List LObj} {i : Nat} {o : LObj} (h : t[i]? = some o) : ∃ r,flat t = flat (t.take i) ++ tagged i o.kids ++ r:=by
  have e : t = t.take (i + 1) ++ t.drop (i + 1):=(List.take_append_drop _ _).symm
  refine ⟨flatFrom (0 + (t.take (i + 1)).length) (t.drop (i + 1)),?_⟩
  rw [← flat_take h]
  conv=>lhs; rw [e]
  exact flatFrom_append 0 _ _
theorem tagged_split {es : List LEnt} {d k : Nat} {e : LEnt} (h : es[k]? = some e) : ∃ r,tagged d es = tagged d (es.take k) ++ (d,e) :: r:=by
  have hk : k < es.length:=(List.getElem?_eq_some_iff.1 h).1
  have he : es[k] = e:=(List.getElem?_eq_some_iff.1 h).2
  refine ⟨tagged d (es.drop (k + 1)),?_⟩
  unfold tagged
  rw [← he,← List.map_cons (f:=fun e=>(d,e)),← List.map_append,← List.drop_eq_getElem_cons hk,List.take_append_drop]
theorem tagged_take {es : List LEnt} {d k : Nat} {e : LEnt} (h : es[k]? = some e) : tagged d (es.take (k + 1)) = tagged d (es.take k) ++ [(d,e)]:=by
  have hk : k < es.length:=(List.getElem?_eq_some_iff.1 h).1
  have he : es[k] = e:=(List.getElem?_eq_some_iff.1 h).2
  unfold tagged
  rw [List.take_succ_eq_append_getElem hk,he]; simp
def homeIn (p : List (Nat × LEnt)) (id : Int) : Int:=match p.find? (fun x=>x.2.id == id) with | some x=>x.1 | none=>-1
def nameIn (p : List (Nat × LEnt)) (id : Int) : ByteArray:=match p.find? (fun x=>x.2.id == id) with | some x=>x.2.name | none=>⟨#[]⟩
def Off (p : List (Nat × LEnt)) (id : Int) : Prop:=∀ x ∈ p,x.2.id ≠ id
theorem off_nil (id : Int) : Off [] id:=fun x hx=>by simp at hx
theorem off_append {p q : List (Nat × LEnt)} {id : Int} : Off (p ++ q) id ↔ Off p id ∧ Off q id:=by
  unfold Off
  constructor
  · exact fun h=>⟨fun x hx=>h x (List.mem_append_left _ hx),fun x hx=>h x (List.mem_append_right _ hx)⟩
  · rintro ⟨h,k⟩ x hx
    rcases List.mem_append.1 hx with hx | hx
    · exact h x hx
    · exact k x hx
theorem off_one {x : Nat × LEnt} {id : Int} : Off [x] id ↔ x.2.id ≠ id:=by simp [Off]
theorem find_off {p : List (Nat × LEnt)} {id : Int} (h : Off p id) : p.find? (fun x=>x.2.id == id) = none:=by
  rw [List.find?_eq_none]
  intro x hx
  simpa using h x hx
theorem homeIn_off {p : List (Nat × LEnt)} {id : Int} (h : Off p id) : homeIn p id = -1:=by unfold homeIn; rw [find_off h]
theorem homeIn_at {p : List (Nat × LEnt)} {x : Nat × LEnt} {r : List (Nat × LEnt)} {id : Int} (h : Off p id) (hx : x.2.id = id) : homeIn (p ++ x :: r) id = x.1:=by
  unfold homeIn
  rw [List.find?_append,find_off h]
  simp [hx]
theorem homeIn_flat {t : List LObj} {i k : Nat} {o : LObj} {e : LEnt} {id : Int} (ho : t[i]? = some o) (he : o.kids[k]? = some e) (h1 : Off (flat (t.take i)) id) (h2 : Off (tagged i (o.kids.take k)) id) (h : e.id = id) : homeIn (flat t) id = i:=by
  obtain ⟨r,hr⟩:=flat_split ho
  obtain ⟨r',hr'⟩:=tagged_split (d:=i) he
  rw [hr,hr',List.append_assoc,List.append_assoc,← List.append_assoc (flat (t.take i)),List.cons_append]
  exact homeIn_at (off_append.2 ⟨h1,h2⟩) h
theorem off_next {es : List LEnt} {d k : Nat} {e : LEnt} {id : Int} (he : es[k]? = some e) (h : Off (tagged d (es.take k)) id) (hn : e.id ≠ id) : Off (tagged d (es.take (k + 1))) id:=by
  rw [tagged_take he]
  exact off_append.2 ⟨h,off_one.2 hn⟩
theorem off_dir {t : List LObj} {i : Nat} {o : LObj} {id : Int} (ho : t[i]? = some o) (h1 : Off (flat (t.take i)) id) (h2 : Off (tagged i o.kids) id) : Off (flat (t.take (i + 1))) id:=by
  rw [flat_take ho]
  exact off_append.2 ⟨h1,h2⟩
theorem ret_int {k : IntKind} {a b : Int} (h : a = b) : Ending.returned (.int k a) = .returned (.int k b):=by rw [h]
set_option maxHeartbeats 1000000 in
theorem l1Home_any (a : Option Addr) (n c : Nat) (os : List LObj) (L U : Nat) (id : Int) (w : World) (hU : U ≤ w.heap.size) (H : ObjsAt w L U a n os) :
    Calls Tryz.prog 195 #[.agg #[.slice a n c],.int .i64 id] w fun e w'=>e = .returned (.int .i64 (homeIn (flat os) id)) ∧ w' = w.alloc (.cells #[.slice a n c] 26):=by
  have hbd:=H.bd
  unfold maxLen at hbd
  have hB : Below w.heap.size w (w.alloc (.cells #[.slice a n c] 26)):=(Below.refl _ _).alloc (Nat.le_refl _) _
  go_enter Tryz.func195,Tryz.ntmps195
  go_wp2
  go_loopg [5] n (fun g i wr=>∃ j : Nat,j ≤ n ∧ Hid (g = n - j) ∧ i = .int .i64 j ∧ Hid (Off (flat (os.take j)) id) ∧ wr = w.alloc (.cells #[.slice a n c] 26))
  case atStart=>exact ⟨0,Nat.zero_le _,by show _ = _; omega,rfl,off_nil id,rfl⟩
  case round =>
    obtain ⟨j,hj,hk,rfl,hq,rfl⟩:=hrel
    by_cases hlt : j < n
    · obtain ⟨b,off,ha,hL,hbU,hc⟩:=H.at_ (by omega)
      subst ha
      obtain ⟨o,ka,kn,kc,ho,hsz,hc0,hc1,hc2,hc3,hks⟩:=hc j hlt
      have HO : Hid (os[j]? = some o):=ho
      clear ho hc hc0 hc1 hc2
      have hbl : b < w.heap.size:=by omega
      have hkb:=hks.bd
      unfold maxLen at hkb
      have HKL : Hid (kn = o.kids.length):=hks.len
      go_wp2_with fail
      go_loopg [6] kn (fun g i wr=>∃ m : Nat,m ≤ kn ∧ Hid (g = kn - m) ∧ i = .int .i64 m ∧ Hid (Off (tagged j (o.kids.take m)) id) ∧ wr = w.alloc (.cells #[.slice (some ⟨b,off,none⟩) n c] 26))
      case atStart=>exact ⟨0,Nat.zero_le _,by show _ = _; omega,rfl,off_nil id,rfl⟩
      case round =>
        obtain ⟨m,hm,hk2,rfl,hq2,rfl⟩:=hrel
        by_cases hlt2 : m < kn
        · obtain ⟨b2,off2,ha2,hL2,hbU2,hd⟩:=hks.at_ (by omega)
          subst ha2
          obtain ⟨e,he,hez,hd0,hd1⟩:=hd m hlt2
          have HE : Hid (o.kids[m]? = some e):=he
          clear he hd hd0
          have hbl2 : b2 < w.heap.size:=by omega
          by_cases hid : e.id = id
          · have t1 : (e.id == id) = true:=by simpa using hid
            have HI : Hid (e.id = id):=hid
            clear hid
            go_wp2_with fail
            go_ret
            exact ⟨ret_int (homeIn_flat HO.out HE.out hq.out hq2.out HI.out).symm,rfl⟩
          · have t1 : (e.id == id) = false:=by simpa using hid
            have HI : Hid (e.id ≠ id):=hid
            clear hid
            go_wp2_with fail
            go_roundg (kn - (m + 1))
            case measure=>have:=hk2.out; omega
            case rel=>exact ⟨m + 1,by omega,rfl,by go_num,off_next HE.out hq2.out HI.out,rfl⟩
        · go_wp2_with fail
          go_roundg (n - (j + 1))
          case measure=>have:=hk.out; omega
          case rel =>
            have h2:=hq2.out
            rw [List.take_of_length_le (by have:=HKL.out; omega)] at h2
            exact ⟨j + 1,by omega,rfl,by go_num,off_dir HO.out hq.out h2,rfl⟩
    · go_wp2_with fail
      go_ret
      have h2:=hq.out
      rw [List.take_of_length_le (by have:=H.len; omega)] at h2
      exact ⟨ret_int (homeIn_off h2).symm,rfl⟩
def climb (t : List LObj) : Nat → Int → Int
  | 0,id=>id
  | k + 1,id=>if 0 < id then climb t k (homeIn (flat t) id) else id
theorem climb_stop (t : List LObj) (k : Nat) {id : Int} (h : ¬ 0 < id) : climb t k id = id:=by
  cases k with
  | zero=>rfl
  | succ k=>unfold climb; rw [if_neg h]
theorem climb_step (t : List LObj) (k : Nat) {id : Int} (h : 0 < id) : climb t (k + 1) id = climb t k (homeIn (flat t) id):=by
  rw [climb,if_pos h]
def topB (t : List LObj) (id : Int) : Bool:=climb t 32 id == 0
set_option maxHeartbeats 1000000 in
theorem l1Top_any (a : Option Addr) (n c : Nat) (os : List LObj) (L U : Nat) (id : Int) (w : World) (hU : U ≤ w.heap.size) (H : ObjsAt w L U a n os) :
    Calls Tryz.prog 142 #[.agg #[.slice a n c],.int .i64 id] w fun e w'=>e = .returned (.bool (topB os id)) ∧ Below w.heap.size w w':=by
  have hB : ∀ o1,Below w.heap.size w (w.alloc o1):=fun o1=>(Below.refl _ _).alloc (Nat.le_refl _) _
  go_enter Tryz.func142,Tryz.ntmps142
  go_wp2
  go_loopg [1,5] 32 (fun g d i wr=>∃ j : Nat,j ≤ 32 ∧ Hid (g = 32 - j) ∧ i = .int .i64 j ∧ (∃ x : Int,d = .int .i64 x ∧ Hid (climb os 32 id = climb os (32 - j) x)) ∧ wr.cell? ⟨w.heap.size,0,none⟩ = some (.slice a n c) ∧ w.heap.size < wr.heap.size ∧ Below w.heap.size w wr)
  case atStart=>exact ⟨0,Nat.zero_le _,by show _ = _; omega,rfl,⟨id,rfl,rfl⟩,by simp [go_sem],by simp,hB _⟩
  case round =>
    obtain ⟨j,hj,hk,rfl,⟨x,rfl,hq⟩,hx,hz,hb⟩:=hrel
    by_cases hlt : j < 32
    · have hlt' : (j : Int) < 32:=by omega
      by_cases hx0 : 0 < x
      · go_wp2_with fail
        refine (l1Home_any _ _ _ _ L U _ _ (by have:=hb.size; omega) (H.below hb hU)).mono ?_
        rintro y w1 ⟨rfl,rfl⟩
        go_wp2_with fail
        go_roundg (32 - (j + 1))
        case measure=>have:=hk.out; omega
        case rel =>
          have h1:=hq.out
          rw [show 32 - j = (32 - (j + 1)) + 1 by omega,climb_step _ _ hx0] at h1
          exact ⟨j + 1,by omega,rfl,by go_num,⟨_,rfl,h1⟩,by rw [((Below.refl wr.heap.size wr).alloc (Nat.le_refl _) _).cell (by simpa using hz)]; exact hx,by simp; omega,hb.alloc hb.size _⟩
      · go_wp2_with fail
        go_ret
        have h1:=hq.out
        rw [climb_stop os (32 - j) (id:=x) (by omega)] at h1
        exact ⟨ret_bool (by unfold topB; rw [h1]),hb⟩
    · have hlt' : ¬ (j : Int) < 32:=by omega
      go_wp2_with fail
      go_ret
      have h1:=hq.out
      rw [show 32 - j = 0 by omega] at h1
      have h2 : climb os 32 id = x:=h1
      exact ⟨ret_bool (by unfold topB; rw [h2]),hb⟩
def cnt (p : List (Nat × LEnt)) (id : Int) : Nat:=p.countP (fun x=>x.2.id == id)
theorem cnt_append (p q : List (Nat × LEnt)) (id : Int) : cnt (p ++ q) id = cnt p id + cnt q id:=by unfold cnt; rw [List.countP_append]
theorem cnt_one (x : Nat × LEnt) (id : Int) : cnt [x] id = if x.2.id = id then 1 else 0:=by
  unfold cnt; rw [List.countP_singleton]; simp
theorem cnt_le (p : List (Nat × LEnt)) (id : Int) : cnt p id ≤ p.length:=List.countP_le_length
theorem flatFrom_len {M : Nat} : ∀ (d : Nat) (l : List LObj),(∀ o ∈ l,o.kids.length ≤ M) → (flatFrom d l).length ≤ l.length * M
  | _,[],_=>by simp [flatFrom]
  | d,o :: l,h=>by
    have h1:=flatFrom_len (M:=M) (d + 1) l (fun o' ho=>h o' (List.mem_cons_of_mem _ ho))
    have h2:=h o (List.mem_cons_self ..)
    simp only [flatFrom,List.length_append,List.length_cons,tagged,List.length_map,Nat.succ_mul]
    omega
def IdsIn (t : List LObj) : Prop:=∀ o ∈ t,∀ e ∈ o.kids,0 < e.id ∧ e.id < 32
theorem info3 : (Tryz.prog.info? 3).map (fun i=>(i.zero.map (·.cells),i.size,i.bytes)) = some (some #[.int .i64 0],1,8):=by kernel_rfl
end
section
open Go.RowKit
def zs32 : Array Value:=madeCells #[.int .i64 0] 32
theorem make32 (w : World) : (Instr.makeSlice 166 (.int .i64 32) (.int .i64 32)).run Tryz.prog w = .ok (.slice (some ⟨w.heap.size,0,none⟩) 32 32) (w.alloc (.cells zs32 3)):=by
  have h:=run_make_many 166 3 _ 1 8 Tryz.underlying166 info3 32 (by omega) (by omega) w
  have e : ((32 : Nat) : Int) = 32:=by omega
  rw [e] at h
  exact h
theorem cnt_snoc {es : List LEnt} {m : Nat} {e : LEnt} (h : es[m]? = some e) (p : List (Nat × LEnt)) (j : Nat) (i : Int) :
    cnt (p ++ tagged j (es.take (m + 1))) i = cnt (p ++ tagged j (es.take m)) i + if e.id = i then 1 else 0:=by
  rw [tagged_take h,← List.append_assoc,cnt_append _ [(j,e)],cnt_one]
set_option maxHeartbeats 1000000 in
theorem l1Homes_any (a : Option Addr) (n c : Nat) (os : List LObj) (L U : Nat) (w : World) (hn : n ≤ 32) (hS : Sizes os 1048576) (hI : IdsIn os) (hU : U ≤ w.heap.size) (H : ObjsAt w L U a n os) :
    Calls Tryz.prog 141 #[.agg #[.slice a n c]] w fun e w'=>(∃ b,e = .returned (.slice (some ⟨b,0,none⟩) 32 32) ∧ w.heap.size ≤ b ∧ w'.rowIs b 3 32 (fun i=>.int .i64 (cnt (flat os) i))) ∧ Below w.heap.size w w':=by
  have hmk:=make32
  have hB : ∀ o1 o2,Below w.heap.size w ((w.alloc o1).alloc o2):=fun o1 o2=>((Below.refl _ _).alloc (Nat.le_refl _) _).alloc (by simp) _
  have hrow : ((w.alloc (.cells #[.slice a n c] 26)).alloc (.cells zs32 3)).rowIs (w.heap.size + 1) 3 32 (fun i=>.int .i64 (cnt (flat (os.take 0)) i)):=by
    have:=World.rowIs_made (w.alloc (.cells #[.slice a n c] 26)) (.int .i64 0) 32 3
    simpa [flat,flatFrom,cnt,zs32] using this
  have HROW : Hid (((w.alloc (.cells #[.slice a n c] 26)).alloc (.cells zs32 3)).rowIs (w.heap.size + 1) 3 32 (fun i=>.int .i64 (cnt (flat (os.take 0)) i))):=hrow
  clear hrow
  go_enter Tryz.func141,Tryz.ntmps141
  go_wp2
  go_loopg [4] n (fun g i wr=>∃ j : Nat,j ≤ n ∧ Hid (g = n - j) ∧ i = .int .i64 j ∧ Hid (wr.rowIs (w.heap.size + 1) 3 32 (fun i=>.int .i64 (cnt (flat (os.take j)) i))) ∧ wr.cell? ⟨w.heap.size,0,none⟩ = some (.slice a n c) ∧ Below w.heap.size w wr)
  case atStart=>exact ⟨0,Nat.zero_le _,by show _ = _; omega,rfl,HROW.out,by simp [go_sem],hB _ _⟩
  case round =>
    obtain ⟨j,hj,hk,rfl,hq,hx,hb⟩:=hrel
    by_cases hlt : j < n
    · obtain ⟨b,off,ha,hL,hbU,hc⟩:=H.at_ (by omega)
      subst ha
      obtain ⟨o,ka,kn,kc,ho,hsz,hc0,hc1,hc2,hc3,hks⟩:=hc j hlt
      have hkn : kn ≤ 1048576:=by rw [hks.len]; exact hS o (List.mem_of_getElem? ho)
      have HO : Hid (os[j]? = some o):=ho
      clear ho hc hc0 hc1 hc2
      have HKL : Hid (kn = o.kids.length):=hks.len
      go_wp2_with fail
      go_loopg [5] kn (fun g i wi=>∃ m : Nat,m ≤ kn ∧ Hid (g = kn - m) ∧ i = .int .i64 m ∧ Hid (wi.rowIs (w.heap.size + 1) 3 32 (fun i=>.int .i64 (cnt (flat (os.take j) ++ tagged j (o.kids.take m)) i))) ∧ wi.cell? ⟨w.heap.size,0,none⟩ = some (.slice (some ⟨b,off,none⟩) n c) ∧ Below w.heap.size w wi)
      case atStart=>exact ⟨0,Nat.zero_le _,by show _ = _; omega,rfl,by show World.rowIs _ _ _ _ _; simpa [tagged] using hq.out,hx,hb⟩
      case round =>
        clear hx hb hq
        obtain ⟨m,hm,hk2,rfl,hq2,hx,hb2⟩:=hrel
        rw [← hb2.cell (by simp; omega)] at hc3
        by_cases hlt2 : m < kn
        · obtain ⟨b2,off2,ha2,hL2,hbU2,hd⟩:=hks.at_ (by omega)
          subst ha2
          obtain ⟨e,he,hez,hd0,hd1⟩:=hd m hlt2
          obtain ⟨id,hid,hid0⟩ : ∃ id : Nat,e.id = id ∧ id < 32:=by
            have:=hI o (List.mem_of_getElem? HO.out) e (List.mem_of_getElem? he)
            exact ⟨e.id.toNat,by omega,by omega⟩
          rw [hid] at hd1
          have HE : Hid (o.kids[m]? = some e ∧ e.id = id):=⟨he,hid⟩
          clear he hd hd0 hid
          rw [← hb2.cell (by simp; omega)] at hd1
          have g0:=hq2.out.cell (i:=id) hid0
          have z0:=hq2.out.frozen id
          have hcn : cnt (flat (os.take j) ++ tagged j (o.kids.take m)) id ≤ 40000000:=by
            have h1:=cnt_le (flat (os.take j) ++ tagged j (o.kids.take m)) id
            have h2:=flatFrom_len (M:=1048576) 0 (os.take j) (fun o' ho'=>hS o' (List.mem_of_mem_take ho'))
            have h3 : (os.take j).length * 1048576 ≤ 32 * 1048576:=Nat.mul_le_mul_right _ (by simp; omega)
            have h4 : (tagged j (o.kids.take m)).length ≤ 1048576:=by simp [tagged]; have:=HKL.out; omega
            rw [List.length_append] at h1
            unfold flat at h1 ⊢
            omega
          have hid1 : (0 : Int) ≤ (id : Int):=by omega
          have hid2 : (id : Int) < 32:=by omega
          have hlt' : (j : Int) < (n : Int):=by omega
          have hlt2' : (m : Int) < (kn : Int):=by omega
          generalize hC : cnt (flat (os.take j) ++ tagged j (o.kids.take m)) id = C at g0 hcn
          have HC : Hid (cnt (flat (os.take j) ++ tagged j (o.kids.take m)) id = C):=hC
          clear hC
          go_wp2_with fail
          go_region
          go_wp2_with fail
          go_roundg (kn - (m + 1))
          case measure=>have:=hk2.out; omega
          case rel =>
            refine ⟨m + 1,by omega,rfl,by go_num,?_,?_,?_⟩
            · have h1:=(hq2.out.set id (.int .i64 (C + 1))).drew
              refine h1.congr fun i hi=>?_
              rw [cnt_snoc HE.out.1]
              by_cases hii : i = id
              · subst hii
                rw [if_pos rfl,if_pos HE.out.2,HC.out]
                simp
              · rw [if_neg hii,if_neg (by have:=HE.out.2; show ¬ e.id = _; omega),Nat.add_zero]
            · show World.cell? _ _ = _
              rw [World.cell?_of_block (w:=wr) (Below.heap_setCell wr _ _ w.heap.size (by simp))]
              exact hx
            · exact (hb2.setCell (by simp) _).drew
        · go_wp2_with fail
          go_roundg (n - (j + 1))
          case measure=>have:=hk.out; omega
          case rel =>
            refine ⟨j + 1,by omega,rfl,by go_num,?_,hx,hb2⟩
            have h1:=hq2.out
            rw [List.take_of_length_le (l:=o.kids) (i:=m) (by have:=HKL.out; omega)] at h1
            rw [flat_take HO.out]
            exact h1
    · go_wp2_with fail
      go_ret
      have h1:=hq.out
      rw [List.take_of_length_le (by have:=H.len; omega)] at h1
      exact ⟨⟨w.heap.size + 1,rfl,by omega,h1⟩,hb⟩
end
section
open Go.RowKit
def kindOf (t : List LObj) (i : Nat) : Int:=match t[i]? with | some o=>o.kind | none=>0
theorem kindOf_at {t : List LObj} {i : Nat} {o : LObj} (h : t[i]? = some o) : kindOf t i = o.kind:=by unfold kindOf; rw [h]
def specAt (t : List LObj) (i : Nat) : Bool :=
  if kindOf t i = 0 then decide (cnt (flat t) i = 0) else decide (cnt (flat t) i = 1) && topB t i
def specOk (t : List LObj) : Bool:=decide (t.length = 32) && decide (kindOf t 0 = 2) && t.all objB && (List.range 31).all (fun i=>specAt t (i + 1))
theorem specOk_len {t : List LObj} (h : t.length ≠ 32) : specOk t = false:=by simp [specOk,h]
theorem specOk_top {t : List LObj} (h : kindOf t 0 ≠ 2) : specOk t = false:=by simp [specOk,h]
theorem specOk_obj {t : List LObj} {i : Nat} {o : LObj} (ho : t[i]? = some o) (h : objB o = false) : specOk t = false:=by
  have : t.all objB = false:=by rw [List.all_eq_false]; exact ⟨o,List.mem_of_getElem? ho,by simp [h]⟩
  simp [specOk,this]
theorem specOk_at {t : List LObj} {i : Nat} (h0 : 1 ≤ i) (h1 : i < 32) (h : specAt t i = false) : specOk t = false:=by
  have : (List.range 31).all (fun i=>specAt t (i + 1)) = false:=by
    rw [List.all_eq_false]
    exact ⟨i - 1,by simp; omega,by rw [show i - 1 + 1 = i by omega,h]; simp⟩
  unfold specOk
  rw [this,Bool.and_false]
theorem specOk_yes {t : List LObj} (h0 : t.length = 32) (h1 : kindOf t 0 = 2) (h2 : ∀ (i : Nat) o,t[i]? = some o → objB o = true) (h3 : ∀ i,1 ≤ i → i < 32 → specAt t i = true) : specOk t = true:=by
  have a : t.all objB = true:=by
    rw [List.all_eq_true]
    intro o ho
    obtain ⟨i,hi⟩:=List.getElem?_of_mem ho
    exact h2 i o hi
  have b : (List.range 31).all (fun i=>specAt t (i + 1)) = true:=by
    rw [List.all_eq_true]
    intro i hi
    exact h3 (i + 1) (by omega) (by have:=List.mem_range.1 hi; omega)
  unfold specOk
  rw [a,b]
  simp [h0,h1]
theorem specAt_none {t : List LObj} {i : Nat} (h : kindOf t i = 0) : specAt t i = decide (cnt (flat t) i = 0):=by unfold specAt; rw [if_pos h]
theorem specAt_live {t : List LObj} {i : Nat} (h : kindOf t i ≠ 0) : specAt t i = (decide (cnt (flat t) i = 1) && topB t i):=by unfold specAt; rw [if_neg h]
theorem kids_of_ok {o : LObj} (h : objB o = true) : ∀ e ∈ o.kids,entB e = true:=by
  intro e he
  unfold objB at h
  rw [Bool.and_eq_true] at h
  have h2:=h.2
  unfold partsB at h2
  have hne : ¬ o.kids.length = 0:=by
    intro hn
    rw [List.length_eq_zero_iff.1 hn] at he
    simp at he
  split at h2
  · simp [nil?,hne] at h2
  · split at h2
    · simp [nil?,hne] at h2
    · split at h2
      · rw [Bool.and_eq_true] at h2
        obtain ⟨i,hi⟩:=List.getElem?_of_mem he
        have h3:=h2.2
        unfold kidsB at h3
        rw [List.all_eq_true] at h3
        have h4:=h3 i (by have:=(List.getElem?_eq_some_iff.1 hi).1; simpa using this)
        apply Classical.byContradiction
        intro hc
        rw [kidAt_ent hi (by simpa using hc)] at h4
        cases h4
      · cases h2
theorem ent_ids {e : LEnt} (h : entB e = true) : 0 < e.id ∧ e.id < 32:=by
  unfold entB at h
  simp at h
  omega
theorem ids_of_ok {t : List LObj} (h : ∀ (i : Nat) o,t[i]? = some o → objB o = true) : IdsIn t:=fun o ho e he=>by
  obtain ⟨i,hi⟩:=List.getElem?_of_mem ho
  exact ent_ids (kids_of_ok (h i o hi) e he)
set_option maxHeartbeats 2000000 in
theorem specTreeOk (a : Option Addr) (n c : Nat) (os : List LObj) (L U : Nat) (w : World) (hS : Sizes os 1048576) (hU : U ≤ w.heap.size) (H : ObjsAt w L U a n os) :
    Calls Tryz.prog 78 #[.agg #[.slice a n c]] w fun e w'=>e = .returned (.bool (specOk os)) ∧ Below w.heap.size w w':=by
  have hbd:=H.bd
  unfold maxLen at hbd
  have hB : ∀ o1,Below w.heap.size w (w.alloc o1):=fun o1=>(Below.refl _ _).alloc (Nat.le_refl _) _
  by_cases hn : n = 32
  · subst hn
    have hlen:=H.len
    have HL : Hid (os.length = 32):=hlen.symm
    clear hlen
    obtain ⟨b,off,ha,hL,hbU,hc⟩:=H.at_ (by omega)
    subst ha
    have hbl : b < w.heap.size:=by omega
    obtain ⟨o0,ka0,kn0,kc0,ho0,hsz0,hc0,_⟩:=hc 0 (by omega)
    simp only [Nat.zero_mul,Nat.add_zero] at hc0
    have HO0 : Hid (kindOf os 0 = o0.kind):=kindOf_at ho0
    clear ho0
    by_cases hk0 : o0.kind = 2
    · have t0 : (o0.kind != 2) = false:=by simpa using hk0
      have HK0 : Hid (o0.kind = 2):=hk0
      clear hk0
      go_enter Tryz.func78,Tryz.ntmps78
      go_wp2_with fail
      go_loopg [3] 32 (fun g i wr=>∃ j : Nat,j ≤ 32 ∧ Hid (g = 32 - j) ∧ i = .int .i64 j ∧ Hid (∀ (i : Nat) o,i < j → os[i]? = some o → objB o = true) ∧ wr.cell? ⟨w.heap.size,0,none⟩ = some (.slice (some ⟨b,off,none⟩) 32 c) ∧ w.heap.size < wr.heap.size ∧ Below w.heap.size w wr)
      case atStart=>exact ⟨0,Nat.zero_le _,by show _ = _; omega,rfl,fun i o hi=>by omega,by simp [go_sem],by simp,hB _⟩
      case round =>
        obtain ⟨j,hj,hk,rfl,hq,hx,hz,hb⟩:=hrel
        by_cases hlt : j < 32
        · obtain ⟨o,ka,kn,kc,ho,hsz,hd0,hd1,hd2,hd3,hks⟩:=hc j hlt
          have HO : Hid (os[j]? = some o):=ho
          clear ho hc
          rw [← hb.cell (by simp; omega)] at hd0 hd1 hd2 hd3
          have hlt' : (j : Int) < 32:=by omega
          go_wp2_with fail
          refine (l1Obj_any _ _ _ _ _ _ _ L U _ (by have:=hb.size; omega) hsz (hks.below hb hU)).mono ?_
          rintro x w1 ⟨rfl,hb1⟩
          cases hob : objB o
          · have HOB : Hid (objB o = false):=hob
            clear hob
            go_wp2_with fail
            go_ret
            exact ⟨ret_bool (specOk_obj HO.out HOB.out).symm,hb.trans (hb1.mono hb.size)⟩
          · have HOB : Hid (objB o = true):=hob
            clear hob
            go_wp2_with fail
            go_roundg (32 - (j + 1))
            case measure=>have:=hk.out; omega
            case rel =>
              refine ⟨j + 1,by omega,rfl,by go_num,fun i o' hi ho'=>?_,by rw [hb1.cell (by simpa using hz)]; exact hx,by have:=hb1.size; omega,hb.trans (hb1.mono hb.size)⟩
              by_cases e : i = j
              · subst e
                rw [HO.out] at ho'
                cases ho'
                exact HOB.out
              · exact hq.out i o' (by omega) ho'
        · have hlt' : ¬ (j : Int) < 32:=by omega
          have hall : ∀ (i : Nat) o,os[i]? = some o → objB o = true:=fun i o ho=>hq.out i o (by have:=(List.getElem?_eq_some_iff.1 ho).1; have:=HL.out; omega) ho
          have HALL : Hid (∀ (i : Nat) o,os[i]? = some o → objB o = true):=hall
          have hI:=ids_of_ok hall
          clear hall
          go_wp2_with fail
          refine (l1Homes_any _ _ _ _ L U _ (by omega) hS hI (by have:=hb.size; omega) (H.below hb hU)).mono ?_
          rintro x w1 ⟨⟨hb0,rfl,hlo,hrow⟩,hb1⟩
          have HROW : Hid (w1.rowIs hb0 3 32 (fun i=>.int .i64 (cnt (flat os) i))):=hrow
          clear hrow
          have hx1 : w1.cell? ⟨w.heap.size,0,none⟩ = some (.slice (some ⟨b,off,none⟩) 32 c):=by rw [hb1.cell (by simpa using hz)]; exact hx
          have hbb : Below w.heap.size w w1:=hb.trans (hb1.mono hb.size)
          have hz1 : w.heap.size < w1.heap.size:=by have:=hb1.size; omega
          go_wp2_with fail
          clear hx hz hb hb1 hk hq hj hlt hlt'
          go_loopg [5] 31 (fun g i wr=>∃ j : Nat,1 ≤ j ∧ j ≤ 32 ∧ Hid (g = 32 - j) ∧ i = .int .i64 j ∧ Hid (∀ i,1 ≤ i → i < j → specAt os i = true) ∧ wr.cell? ⟨w.heap.size,0,none⟩ = some (.slice (some ⟨b,off,none⟩) 32 c) ∧ w.heap.size < wr.heap.size ∧ Hid (wr.rowIs hb0 3 32 (fun i=>.int .i64 (cnt (flat os) i))) ∧ Below w.heap.size w wr)
          case atStart=>exact ⟨1,by omega,by omega,by show _ = _; omega,rfl,fun i h0 hi=>by omega,hx1,hz1,HROW.out,hbb⟩
          case round =>
            clear hx1 hbb hz1 HROW
            obtain ⟨j,hj1,hj,hk,rfl,hq,hx,hz,hrow,hb⟩:=hrel
            by_cases hlt : j < 32
            · obtain ⟨o,ka,kn,kc,ho,hsz,hd0,hd1,hd2,hd3,hks⟩:=hc j hlt
              have HO : Hid (kindOf os j = o.kind):=kindOf_at ho
              clear ho hc hd1 hd2 hd3 hks
              rw [← hb.cell (by simp; omega)] at hd0
              have hlt' : (j : Int) < 32:=by omega
              have hj0 : (0 : Int) ≤ (j : Int):=by omega
              have g0:=hrow.out.cell (i:=j) hlt
              by_cases hlive : o.kind = 0
              · have t1 : (o.kind != 0) = false:=by simpa using hlive
                have HV : Hid (o.kind = 0):=hlive
                clear hlive
                by_cases hcn : cnt (flat os) j = 0
                · have HC : Hid (cnt (flat os) j = 0):=hcn
                  rw [hcn] at g0
                  clear hcn
                  go_wp2_with fail
                  go_roundg (32 - (j + 1))
                  case measure=>have:=hk.out; omega
                  case rel =>
                    refine ⟨j + 1,by omega,by omega,rfl,by go_num,fun i h0 hi=>?_,hx,hz,hrow.out,hb⟩
                    by_cases e : i = j
                    · subst e
                      rw [specAt_none (by rw [HO.out]; exact HV.out),HC.out]
                      rfl
                    · exact hq.out i h0 (by omega)
                · have HC : Hid (cnt (flat os) j ≠ 0):=hcn
                  have t2 : ((cnt (flat os) j : Int) != 0) = true:=by simpa using hcn
                  clear hcn
                  go_wp2_with fail
                  go_ret
                  exact ⟨ret_bool (specOk_at hj1 hlt (by rw [specAt_none (by rw [HO.out]; exact HV.out)]; simpa using HC.out)).symm,hb⟩
              · have t1 : (o.kind != 0) = true:=by simpa using hlive
                have HV : Hid (o.kind ≠ 0):=hlive
                clear hlive
                by_cases hcn : cnt (flat os) j = 1
                · have HC : Hid (cnt (flat os) j = 1):=hcn
                  rw [hcn] at g0
                  clear hcn
                  go_wp2_with fail
                  refine (l1Top_any _ _ _ _ L U _ _ (by have:=hb.size; omega) (H.below hb hU)).mono ?_
                  rintro x w2 ⟨rfl,hb2⟩
                  cases htp : topB os j
                  · have HT : Hid (topB os j = false):=htp
                    clear htp
                    go_wp2_with fail
                    go_ret
                    exact ⟨ret_bool (specOk_at hj1 hlt (by rw [specAt_live (by rw [HO.out]; exact HV.out),HT.out,Bool.and_false])).symm,hb.trans (hb2.mono hb.size)⟩
                  · have HT : Hid (topB os j = true):=htp
                    clear htp
                    go_wp2_with fail
                    go_roundg (32 - (j + 1))
                    case measure=>have:=hk.out; omega
                    case rel =>
                      refine ⟨j + 1,by omega,by omega,rfl,by go_num,fun i h0 hi=>?_,by rw [hb2.cell (by simpa using hz)]; exact hx,by have:=hb2.size; omega,hrow.out.of_block (hb2.block _ hrow.out.lt),hb.trans (hb2.mono hb.size)⟩
                      by_cases e : i = j
                      · subst e
                        rw [specAt_live (by rw [HO.out]; exact HV.out),HT.out,HC.out]
                        rfl
                      · exact hq.out i h0 (by omega)
                · have HC : Hid (cnt (flat os) j ≠ 1):=hcn
                  have t2 : ((cnt (flat os) j : Int) != 1) = true:=by simp; omega
                  clear hcn
                  go_wp2_with fail
                  go_ret
                  exact ⟨ret_bool (specOk_at hj1 hlt (by rw [specAt_live (by rw [HO.out]; exact HV.out)]; simp [HC.out])).symm,hb⟩
            · have hlt' : ¬ (j : Int) < 32:=by omega
              go_wp2_with fail
              go_ret
              exact ⟨ret_bool (specOk_yes HL.out (by rw [HO0.out]; exact HK0.out) HALL.out (fun i h0 hi=>hq.out i h0 (by omega))).symm,hb⟩
    · have t0 : (o0.kind != 2) = true:=by simpa using hk0
      have HK0 : Hid (o0.kind ≠ 2):=hk0
      clear hk0
      go_enter Tryz.func78,Tryz.ntmps78
      go_wp2_with fail
      go_ret
      exact ⟨ret_bool (specOk_top (by rw [HO0.out]; exact HK0.out)).symm,hB _⟩
  · have t0 : ((n : Int) != 32) = true:=by simp; omega
    have HN : Hid (os.length ≠ 32):=by rw [← H.len]; exact hn
    clear hn
    go_enter Tryz.func78,Tryz.ntmps78
    go_wp2_with fail
    go_ret
    exact ⟨ret_bool (specOk_len HN.out).symm,hB _⟩
end
section
open Go.RowKit
def LayF (w : World) (L U : Nat) (os : List LObj) (f : Nat → Value) (j : Nat) (h : Nat → Int) (nm : Nat → ByteArray) : Prop :=
  ∀ i,i < j → ∃ o ka kn kc,os[i]? = some o ∧ f (i * 6) = .int .i64 o.kind ∧ f (i * 6 + 1) = .int .i64 o.ver ∧ f (i * 6 + 2) = .int .i64 (h i) ∧ f (i * 6 + 3) = .string (nm i) ∧ f (i * 6 + 4) = .string o.text ∧ f (i * 6 + 5) = .slice ka kn kc ∧ EntsAt w L U ka kn o.kids
def putNode (f : Nat → Value) (j : Nat) (v0 v1 v2 v3 v4 v5 : Value) : Nat → Value:=fun i=>if i = j * 6 + 5 then v5 else if i = j * 6 + 4 then v4 else if i = j * 6 + 3 then v3 else if i = j * 6 + 2 then v2 else if i = j * 6 + 1 then v1 else if i = j * 6 then v0 else f i
theorem rowIs_put {w : World} {b : Nat} {t : TypeId} {n : Nat} {f : Nat → Value} (h : w.rowIs b t n f) (j : Nat) (v0 v1 v2 v3 v4 v5 : Value) :
    ((((((w.setCell ⟨b,j * 6,none⟩ v0).setCell ⟨b,j * 6 + 1,none⟩ v1).setCell ⟨b,j * 6 + 2,none⟩ v2).setCell ⟨b,j * 6 + 3,none⟩ v3).setCell ⟨b,j * 6 + 4,none⟩ v4).setCell ⟨b,j * 6 + 5,none⟩ v5).rowIs b t n (putNode f j v0 v1 v2 v3 v4 v5) :=
  (((((h.set _ v0).set _ v1).set _ v2).set _ v3).set _ v4).set _ v5
theorem layF_put {w : World} {L U : Nat} {os : List LObj} {f : Nat → Value} {j : Nat} {h : Nat → Int} {nm : Nat → ByteArray} {o : LObj} {ka : Option Addr} {kn kc : Nat} (hf : LayF w L U os f j h nm) (ho : os[j]? = some o) (hk : EntsAt w L U ka kn o.kids) :
    LayF w L U os (putNode f j (.int .i64 o.kind) (.int .i64 o.ver) (.int .i64 (h j)) (.string (nm j)) (.string o.text) (.slice ka kn kc)) (j + 1) h nm:=by
  intro i hi
  by_cases e : i = j
  · subst e
    refine ⟨o,ka,kn,kc,ho,?_,?_,?_,?_,?_,?_,hk⟩ <;> simp [putNode]
  · obtain ⟨o',ka',kn',kc',ho',q0,q1,q2,q3,q4,q5,hk'⟩:=hf i (by omega)
    refine ⟨o',ka',kn',kc',ho',?_,?_,?_,?_,?_,?_,hk'⟩ <;> unfold putNode <;> rw [if_neg (by omega),if_neg (by omega),if_neg (by omega),if_neg (by omega),if_neg (by omega),if_neg (by omega)] <;> assumption
theorem rowIs96 (w : World) : ∃ f,(w.alloc (.cells Tryz.zeroCells293 293)).rowIs w.heap.size 293 192 f:=by
  refine ⟨fun i=>Tryz.zeroCells293[i]?.getD default,?_⟩
  have:=World.rowIs_alloc w Tryz.zeroCells293 293 (fun i=>Tryz.zeroCells293[i]?.getD default) (fun i hi=>by rw [Array.getElem?_eq_getElem hi]; rfl)
  have e : Tryz.zeroCells293.size = 192:=by kernel_rfl
  rwa [e] at this
theorem homeIn_nonneg {p : List (Nat × LEnt)} {id : Int} (h : ¬ Off p id) : 0 ≤ homeIn p id:=by
  unfold homeIn
  cases hf : p.find? (fun x=>x.2.id == id) with
  | some x=>simp
  | none =>
    exfalso
    apply h
    intro x hx
    have:=List.find?_eq_none.1 hf x hx
    simpa using this
theorem off_iff {p : List (Nat × LEnt)} {id : Int} : homeIn p id = -1 ↔ Off p id:=by
  constructor
  · intro h
    apply Classical.byContradiction
    intro hn
    have:=homeIn_nonneg hn
    omega
  · exact homeIn_off
theorem find_snoc {p : List (Nat × LEnt)} {x : Nat × LEnt} {i : Int} (h : x.2.id = i → Off p i) : (p ++ [x]).find? (fun y=>y.2.id == i) = if x.2.id = i then some x else p.find? (fun y=>y.2.id == i):=by
  rw [List.find?_append]
  by_cases e : x.2.id = i
  · rw [find_off (h e)]
    simp [e]
  · have : (x.2.id == i) = false:=by simpa using e
    simp [e,this]
theorem homeIn_snoc {p : List (Nat × LEnt)} {x : Nat × LEnt} (h : Off p x.2.id) (i : Int) : homeIn (p ++ [x]) i = if x.2.id = i then (x.1 : Int) else homeIn p i:=by
  unfold homeIn
  rw [find_snoc (fun e=>e ▸ h)]
  by_cases e : x.2.id = i <;> simp [e]
theorem nameIn_snoc {p : List (Nat × LEnt)} {x : Nat × LEnt} (h : Off p x.2.id) (i : Int) : nameIn (p ++ [x]) i = if x.2.id = i then x.2.name else nameIn p i:=by
  unfold nameIn
  rw [find_snoc (fun e=>e ▸ h)]
  by_cases e : x.2.id = i <;> simp [e]
def Uniq (p : List (Nat × LEnt)) : Prop:=∀ pre x post,p = pre ++ x :: post → Off pre x.2.id
theorem uniq_nil : Uniq []:=fun pre x post h=>by simp at h
theorem uniq_snoc {p : List (Nat × LEnt)} {x : Nat × LEnt} (h : Uniq p) (hx : Off p x.2.id) : Uniq (p ++ [x]):=by
  intro pre y post e
  rcases List.eq_nil_or_concat post with rfl | ⟨post',z,rfl⟩
  · have:=List.append_inj' e rfl
    obtain ⟨rfl,e2⟩:=this
    simp at e2
    subst e2
    exact hx
  · rw [List.concat_eq_append] at e
    rw [show pre ++ y :: (post' ++ [z]) = (pre ++ y :: post') ++ [z] by simp] at e
    have:=List.append_inj' e rfl
    exact h pre y post' this.1
def Live (os : List LObj) (p : List (Nat × LEnt)) : Prop:=∀ x ∈ p,kindOf os x.2.id.toNat ≠ 0
theorem live_snoc {os : List LObj} {p : List (Nat × LEnt)} {x : Nat × LEnt} (h : Live os p) (hx : kindOf os x.2.id.toNat ≠ 0) : Live os (p ++ [x]):=by
  intro y hy
  rcases List.mem_append.1 hy with hy | hy
  · exact h y hy
  · simp at hy; subst hy; exact hx
def Named (os : List LObj) : Prop:=Live os (flat os) ∧ Uniq (flat os) ∧ ∀ i : Nat,1 ≤ i → i < 32 → kindOf os i ≠ 0 → ¬ Off (flat os) i
theorem flat_at {t : List LObj} {i k : Nat} {o : LObj} {e : LEnt} (ho : t[i]? = some o) (he : o.kids[k]? = some e) : ∃ r,flat t = (flat (t.take i) ++ tagged i (o.kids.take k)) ++ (i,e) :: r:=by
  obtain ⟨r,hr⟩:=flat_split ho
  obtain ⟨r',hr'⟩:=tagged_split (d:=i) he
  exact ⟨r' ++ r,by rw [hr,hr']; simp⟩
theorem named_no_live {t : List LObj} {i k : Nat} {o : LObj} {e : LEnt} (ho : t[i]? = some o) (he : o.kids[k]? = some e) (h : kindOf t e.id.toNat = 0) : ¬ Named t:=by
  intro hn
  obtain ⟨r,hr⟩:=flat_at ho he
  exact hn.1 (i,e) (by rw [hr]; simp) h
theorem named_no_twice {t : List LObj} {i k : Nat} {o : LObj} {e : LEnt} (ho : t[i]? = some o) (he : o.kids[k]? = some e) (h : ¬ Off (flat (t.take i) ++ tagged i (o.kids.take k)) e.id) : ¬ Named t:=by
  intro hn
  obtain ⟨r,hr⟩:=flat_at ho he
  exact h (hn.2.1 _ (i,e) r hr)
theorem layF_set {w : World} {L U : Nat} {os : List LObj} {f : Nat → Value} {h : Nat → Int} {nm : Nat → ByteArray} (hf : LayF w L U os f 32 h nm) (k : Nat) (x : Int) (s : ByteArray) :
    LayF w L U os (fun i=>if i = k * 6 + 3 then .string s else if i = k * 6 + 2 then .int .i64 x else f i) 32 (fun i=>if i = k then x else h i) (fun i=>if i = k then s else nm i):=by
  intro i hi
  obtain ⟨o',ka',kn',kc',ho',q0,q1,q2,q3,q4,q5,hk'⟩:=hf i hi
  refine ⟨o',ka',kn',kc',ho',?_,?_,?_,?_,?_,?_,hk'⟩
  · dsimp only; rw [if_neg (by omega),if_neg (by omega)]; exact q0
  · dsimp only; rw [if_neg (by omega),if_neg (by omega)]; exact q1
  · by_cases e : i = k
    · subst e; simp
    · dsimp only; rw [if_neg (by omega),if_neg (by omega),if_neg e]; exact q2
  · by_cases e : i = k
    · subst e; simp
    · dsimp only; rw [if_neg (by omega),if_neg (by omega),if_neg e]; exact q3
  · dsimp only; rw [if_neg (by omega),if_neg (by omega)]; exact q4
  · dsimp only; rw [if_neg (by omega),if_neg (by omega)]; exact q5
theorem layF_congr {w : World} {L U : Nat} {os : List LObj} {f : Nat → Value} {h h' : Nat → Int} {nm nm' : Nat → ByteArray} (hf : LayF w L U os f 32 h nm) (e1 : ∀ i,i < 32 → h i = h' i) (e2 : ∀ i,i < 32 → nm i = nm' i) : LayF w L U os f 32 h' nm':=by
  intro i hi
  obtain ⟨o',ka',kn',kc',ho',q0,q1,q2,q3,q4,q5,hk'⟩:=hf i hi
  exact ⟨o',ka',kn',kc',ho',q0,q1,by rw [q2,e1 i hi],by rw [q3,e2 i hi],q4,q5,hk'⟩
end
end Go.Proofs.YtloopeipheklpaaGreatDoor
