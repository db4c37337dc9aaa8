/- Lemmas that the proofs of this seat share: ShopB, ShopC, WokP, AllC, KeepI. -/
import Derived.Test.YtloopeipheklpaaGreatDoorW06
import Derived.Test.YtloopeipheklpaaGreatDoorW09
import Derived.Test.YtloopeipheklpaaGreatDoorW10
import Derived.Test.YtloopeipheklpaaGreatDoorW22
import Derived.Test.YtloopeipheklpaaGreatDoorW23
import Derived.Deep.RegionWith
import Derived.RowKitTokens
namespace Go.Proofs.YtloopeipheklpaaGreatDoor
section
open Go.RowKit
def doneB (d : LDone) : Bool:=decide (0 ≤ d.who) && decide (d.who < 3) && (decide (1 ≤ d.seq) && decide (d.seq ≤ 1000)) && ((d.code == 0) || (d.code == 1))
def behindB (ds : List LDone) (i : Nat) (d : LDone) : Bool:=match i with
  | 0=>true
  | k + 1=>match ds[k]? with
    | none=>true
    | some p=>decide (p.who < d.who)
def doneAtB (ds : List LDone) (i : Nat) : Bool:=match ds[i]? with
  | none=>true
  | some d=>doneB d && behindB ds i d
def donesB (ds : List LDone) : Bool:=(List.range ds.length).all (doneAtB ds)
theorem donesB_no {ds : List LDone} {i : Nat} (hi : i < ds.length) (h : doneAtB ds i = false) : donesB ds = false:=by
  unfold donesB
  rw [List.all_eq_false]
  exact ⟨i,List.mem_range.2 hi,by simp [h]⟩
theorem donesB_yes {ds : List LDone} (h : ∀ i,i < ds.length → doneAtB ds i = true) : donesB ds = true:=by
  unfold donesB
  rw [List.all_eq_true]
  exact fun i hi=>h i (List.mem_range.1 hi)
theorem doneAtB_of {ds : List LDone} {i : Nat} {d : LDone} (h : ds[i]? = some d) : doneAtB ds i = (doneB d && behindB ds i d):=by simp [doneAtB,h]
theorem behindB_of {ds : List LDone} {i k : Nat} {d p : LDone} (e : i = k + 1) (h : ds[k]? = some p) : behindB ds i d = decide (p.who < d.who):=by subst e; simp [behindB,h]
set_option maxHeartbeats 4000000 in
set_option maxRecDepth 20000 in
theorem donesOk_any (a : Option Addr) (n c : Nat) (ds : List LDone) (L U : Nat) (w : World) (hU : U ≤ w.heap.size) (H : DonesAt w L U a n ds) :
    Calls Tryz.prog 159 #[.slice a n c] w fun e w'=>e = .returned (.bool (donesB ds)) ∧ Below w.heap.size w w':=by
  have hbd:=H.bd
  unfold maxLen at hbd
  have HLN : Hid (n = ds.length):=H.len
  go_enter Tryz.func159,Tryz.ntmps159
  go_wp2_with fail
  go_loopg [7] n (fun g i wr=>∃ j : Nat,j ≤ n ∧ Hid (g = n - j) ∧ i = .int .i64 j ∧ Hid (∀ i,i < j → doneAtB ds i = true) ∧ Below w.heap.size w wr)
  case atStart=>exact ⟨0,Nat.zero_le _,rfl,rfl,fun i hi=>by omega,Below.refl _ _⟩
  case round =>
    obtain ⟨j,hj,hk,rfl,hq,hb⟩:=hrel
    by_cases hlt : j < n
    · obtain ⟨b,off,ha,hL,hbU,hc⟩:=H.at_ (by omega)
      subst ha
      obtain ⟨x,he,c0,c1,c2⟩:=hc j hlt
      rw [← hb.cell (by simp; omega)] at c0 c1 c2
      have HX : Hid (ds[j]? = some x):=he
      have hlt' : (j : Int) < (n : Int):=by omega
      have hA : ∀ o1 : Obj,Below w.heap.size w (wr.alloc o1):=fun o1=>hb.alloc hb.size _
      rcases t1 : (decide (0 ≤ x.who) && decide (x.who < 3)) with _ | _
      · have HN : Hid (donesB ds = false):=donesB_no (i:=j) (by rw [← HLN.out]; exact hlt) (by rw [doneAtB_of he,doneB,t1]; simp)
        clear he hc
        go_wp2_with fail
        refine (isClient_any _ _).mono ?_
        rintro e w1 ⟨rfl,rfl⟩
        rw [t1]
        go_wp2_with fail
        go_ret
        exact ⟨ret_bool HN.out.symm,hA _⟩
      rcases t2 : (decide (1 ≤ x.seq) && decide (x.seq ≤ 1000)) with _ | _
      · have HN : Hid (donesB ds = false):=donesB_no (i:=j) (by rw [← HLN.out]; exact hlt) (by rw [doneAtB_of he,doneB,t2]; simp)
        clear he hc
        go_wp2_with fail
        refine (isClient_any _ _).mono ?_
        rintro e w1 ⟨rfl,rfl⟩
        rw [t1]
        go_wp2_with fail
        refine (isLogNumber_any _ _).mono ?_
        rintro e w1 ⟨rfl,rfl⟩
        rw [t2]
        go_wp2_with fail
        go_ret
        exact ⟨ret_bool HN.out.symm,hA _⟩
      by_cases t3 : x.code = 0 ∨ x.code = 1
      case neg =>
        have HN : Hid (donesB ds = false):=donesB_no (i:=j) (by rw [← HLN.out]; exact hlt) (by rw [doneAtB_of he,doneB]; simp; omega)
        have u0 : (x.code != 0) = true:=by simp; omega
        have u1 : (x.code != 1) = true:=by simp; omega
        clear he hc t3
        go_wp2_with fail
        refine (isClient_any _ _).mono ?_
        rintro e w1 ⟨rfl,rfl⟩
        rw [t1]
        go_wp2_with fail
        refine (isLogNumber_any _ _).mono ?_
        rintro e w1 ⟨rfl,rfl⟩
        rw [t2]
        go_wp2_with fail
        go_ret
        exact ⟨ret_bool HN.out.symm,hA _⟩
      have HD : Hid (doneB x = true):=by
        show _ = _
        rw [doneB,t1,t2]
        rcases t3 with h | h <;> simp [h]
      have HC : Hid (((x.code != 0) = false) ∨ ((x.code != 0) = true ∧ (x.code != 1) = false)):=by
        rcases t3 with h | h
        · exact .inl (by simp [h])
        · exact .inr (by simp [h])
      clear t3
      obtain ⟨wb,hwb⟩ : ∃ W : World,W = wr:=⟨_,rfl⟩
      by_cases hj0 : j = 0
      · have HN : Hid (doneAtB ds j = true):=by show _ = _; rw [doneAtB_of he,HD.out,hj0]; rfl
        have hg : ¬ (0 : Int) < (j : Int):=by omega
        have hg' : ¬ 0 < j:=by omega
        have HJ : Hid (j = 0):=hj0
        have HCC:=HC.out
        clear he hc HD HC hj0 hwb
        rcases HCC with u0 | ⟨u0,u1⟩
        all_goals
          go_wp2_with fail
          refine (isClient_any _ _).mono ?_
          rintro e w1 ⟨rfl,rfl⟩
          rw [t1]
          go_wp2_with fail
          refine (isLogNumber_any _ _).mono ?_
          rintro e w1 ⟨rfl,rfl⟩
          rw [t2]
          go_wp2_with fail
          go_quiet (fail)
          go_wp2_with fail
          go_roundg (n - (j + 1))
          case measure=>have:=hk.out; omega
          case rel =>
            refine ⟨j + 1,by omega,rfl,by go_num,fun i hi=>?_,(hA _).trans ((Below.drewN _ _).mono (by have:=hb.size; simp <;> omega))⟩
            by_cases e : i = j
            · subst e; exact HN.out
            · exact hq.out i (by omega)
      obtain ⟨k,hk1⟩ : ∃ k,k + 1 = j:=⟨j - 1,by omega⟩
      obtain ⟨y,hy,d0,_,_⟩:=hc k (by omega)
      rw [← hb.cell (by simp; omega)] at d0
      have d0' : ∀ o : Obj,(wr.alloc o).cell? ⟨b,off + k * 3,none⟩ = some (.int .i64 y.who):=fun o=>by
        rw [((Below.refl wr.heap.size wr).alloc (Nat.le_refl _) o).cell (by have:=hb.size; simp; omega)]; exact d0
      have hw : IntKind.i64.wrap ((j : Int) - 1) = (k : Int):=by simp only [IntKind.wrap_i64]; omega
      have hg : (0 : Int) < (j : Int):=by omega
      have hg' : 0 < j:=by omega
      have hkn : (k : Int) < (n : Int):=by omega
      have hkn' : k < n:=by omega
      have HBH : Hid (doneAtB ds j = decide (y.who < x.who)):=by show _ = _; rw [doneAtB_of he,HD.out,behindB_of hk1.symm hy]; simp
      have HJ : Hid (k + 1 = j):=hk1
      have HCC:=HC.out
      clear he hc HD HC hj0 hwb hk1 hy
      by_cases hlt2 : y.who < x.who
      · have HN : Hid (doneAtB ds j = true):=by show _ = _; rw [HBH.out]; simp [hlt2]
        clear HBH
        rcases HCC with u0 | ⟨u0,u1⟩
        all_goals
          go_wp2_with fail
          refine (isClient_any _ _).mono ?_
          rintro e w1 ⟨rfl,rfl⟩
          rw [t1]
          go_wp2_with fail
          refine (isLogNumber_any _ _).mono ?_
          rintro e w1 ⟨rfl,rfl⟩
          rw [t2]
          go_wp2_with fail
          go_quiet (fail)
          go_wp2_with fail
          go_roundg (n - (j + 1))
          case measure=>have:=hk.out; omega
          case rel =>
            refine ⟨j + 1,by omega,rfl,by go_num,fun i hi=>?_,(hA _).trans ((Below.drewN _ _).mono (by have:=hb.size; simp <;> omega))⟩
            by_cases e : i = j
            · subst e; exact HN.out
            · exact hq.out i (by omega)
      · have HN : Hid (donesB ds = false):=donesB_no (i:=j) (by rw [← HLN.out]; exact hlt) (by rw [HBH.out]; simp [hlt2])
        clear HBH
        rcases HCC with u0 | ⟨u0,u1⟩
        all_goals
          go_wp2_with fail
          refine (isClient_any _ _).mono ?_
          rintro e w1 ⟨rfl,rfl⟩
          rw [t1]
          go_wp2_with fail
          refine (isLogNumber_any _ _).mono ?_
          rintro e w1 ⟨rfl,rfl⟩
          rw [t2]
          go_wp2_with fail
          go_quiet (fail)
          go_wp2_with fail
          go_ret
          exact ⟨ret_bool HN.out.symm,(hA _).trans ((Below.drewN _ _).mono (by have:=hb.size; simp <;> omega))⟩
    · have HN : Hid (donesB ds = true):=donesB_yes (fun i hi=>hq.out i (by rw [← HLN.out] at hi; omega))
      go_wp2_with fail
      go_ret
      exact ⟨ret_bool HN.out.symm,hb⟩
end
section
open Go.RowKit
def shopOk (os : List LObj) (ds : List LDone) : Bool:=specOk os && donesB ds
theorem implShopOk (a : Option Addr) (n c : Nat) (os : List LObj) (a' : Option Addr) (n' c' : Nat) (ds : List LDone) (L U L' U' : Nat) (w : World) (hU : U ≤ w.heap.size) (hU' : U' ≤ w.heap.size) (HO : ObjsAt w L U a n os) (HD : DonesAt w L' U' a' n' ds) :
    Calls Tryz.prog 101 #[.agg #[.slice a n c,.slice a' n' c']] w fun e w'=>e = .returned (.bool (shopOk os ds)) ∧ Below w.heap.size w w':=by
  have hA : ∀ o1 : Obj,Below w.heap.size w (w.alloc o1):=fun o1=>(Below.refl _ _).alloc (Nat.le_refl _) _
  go_enter Tryz.func101,Tryz.ntmps101
  go_wp2_with fail
  refine (implTreeOk _ _ _ _ L U _ (by simp; omega) (HO.below (hA _) hU)).mono ?_
  rintro x w1 ⟨rfl,hb1⟩
  have h1 : Below w.heap.size w w1:=(hA _).trans (hb1.mono (by simp))
  have c1 : w1.cell? ⟨w.heap.size,1,none⟩ = some (.slice a' n' c'):=by rw [hb1.cell (by simp)]; simp [go_sem]
  clear hb1
  rcases t1 : specOk os with _ | _
  · go_wp2_with fail
    go_ret
    exact ⟨ret_bool (by simp [shopOk,t1]),h1⟩
  · go_wp2_with fail
    refine (donesOk_any _ _ _ _ L' U' _ (by have:=h1.size; omega) (HD.below h1 hU')).mono ?_
    rintro x w2 ⟨rfl,hb2⟩
    go_wp2_with fail
    go_ret
    exact ⟨ret_bool (by simp [shopOk,t1]),h1.trans (hb2.mono h1.size)⟩
theorem doneB_parts (x : LDone) : (decide (x.who < 0) = false ∧ decide (3 ≤ x.who) = false ∧ decide (x.seq < 1) = false ∧ decide (1000 < x.seq) = false ∧ ((x.code != 0) = false ∨ (x.code != 0) = true ∧ (x.code != 1) = false) ∧ doneB x = true) ∨ (decide (x.who < 0) = true ∧ doneB x = false) ∨ (decide (x.who < 0) = false ∧ decide (3 ≤ x.who) = true ∧ doneB x = false) ∨ (decide (x.who < 0) = false ∧ decide (3 ≤ x.who) = false ∧ decide (x.seq < 1) = true ∧ doneB x = false) ∨ (decide (x.who < 0) = false ∧ decide (3 ≤ x.who) = false ∧ decide (x.seq < 1) = false ∧ decide (1000 < x.seq) = true ∧ doneB x = false) ∨ (decide (x.who < 0) = false ∧ decide (3 ≤ x.who) = false ∧ decide (x.seq < 1) = false ∧ decide (1000 < x.seq) = false ∧ (x.code != 0) = true ∧ (x.code != 1) = true ∧ doneB x = false):=by
  by_cases h0 : x.who < 0
  · exact .inr (.inl ⟨decide_eq_true h0,by simp [doneB]; omega⟩)
  have g0:=decide_eq_false h0
  by_cases h1 : 3 ≤ x.who
  · exact .inr (.inr (.inl ⟨g0,decide_eq_true h1,by simp [doneB]; omega⟩))
  have g1:=decide_eq_false h1
  by_cases h2 : x.seq < 1
  · exact .inr (.inr (.inr (.inl ⟨g0,g1,decide_eq_true h2,by simp [doneB]; omega⟩)))
  have g2:=decide_eq_false h2
  by_cases h3 : 1000 < x.seq
  · exact .inr (.inr (.inr (.inr (.inl ⟨g0,g1,g2,decide_eq_true h3,by simp [doneB]; omega⟩))))
  have g3:=decide_eq_false h3
  by_cases h4 : x.code = 0
  · exact .inl ⟨g0,g1,g2,g3,.inl (by simp [h4]),by simp [doneB,h4]; omega⟩
  by_cases h5 : x.code = 1
  · exact .inl ⟨g0,g1,g2,g3,.inr (by simp [h5]),by simp [doneB,h5]; omega⟩
  · exact .inr (.inr (.inr (.inr (.inr ⟨g0,g1,g2,g3,by simp [h4],by simp [h5],by simp [doneB,h4,h5]⟩))))
set_option maxHeartbeats 8000000 in
set_option maxRecDepth 20000 in
theorem specShopOk (a : Option Addr) (n c : Nat) (os : List LObj) (a' : Option Addr) (n' c' : Nat) (ds : List LDone) (L U L' U' : Nat) (w : World) (hS : Sizes os 1048576) (hU : U ≤ w.heap.size) (hU' : U' ≤ w.heap.size) (HO : ObjsAt w L U a n os) (H : DonesAt w L' U' a' n' ds) :
    Calls Tryz.prog 99 #[.agg #[.slice a n c,.slice a' n' c']] w fun e w'=>e = .returned (.bool (shopOk os ds)) ∧ Below w.heap.size w w':=by
  have hA : ∀ o1 : Obj,Below w.heap.size w (w.alloc o1):=fun o1=>(Below.refl _ _).alloc (Nat.le_refl _) _
  have hbd:=H.bd
  unfold maxLen at hbd
  have HLN : Hid (n' = ds.length):=H.len
  go_enter Tryz.func99,Tryz.ntmps99
  go_wp2_with fail
  refine (specTreeOk _ _ _ _ L U _ hS (by simp; omega) (HO.below (hA _) hU)).mono ?_
  rintro x w1 ⟨rfl,hb1⟩
  have h1 : Below w.heap.size w w1:=(hA _).trans (hb1.mono (by simp))
  have c1 : w1.cell? ⟨w.heap.size,1,none⟩ = some (.slice a' n' c'):=by rw [hb1.cell (by simp)]; simp [go_sem]
  have hz1 : w.heap.size < w1.heap.size:=by have:=hb1.size; simp at this; omega
  clear hb1
  rcases t1 : specOk os with _ | _
  · go_wp2_with fail
    go_ret
    exact ⟨ret_bool (by simp [shopOk,t1]),h1⟩
  have HV : Hid (shopOk os ds = donesB ds):=by show _ = _; simp [shopOk,t1]
  go_wp2_with fail
  go_loopg [3] n' (fun g i wr=>∃ j : Nat,j ≤ n' ∧ Hid (g = n' - j) ∧ i = .int .i64 j ∧ Hid (∀ i,i < j → doneAtB ds i = true) ∧ Below w1.heap.size w1 wr)
  case atStart=>exact ⟨0,Nat.zero_le _,rfl,rfl,fun i hi=>by omega,Below.refl _ _⟩
  case round =>
    obtain ⟨j,hj,hk,rfl,hq,hb⟩:=hrel
    have hzz:=hb.size
    have c1r : wr.cell? ⟨w.heap.size,1,none⟩ = some (.slice a' n' c'):=by rw [hb.cell (by simp; omega)]; exact c1
    have HB : Hid (Below w.heap.size w wr):=h1.trans (hb.mono h1.size)
    by_cases hlt : j < n'
    · obtain ⟨b,off,ha,hL,hbU,hc⟩:=H.at_ (by omega)
      subst ha
      have hbw : b < wr.heap.size:=by have:=HB.out.size; omega
      obtain ⟨x,he,c0,c1',c2⟩:=hc j hlt
      rw [← HB.out.cell (by simp; omega)] at c0 c1' c2
      have hlt' : (j : Int) < (n' : Int):=by omega
      have hA2 : ∀ o1 : Obj,Below w1.heap.size w1 (wr.alloc o1):=fun o1=>hb.alloc hb.size _
      have c1a : ∀ o : Obj,(wr.alloc o).cell? ⟨w.heap.size,1,none⟩ = some (.slice (some ⟨b,off,none⟩) n' c'):=fun o=>by
        rw [((Below.refl wr.heap.size wr).alloc (Nat.le_refl _) o).cell (by simp; omega)]; exact c1r
      rcases doneB_parts x with ⟨p0,p1,p2,p3,p4,hd⟩ | ⟨p0,hd⟩ | ⟨p0,p1,hd⟩ | ⟨p0,p1,p2,hd⟩ | ⟨p0,p1,p2,p3,hd⟩ | ⟨p0,p1,p2,p3,u0,u1,hd⟩
      · by_cases hj0 : j = 0
        · have HN : Hid (doneAtB ds j = true):=by show _ = _; rw [doneAtB_of he,hd,hj0]; rfl
          have hg : decide ((0 : Int) < (j : Int)) = false:=by simp; omega
          have hg' : decide (0 < j) = false:=by simp; omega
          have HJ : Hid (j = 0):=hj0
          clear he hc hd hj0
          rcases p4 with u0 | ⟨u0,u1⟩
          all_goals
            go_wp2_with fail
            go_big_quiet (fail)
            go_wp2_with fail
            go_roundg (n' - (j + 1))
            case measure=>have:=hk.out; omega
            case rel =>
              refine ⟨j + 1,by omega,rfl,by go_num,fun i hi=>?_,(hA2 _).trans ((Below.drewN _ _).mono (by simp <;> omega))⟩
              by_cases e : i = j
              · subst e; exact HN.out
              · exact hq.out i (by omega)
        obtain ⟨k,hk1⟩ : ∃ k,k + 1 = j:=⟨j - 1,by omega⟩
        obtain ⟨y,hy,d0,_,_⟩:=hc k (by omega)
        rw [← HB.out.cell (by simp; omega)] at d0
        have d0' : ∀ o : Obj,(wr.alloc o).cell? ⟨b,off + k * 3,none⟩ = some (.int .i64 y.who):=fun o=>by
          rw [((Below.refl wr.heap.size wr).alloc (Nat.le_refl _) o).cell (by simp; omega)]; exact d0
        have hw : IntKind.i64.wrap ((j : Int) - 1) = (k : Int):=by simp only [IntKind.wrap_i64]; omega
        have hg : decide ((0 : Int) < (j : Int)) = true:=by simp; omega
        have hg' : decide (0 < j) = true:=by simp; omega
        have hkn : (k : Int) < (n' : Int):=by omega
        have hkn' : k < n':=by omega
        have HBH : Hid (doneAtB ds j = decide (y.who < x.who)):=by show _ = _; rw [doneAtB_of he,hd,behindB_of hk1.symm hy]; simp
        have HJ : Hid (k + 1 = j):=hk1
        clear he hc hd hj0 hk1 hy
        rcases hlt2 : decide (x.who ≤ y.who) with _ | _
        · have HN : Hid (doneAtB ds j = true):=by show _ = _; rw [HBH.out]; simp at hlt2 ⊢; omega
          clear HBH
          rcases p4 with u0 | ⟨u0,u1⟩
          all_goals
            go_wp2_with fail
            go_big_quiet (fail)
            go_wp2_with fail
            go_roundg (n' - (j + 1))
            case measure=>have:=hk.out; omega
            case rel =>
              refine ⟨j + 1,by omega,rfl,by go_num,fun i hi=>?_,(hA2 _).trans ((Below.drewN _ _).mono (by simp <;> omega))⟩
              by_cases e : i = j
              · subst e; exact HN.out
              · exact hq.out i (by omega)
        · have HN : Hid (donesB ds = false):=donesB_no (i:=j) (by rw [← HLN.out]; exact hlt) (by rw [HBH.out]; simp at hlt2 ⊢; omega)
          clear HBH
          rcases p4 with u0 | ⟨u0,u1⟩
          all_goals
            go_wp2_with fail
            go_big_quiet (fail)
            go_wp2_with fail
            go_ret
            exact ⟨ret_bool (by rw [HV.out,HN.out]),h1.trans (((hA2 _).trans ((Below.drewN _ _).mono (by simp <;> omega))).mono h1.size)⟩
      all_goals
        have HN : Hid (donesB ds = false):=donesB_no (i:=j) (by rw [← HLN.out]; exact hlt) (by rw [doneAtB_of he,hd]; rfl)
        clear he hc hd
        go_wp2_with fail
        go_big_quiet (fail)
        go_wp2_with fail
        go_ret
        exact ⟨ret_bool (by rw [HV.out,HN.out]),h1.trans (((hA2 _).trans ((Below.drewN _ _).mono (by simp <;> omega))).mono h1.size)⟩
    · have HN : Hid (donesB ds = true):=donesB_yes (fun i hi=>hq.out i (by rw [← HLN.out] at hi; omega))
      go_wp2_with fail
      go_ret
      exact ⟨ret_bool (by rw [HV.out,HN.out]),h1.trans (hb.mono h1.size)⟩
end
section
open Go.RowKit Go.ChangeShapes Go.WideShapes
def keepsFrom : Nat → List LKeep → Bool
  | _,[]=>true
  | i,k :: r=>(k.who == (i : Int)) && keepOk k && keepsFrom (i + 1) r
def msgOkM (m : LMsg) : Bool:=msgOk m.kind m.who m.seq m.code m.log m.tree
def codeB (c : Int) : Bool:=decide (0 ≤ c) && decide (c ≤ 2)
def toldB (t : LTold) : Bool:=clientB t.who && (decide (1 ≤ t.seq) && decide (t.seq ≤ 1000)) && codeB t.code
def worldOk (x : LWorld) : Bool:=shopOk x.tree x.dones && (decide (x.keeps.length = 3) && keepsFrom 0 x.keeps) && (decide (x.net.length ≤ 24) && x.net.all msgOkM) && (decide (x.past.length ≤ 60) && x.past.all logOk) && (decide (x.told.length ≤ 60) && x.told.all toldB)
theorem keepsFrom_step {ks : List LKeep} {j : Nat} {k : LKeep} (h : ks[j]? = some k) : keepsFrom j (ks.drop j) = ((k.who == (j : Int)) && keepOk k && keepsFrom (j + 1) (ks.drop (j + 1))):=by rw [drop_cons h]; rfl
end
section
open Go.RowKit
set_option maxHeartbeats 4000000 in
set_option maxRecDepth 20000 in
theorem implActAll (sn : Nat → Addr) (S0 : Nat) (t la : Option Addr) (n c m lc : Nat) (os : List LObj) (ops : List LOp) (L U L2 U2 : Nat) (w : World) (hS0 : S0 ≤ w.heap.size) (HS : Sents w S0 sn) (hS : Sizes os 1048576) (hU : U ≤ w.heap.size) (H : ObjsAt w L U t n os) (hU2 : U2 ≤ w.heap.size) (H2 : OpsAt w L2 U2 la m ops) :
    Calls Tryz.prog 118 #[.agg #[.slice t n c],.slice la m lc] w fun e w'=>AllEnd w (allR os ops) e w':=by
  have hbd:=H2.bd
  unfold maxLen at hbd
  have HLN : Hid (n = os.length):=H.len
  have HLM : Hid (m = ops.length):=H2.len
  have hHA : Hid (Below w.heap.size w ((w.alloc (.cells #[.slice t n c] 26)).alloc (.cells #[.slice none 0 0] 26))):=((Below.refl _ _).alloc (Nat.le_refl _) _).alloc (by simp) _
  have hHX : Hid (((w.alloc (.cells #[.slice t n c] 26)).alloc (.cells #[.slice none 0 0] 26)).rowIs (w.heap.size + 1) 26 1 (zrow #[.slice none 0 0])):=by
    show World.rowIs _ _ _ _ _
    have:=zrow_new (w.alloc (.cells #[.slice t n c] 26)) #[.slice none 0 0] 26
    simpa using this
  have hHT : Hid (((w.alloc (.cells #[.slice t n c] 26)).alloc (.cells #[.slice none 0 0] 26)).cell? ⟨w.heap.size,0,none⟩ = some (.slice t n c)):=by show _ = _; simp [go_sem]
  go_enter Tryz.func118,Tryz.ntmps118
  go_wp2_with fail
  refine (implTreeOk _ _ _ os L U _ (Nat.le_trans hU hHA.out.size) (H.below hHA.out hU)).mono ?_
  rintro e w1 ⟨rfl,hb1⟩
  have hz1:=hb1.size
  simp at hz1
  have HB1 : Hid (Below w.heap.size w w1):=hHA.out.trans (hb1.mono hHA.out.size)
  have HX1 : Hid (w1.rowIs (w.heap.size + 1) 26 1 (zrow #[.slice none 0 0])):=hHX.out.of_block (hb1.block _ hHX.out.lt)
  have q1 : w1.cell? ⟨w.heap.size,0,none⟩ = some (.slice t n c):=by rw [hb1.cell (by simp; omega)]; exact hHT.out
  have p1:=HX1.out.cell (i:=0) (by omega)
  have z1:=HX1.out.frozen 0
  clear hb1 hHA hHX hHT
  rcases ts : specOk os with _ | _
  · have HV : Hid (allR os ops = ([],8,0)):=by show _ = _; unfold allR; rw [if_neg (by rw [ts]; simp)]
    clear ts
    go_wp2_with fail
    refine bodyPost_ret (v:=Value.tuple #[.agg #[.slice none 0 0],.int .i64 8,.int .i64 0]) (by rw [results,Tryz.results118]; simp [go_sem,World.cell?_setCell_same _ _ _ p1]) rfl ⟨.inl ⟨by rw [HV.out],by rw [HV.out]; rfl⟩,HB1.out.setCell (by show _ ≤ _ + 1; omega) _⟩
  have HOK : Hid (specOk os = true):=ts
  have HN : Hid (n = 32):=by show _ = _; rw [HLN.out]; exact ok_len ts
  clear ts
  go_wp2_with fail
  refine (listOk_any la m lc ops L2 U2 w1 (Nat.le_trans hU2 HB1.out.size) (H2.below HB1.out hU2)).mono ?_
  rintro e w2 ⟨rfl,hb2⟩
  have HB2 : Hid (Below w.heap.size w w2):=HB1.out.trans (hb2.mono HB1.out.size)
  have HX2 : Hid (w2.rowIs (w.heap.size + 1) 26 1 (zrow #[.slice none 0 0])):=HX1.out.of_block (hb2.block _ HX1.out.lt)
  have q2 : w2.cell? ⟨w.heap.size,0,none⟩ = some (.slice t n c):=by rw [hb2.cell (by simp; omega)]; exact q1
  have p2:=HX2.out.cell (i:=0) (by omega)
  have z2:=HX2.out.frozen 0
  have hz2:=hb2.size
  clear hb2 q1 p1 z1 HB1 HX1
  rcases tf : formsB ops with _ | _
  · have HV : Hid (allR os ops = ([],8,0)):=by show _ = _; unfold allR; rw [if_neg (by rw [tf]; simp)]
    clear tf
    go_wp2_with fail
    refine bodyPost_ret (v:=Value.tuple #[.agg #[.slice none 0 0],.int .i64 8,.int .i64 0]) (by rw [results,Tryz.results118]; simp [go_sem,World.cell?_setCell_same _ _ _ p2]) rfl ⟨.inl ⟨by rw [HV.out],by rw [HV.out]; rfl⟩,HB2.out.setCell (by show _ ≤ _ + 1; omega) _⟩
  have HV : Hid (allR os ops = allGo os os ops 0):=by show _ = _; unfold allR; rw [if_pos ⟨HOK.out,tf⟩]
  have HFM : Hid (formsB ops = true):=tf
  have HTR:=fun w hU H=>trialOf_any t n c os L U w (by rw [HN.out]; omega) (by rw [HN.out]; omega) hS hU H
  have HCT:=fun w hU H=>copyTree_any t n c os L U w (by rw [HN.out]; omega) (by rw [HN.out]; omega) hS hU H
  clear tf
  go_wp2_with fail
  refine (HTR w2 (Nat.le_trans hU HB2.out.size) (H.below HB2.out hU)).mono ?_
  rintro e w3 ⟨⟨b1,c1,vs,rfl,HOW⟩,hb3⟩
  have HX3:=HX2.out.of_block (hb3.block _ HX2.out.lt)
  have q3 : w3.cell? ⟨w.heap.size,0,none⟩ = some (.slice t n c):=by rw [hb3.cell (by simp; omega)]; exact q2
  have HB3:=HB2.out.trans (hb3.mono HB2.out.size)
  have hz3:=hb3.size
  have hA2 : Below w3.heap.size w3 (w3.alloc (.cells #[.slice (some ⟨b1,0,none⟩) n c1] 235)):=(Below.refl _ _).alloc (Nat.le_refl _) _
  have HZ0 : Hid (LZ w (w3.alloc (.cells #[.slice (some ⟨b1,0,none⟩) n c1] 235)) w3.heap.size 235 t n c b1 c1) :=
    ⟨HB3.trans (hA2.mono HB3.size),by rw [hA2.cell (by simp; omega)]; exact q3,⟨_,HX3.of_block (hA2.block _ HX3.lt)⟩,by simp [go_sem],⟨_,zrow_new w3 #[.slice (some ⟨b1,0,none⟩) n c1] 235⟩,by omega,by simp⟩
  have HT0 : Hid (OwnT (w3.alloc (.cells #[.slice (some ⟨b1,0,none⟩) n c1] 235)) (w.heap.size + 1 + 1) b1 c1 os vs):=(HOW.base' (by omega)).below hA2
  obtain ⟨T,hT⟩ : ∃ T,w3.heap.size = T:=⟨_,rfl⟩
  have HZT : Hid (LZ w (w3.alloc (.cells #[.slice (some ⟨b1,0,none⟩) n c1] 235)) T 235 t n c b1 c1):=by have h9:=HZ0.out; rw [hT] at h9; exact h9
  clear HZ0 HOW hA2 HB3 HX3 q3 hb3 q2 p2 z2 HX2 HB2
  go_wp2_with fail
  clear hT hz1 hz2 hz3
  go_loopg [24] m (fun g i wr=>∃ j : Nat,j ≤ m ∧ Hid (g = m - j) ∧ i = .int .i64 j ∧ ∃ os' vs',Hid (LZ w wr T 235 t n c b1 c1) ∧ Hid (OwnT wr (w.heap.size + 1 + 1) b1 c1 os' vs') ∧ Hid (specOk os' = true) ∧ Hid (allGo os os ops 0 = allGo os os' (ops.drop j) j))
  case atStart=>exact ⟨0,Nat.zero_le _,rfl,rfl,os,vs,HZT,HT0,HOK,by show _ = _; rw [List.drop_zero]⟩
  case round =>
    obtain ⟨j,hj,hg,rfl,os1,vs1,HZ,HT,HS1,HG⟩:=hrel
    clear HZT HT0
    by_cases hlt : j < m
    · obtain ⟨lb,off,ha,hL,hlb0,hcc⟩:=H2.at_ (by omega)
      obtain ⟨o,he,hsz,hat⟩:=hcc j hlt
      have hlb : lb < w.heap.size:=by omega
      obtain ⟨d0,d1,d2,d3,d4,d5,d6⟩:=hat.of_block (HZ.out.below.block lb hlb)
      have hltI : (j : Int) < (m : Int):=by omega
      have hok : opOk o = true:=forms_op HFM.out he
      have HL : Hid (os1.length = n):=by show _ = _; rw [HN.out]; exact ok_len HS1.out
      have hDO:=fun (w' : World) (b c : Nat) hU HS' hB H=>attempt_any sn S0 (w.heap.size + 1 + 1) b c n o os1 vs1 w' hU HS' hB HS1.out HN.out hsz H hok
      obtain ⟨r,hr⟩ : ∃ r,r = actDo os1 o:=⟨_,rfl⟩
      rw [← hr] at hDO
      have HRL : Hid (r.1.length = n):=by show _ = _; rw [hr,actDo_len]; exact HL.out
      have HRO : Hid (r.2 = 0 → specOk r.1 = true):=fun h=>by rw [hr]; exact act_ok HS1.out hok (by rw [← hr]; exact h)
      have HG1 : Hid (allGo os os ops 0 = if r.2 = 0 then allGo os r.1 (ops.drop (j + 1)) (j + 1) else (os,r.2,j)):=by show _ = _; rw [HG.out,allGo_step os os1 he,← hr]
      have hal : Below wr.heap.size wr (wr.alloc (.cells #[.int .i64 o.kind,.int .i64 o.dir,.string o.name,.int .i64 o.dir2,.string o.name2,.int .i64 o.id,.string o.text] 130)):=(Below.refl _ _).alloc (Nat.le_refl _) _
      have HZ6 : Hid (LZ w (wr.alloc (.cells #[.int .i64 o.kind,.int .i64 o.dir,.string o.name,.int .i64 o.dir2,.string o.name2,.int .i64 o.id,.string o.text] 130)) T 235 t n c b1 c1):=HZ.out.next hal
      have HT6 : Hid (OwnT (wr.alloc (.cells #[.int .i64 o.kind,.int .i64 o.dir,.string o.name,.int .i64 o.dir2,.string o.name2,.int .i64 o.id,.string o.text] 130)) (w.heap.size + 1 + 1) b1 c1 os1 vs1):=HT.out.below hal
      have y0 : ∀ ob : Obj,(wr.alloc ob).cell? ⟨T,0,none⟩ = some (.slice (some ⟨b1,0,none⟩) n c1):=fun ob=>(HZ.out.next ((Below.refl _ _).alloc (Nat.le_refl _) ob)).x
      subst ha
      clear hat hcc he hr HG hok hal
      go_wp2_with fail
      refine (hDO _ b1 c1 (by omega) (HS.below HZ6.out.below hS0) (by have:=HZ6.out.lo; have:=HZ6.out.lt; omega) HT6.out).mono ?_
      rintro e w4 ⟨k,vs4,hk1,hk2,rfl,hP⟩
      have HZ7 : Hid (LZ w w4 T 235 t n c b1 c1):=HZ6.out.call (by decide) HL.out HT6.out hP.below hP.kt
      have HT7 : Hid (OwnT w4 (w.heap.size + 1 + 1) b1 c1 r.1 vs4):=hP.own
      have HSE : Hid (Sents w4 S0 sn):=HS.below HZ7.out.below hS0
      clear HZ6 HT6 hP hDO HZ HT d0 d1 d2 d3 d4 d5 d6 y0
      rcases k with _ | k
      · have HG2 : Hid (allGo os os ops 0 = allGo os r.1 (ops.drop (j + 1)) (j + 1)):=by show _ = _; rw [HG1.out,if_pos (by simpa using hk1)]
        have HS2 : Hid (specOk r.1 = true):=HRO.out (by simpa using hk1)
        clear hk1 HG1 HRO
        simp only [errV]
        go_wp2_with fail
        go_roundg (m - (j + 1))
        case measure=>have:=hg.out; omega
        case rel=>exact ⟨j + 1,by omega,rfl,by go_num,r.1,vs4,HZ7,HT7,HS2,HG2⟩
      · have HG2 : Hid (allGo os os ops 0 = (os,((k + 1 : Nat) : Int),j)):=by show _ = _; rw [HG1.out,if_neg (by rw [hk1]; omega),hk1]
        have HAC:=actCode_any sn S0 (k + 1) w4
        clear hk1 HG1 HRO HT7
        have y0:=HZ7.out.t
        have hAC:=fun w' H=>actCode_any sn S0 (k + 1) w' hk2 H
        simp only [errV] at hAC ⊢
        clear HAC
        go_wp2_with fail
        refine (HCT w4 (Nat.le_trans hU HZ7.out.below.size) (H.below HZ7.out.below hU)).mono ?_
        rintro e w8 ⟨⟨b8,c8,vs8,rfl,HOW⟩,hb8⟩
        obtain ⟨f8,r8⟩:=(HZ7.out.next hb8).r
        have z8:=r8.frozen 0
        have q8:=r8.cell (i:=0) (by omega)
        have hz8:=HZ7.out.below.size
        have HSE8 : Hid (Sents w8 S0 sn):=HS.below (HZ7.out.next hb8).below hS0
        go_wp2_with fail
        refine (hAC _ HSE8.out).mono ?_
        rintro e w9 ⟨rfl,rfl⟩
        go_wp2_with fail
        refine bodyPost_ret (v:=Value.tuple #[.agg #[.slice (some ⟨b8,0,none⟩) n c8],.int .i64 ((k + 1 : Nat) : Int),.int .i64 j]) (by rw [results,Tryz.results118]; simp [go_sem,World.cell?_setCell_same _ _ _ q8]) rfl ⟨.inr ⟨b8,c8,vs8,by rw [HV.out,HG2.out,HLN.out],?_⟩,?_⟩
        · rw [HV.out,HG2.out]; exact (HOW.setBox ⟨_,r8⟩ 0 _).base' (by omega)
        · exact ((HZ7.out.next hb8).below).setCell (by show _ ≤ _ + 1; omega) _
    · have HG2 : Hid (allGo os os ops 0 = (os1,0,m)):=by
        show _ = _
        have : j = m:=by omega
        subst this
        rw [HG.out,allGo_end _ _ (by rw [HLM.out]; exact Nat.le_refl _)]
      have HL : Hid (os1.length = n):=by show _ = _; rw [HN.out]; exact ok_len HS1.out
      have hjm : ¬ ((j : Int) < (m : Int)):=by omega
      have y0:=HZ.out.x
      obtain ⟨f8,r8⟩:=HZ.out.r
      have z8:=r8.frozen 0
      have q8:=r8.cell (i:=0) (by omega)
      clear HG
      go_wp2_with fail
      refine bodyPost_ret (v:=Value.tuple #[.agg #[.slice (some ⟨b1,0,none⟩) n c1],.int .i64 0,.int .i64 m]) (by rw [results,Tryz.results118]; simp [go_sem,World.cell?_setCell_same _ _ _ q8]) rfl ⟨.inr ⟨b1,c1,vs1,by rw [HV.out,HG2.out,HL.out],?_⟩,?_⟩
      · rw [HV.out,HG2.out]; exact (HT.out.setBox ⟨_,r8⟩ 0 _).base' (by omega)
      · exact (HZ.out.below).setCell (by show _ ≤ _ + 1; omega) _
end
section
open Go.RowKit Go.ChangeShapes Go.WideShapes
theorem isNoOp_any (o : LOp) (w : World) (hs : OpSz o) : Calls Tryz.prog 151 #[.agg o.val] w fun e w'=>e = .returned (.bool (!opOk o)) ∧ Below w.heap.size w w':=by
  have HOK:=fun w=>implOpOk o w hs
  simp only [LOp.val] at HOK ⊢
  go_enter Tryz.func151,Tryz.ntmps151
  go_wp2_with fail
  refine (HOK _).mono ?_
  rintro e w1 ⟨rfl,hb1⟩
  go_wp2_with fail
  go_ret
  exact ⟨rfl,((Below.refl _ _).alloc (Nat.le_refl _) _).trans (hb1.mono (by simp))⟩
set_option maxHeartbeats 1000000 in
theorem indexBad (a : Option Addr) (n c : Nat) (ops : List LOp) (L U : Nat) (w : World) (hU : U ≤ w.heap.size) (H : OpsAt w L U a n ops) :
    Calls Tryz.prog 197 #[.slice a n c,.func (.func 151) #[] #[]] w fun e w'=>(∃ r : Int,e = .returned (.int .i64 r) ∧ decide (0 ≤ r) = !ops.all opOk) ∧ Below w.heap.size w w':=by
  have hbd:=H.bd
  have hlen : Hid (n = ops.length):=H.len
  unfold maxLen at hbd
  go_enter Tryz.func197,Tryz.ntmps197
  go_wp2_with fail
  go_loopg [8] n (fun g k wr=>∃ j : Nat,j ≤ n ∧ Hid (g = n - j) ∧ k = .int .i64 j ∧ Hid (ops.all opOk = (ops.drop j).all opOk) ∧ Below w.heap.size w wr)
  case atStart=>exact ⟨0,Nat.zero_le _,rfl,rfl,by show _ = _; simp,Below.refl _ _⟩
  case round =>
    obtain ⟨j,hj,hk,rfl,hq,hb⟩:=hrel
    by_cases hlt : j < n
    · obtain ⟨b,off,ha,hL,hbU,hc⟩:=H.at_ (by omega)
      subst ha
      obtain ⟨x,he,hsz,hat⟩:=hc j hlt
      obtain ⟨d0,d1,d2,d3,d4,d5,d6⟩:=hat.of_block (hb.block b (by omega))
      have hlt' : (j : Int) < (n : Int):=by omega
      have HQ : Hid (ops.all opOk = (opOk x && (ops.drop (j + 1)).all opOk)):=by show _ = _; rw [hq.out,drop_cons he,List.all_cons]
      have HOK:=fun w=>isNoOp_any x w hsz
      simp only [LOp.val] at HOK
      clear he hc hq hat H
      go_wp2_with fail
      refine (HOK _).mono ?_
      rintro e w1 ⟨rfl,hb1⟩
      have hbb : Below w.heap.size w w1:=hb.trans (hb1.mono hb.size)
      rcases hx : opOk x with _ | _
      · have HY : Hid (ops.all opOk = false):=by show _ = _; rw [HQ.out,hx]; rfl
        clear HOK HQ
        go_wp2_with fail
        go_ret
        exact ⟨⟨_,rfl,by rw [HY.out]; simp⟩,hbb⟩
      · have HY : Hid (ops.all opOk = (ops.drop (j + 1)).all opOk):=by show _ = _; rw [HQ.out,hx]; rfl
        clear HOK HQ
        go_wp2_with fail
        go_roundg (n - (j + 1))
        case measure=>have:=hk.out; omega
        case rel=>exact ⟨j + 1,by omega,rfl,by go_num,HY.out,hbb⟩
    · have HN : Hid (ops.all opOk = true):=by
        show _ = _
        rw [hq.out,List.drop_of_length_le (by have:=hlen.out; omega)]; rfl
      go_wp2_with fail
      go_ret
      exact ⟨⟨-1,rfl,by rw [HN.out]; rfl⟩,hb⟩
theorem containsBad (a : Option Addr) (n c : Nat) (ops : List LOp) (L U : Nat) (w : World) (hU : U ≤ w.heap.size) (H : OpsAt w L U a n ops) :
    Calls Tryz.prog 150 #[.slice a n c,.func (.func 151) #[] #[]] w fun e w'=>e = .returned (.bool (!ops.all opOk)) ∧ Below w.heap.size w w':=by
  go_enter Tryz.func150,Tryz.ntmps150
  go_wp2_with fail
  refine (indexBad _ _ _ ops L U _ hU H).mono ?_
  rintro e w1 ⟨⟨r,rfl,hr⟩,hb1⟩
  have HR:=hidMk hr
  clear hr
  go_wp2_with fail
  go_ret
  exact ⟨ret_bool HR.out,hb1⟩
set_option maxHeartbeats 1000000 in
theorem implShelfOk (a : Option Addr) (n c : Nat) (xs : List (List LOp)) (L U : Nat) (w : World) (hU : U ≤ w.heap.size) (H : RowsAt 1 OpsE w L U a n xs) :
    Calls Tryz.prog 87 #[.slice a n c] w fun e w'=>e = .returned (.bool (shelfB xs)) ∧ Below w.heap.size w w':=by
  have hbd:=H.bd
  have hlen : Hid (n = xs.length):=H.len
  unfold maxLen at hbd
  by_cases h4 : 4 < n
  · have h4' : (4 : Int) < (n : Int):=by omega
    go_enter Tryz.func87,Tryz.ntmps87
    go_wp2_with fail
    go_ret
    exact ⟨ret_bool (by have:=hlen.out; simp [shelfB]; omega),Below.refl _ _⟩
  have h4' : ¬ (4 : Int) < (n : Int):=by omega
  go_enter Tryz.func87,Tryz.ntmps87
  go_wp2_with fail
  go_loopg [10] n (fun g k wr=>∃ j : Nat,j ≤ n ∧ Hid (g = n - j) ∧ k = .int .i64 j ∧ Hid (shelfB xs = (xs.drop j).all (fun l=>decide (l.length ≤ 120) && l.all opOk)) ∧ Below w.heap.size w wr)
  case atStart=>exact ⟨0,Nat.zero_le _,rfl,rfl,by show _ = _; have:=hlen.out; unfold shelfB; rw [decide_eq_true (by omega)]; simp,Below.refl _ _⟩
  case round =>
    obtain ⟨j,hj,hk,rfl,hq,hb⟩:=hrel
    by_cases hlt : j < n
    · obtain ⟨b,off,ha,hL,hbU,hc⟩:=H.at_ (by omega)
      subst ha
      obtain ⟨x,vs,he,hc,hE⟩:=hc j hlt
      obtain ⟨oa,on,oc,rfl,hO⟩:=hE
      have c0:=hc 0 _ rfl
      simp only [Nat.add_zero,Nat.mul_one] at c0
      rw [← hb.cell (by simp; omega)] at c0
      have hlt' : (j : Int) < (n : Int):=by omega
      have HQ : Hid (shelfB xs = ((decide (on ≤ 120) && x.all opOk) && (xs.drop (j + 1)).all (fun l=>decide (l.length ≤ 120) && l.all opOk))):=by show _ = _; rw [hq.out,drop_cons he,List.all_cons,hO.len]
      have HO:=hidMk (hO.below hb hU)
      have hon:=hO.bd
      unfold maxLen at hon
      clear he hc hq hO
      by_cases h120 : 120 < on
      · have h120' : (120 : Int) < (on : Int):=by omega
        have HY : Hid (shelfB xs = false):=by show _ = _; rw [HQ.out,decide_eq_false (by omega)]; simp
        clear HQ
        go_wp2_with fail
        go_ret
        exact ⟨ret_bool HY.out.symm,hb⟩
      · have h120' : ¬ (120 : Int) < (on : Int):=by omega
        have HQ2 : Hid (shelfB xs = (x.all opOk && (xs.drop (j + 1)).all (fun l=>decide (l.length ≤ 120) && l.all opOk))):=by show _ = _; rw [HQ.out,decide_eq_true (by omega)]; simp
        clear HQ
        go_wp2_with fail
        refine (containsBad _ _ _ x L U _ (by have:=hb.size; omega) HO.out).mono ?_
        rintro e w1 ⟨rfl,hb1⟩
        have hbb : Below w.heap.size w w1:=hb.trans (hb1.mono hb.size)
        rcases hx : x.all opOk with _ | _
        · have HY : Hid (shelfB xs = false):=by show _ = _; rw [HQ2.out,hx]; rfl
          clear HQ2
          go_wp2_with fail
          go_ret
          exact ⟨ret_bool HY.out.symm,hbb⟩
        · have HY : Hid (shelfB xs = (xs.drop (j + 1)).all (fun l=>decide (l.length ≤ 120) && l.all opOk)):=by show _ = _; rw [HQ2.out,hx]; rfl
          clear HQ2
          go_wp2_with fail
          go_roundg (n - (j + 1))
          case measure=>have:=hk.out; omega
          case rel=>exact ⟨j + 1,by omega,rfl,by go_num,HY.out,hbb⟩
    · have HN : Hid (shelfB xs = true):=by
        show _ = _
        rw [hq.out,List.drop_of_length_le (by have:=hlen.out; omega)]; rfl
      go_wp2_with fail
      go_ret
      exact ⟨ret_bool HN.out.symm,hb⟩
set_option maxHeartbeats 2000000 in
theorem implSentOk (q s : Int) (a : Option Addr) (n c : Nat) (b : Bool) (a1 : Option Addr) (n1 c1 : Nat) (a2 : Option Addr) (n2 c2 : Nat) (a3 : Option Addr) (n3 c3 : Nat) (w : World) (hn1 : n1 ≤ 9223372036854775807) :
    Calls Tryz.prog 86 #[.agg #[.int .i64 q,.int .i64 s,.slice a n c,.bool b,.slice a1 n1 c1,.slice a2 n2 c2,.slice a3 n3 c3]] w fun e w'=>e = .returned (.bool (sentB s b n1)) ∧ Below w.heap.size w w':=by
  have hA : ∀ o,Below w.heap.size w (w.alloc o):=fun o=>(Below.refl _ _).alloc (Nat.le_refl _) _
  rcases b with _ | _
  · by_cases h0 : 0 < n1
    · have h0' : (0 : Int) < (n1 : Int):=by omega
      have hV : Hid (sentB s false n1 = false):=by show _ = _; simp [sentB,h0]
      go_enter Tryz.func86,Tryz.ntmps86
      go_wp2_with fail
      go_ret
      exact ⟨ret_bool hV.out.symm,hA _⟩
    · have h0' : ¬ (0 : Int) < (n1 : Int):=by omega
      have hV : Hid (sentB s false n1 = ((decide (1 ≤ s) && decide (s ≤ 1000)) || (s == 0))):=by show _ = _; simp [sentB,h0]
      go_enter Tryz.func86,Tryz.ntmps86
      go_wp2_with fail
      refine (isLogNumber_any s _).mono ?_
      rintro e w1 ⟨rfl,rfl⟩
      rcases hx : (decide (1 ≤ s) && decide (s ≤ 1000)) with _ | _
      · have HX:=hidMk hx
        clear hx
        by_cases hs0 : s = 0
        · subst hs0
          go_wp2_with fail
          go_ret
          exact ⟨ret_bool (by rw [hV.out]; rfl),hA _⟩
        · have hs1 : (s == 0) = false:=by simpa using hs0
          have HS:=hidMk hs1
          go_wp2_with fail
          go_ret
          exact ⟨ret_bool (by rw [hV.out,HX.out,HS.out]; rfl),hA _⟩
      · have HX:=hidMk hx
        clear hx
        go_wp2_with fail
        go_ret
        exact ⟨ret_bool (by rw [hV.out,HX.out]; simp),hA _⟩
  · by_cases h0 : 0 < n1
    · have h0' : (0 : Int) < (n1 : Int):=by omega
      have hV : Hid (sentB s true n1 = (decide (1 ≤ s) && decide (s ≤ 1000))):=by show _ = _; simp [sentB,h0]
      go_enter Tryz.func86,Tryz.ntmps86
      go_wp2_with fail
      refine (isLogNumber_any s _).mono ?_
      rintro e w1 ⟨rfl,rfl⟩
      rcases hx : (decide (1 ≤ s) && decide (s ≤ 1000)) with _ | _
      · have HX:=hidMk hx
        clear hx
        rcases hs0 : (s == 0) with _ | _
        · go_wp2_with fail
          go_ret
          exact ⟨ret_bool (by rw [hV.out,HX.out]),hA _⟩
        · go_wp2_with fail
          go_ret
          exact ⟨ret_bool (by rw [hV.out,HX.out]),hA _⟩
      · have HX:=hidMk hx
        clear hx
        go_wp2_with fail
        go_ret
        exact ⟨ret_bool (by rw [hV.out,HX.out]),hA _⟩
    · have h0' : ¬ (0 : Int) < (n1 : Int):=by omega
      have hV : Hid (sentB s true n1 = false):=by show _ = _; simp [sentB,h0]
      go_enter Tryz.func86,Tryz.ntmps86
      go_wp2_with fail
      go_ret
      exact ⟨ret_bool hV.out.symm,hA _⟩
theorem implCanAll (sn : Nat → Addr) (S0 : Nat) (t la : Option Addr) (n c m lc : Nat) (os : List LObj) (ops : List LOp) (L U L2 U2 : Nat) (w : World) (hS0 : S0 ≤ w.heap.size) (HS : Sents w S0 sn) (hS : Sizes os 1048576) (hU : U ≤ w.heap.size) (H : ObjsAt w L U t n os) (hU2 : U2 ≤ w.heap.size) (H2 : OpsAt w L2 U2 la m ops) :
    Calls Tryz.prog 152 #[.agg #[.slice t n c],.slice la m lc] w fun e w'=>e = .returned (.bool ((allR os ops).2.1 == 0)) ∧ Below w.heap.size w w':=by
  have hA : Below w.heap.size w (w.alloc (.cells #[.slice t n c] 26)):=(Below.refl _ _).alloc (Nat.le_refl _) _
  go_enter Tryz.func152,Tryz.ntmps152
  go_wp2_with fail
  refine (implActAll sn S0 _ _ _ _ _ _ os ops L U L2 U2 _ (by have:=hA.size; omega) (HS.below hA hS0) hS (by have:=hA.size; omega) (H.below hA hU) (by have:=hA.size; omega) (H2.below hA hU2)).mono ?_
  rintro e w1 h1
  obtain ⟨ta,tn,tc,rfl,hO,hb1⟩:=h1.objsK
  have hB:=hA.trans (hb1.mono hA.size)
  clear h1 hO hb1
  go_wp2_with fail
  go_ret
  exact ⟨ret_bool rfl,hB.trans ((Below.refl _ _).alloc hB.size _)⟩
set_option maxHeartbeats 2000000 in
theorem implViewOk (sn : Nat → Addr) (S0 : Nat) (q s : Int) (a : Option Addr) (n c : Nat) (b : Bool) (a1 : Option Addr) (n1 c1 : Nat) (a2 : Option Addr) (n2 c2 : Nat) (a3 : Option Addr) (n3 c3 : Nat) (k : LKeep) (L U : Nat) (w : World) (hS0 : S0 ≤ w.heap.size) (HS : Sents w S0 sn) (hS : Sizes k.base 1048576) (hU : U ≤ w.heap.size) (H : KeepAt w L U q s a n b a1 n1 a2 n2 a3 n3 k) :
    Calls Tryz.prog 88 #[.agg #[.int .i64 q,.int .i64 s,.slice a n c,.bool b,.slice a1 n1 c1,.slice a2 n2 c2,.slice a3 n3 c3]] w fun e w'=>e = .returned (.bool (viewB k)) ∧ Below w.heap.size w w':=by
  have HB0:=hidMk (HeldB.new w #[.int .i64 q,.int .i64 s,.slice a n c,.bool b,.slice a1 n1 c1,.slice a2 n2 c2,.slice a3 n3 c3] 69)
  have HH:=hidMk H
  clear H
  go_enter Tryz.func88,Tryz.ntmps88
  go_wp2_with fail
  have hA:=HB0.out.below
  refine (implActAll sn S0 _ _ _ _ _ _ k.base k.sent L U L U _ (by have:=hA.size; omega) (HS.below hA hS0) hS (by have:=hA.size; omega) (HH.out.base.below hA hU) (by have:=hA.size; omega) (HH.out.sent.below hA hU)).mono ?_
  rintro e w1 h1
  obtain ⟨ta,tn,tc,rfl,hO,hb1⟩:=h1.objsK
  have H1:=HB0.out.next hb1
  have HS1:=HS.below H1.below hS0
  have hz1:=hb1.size
  clear h1 HB0 hA
  rcases hc : ((allR k.base k.sent).2.1 == 0) with _ | _
  · have HX : Hid (viewB k = false):=by show _ = _; unfold viewB; rw [hc]; rfl
    generalize (allR k.base k.sent).2.1 = cd at hc
    generalize (allR k.base k.sent).2.2 = cp
    have hB:=H1.below
    clear H1 hb1 hO
    go_wp2_with fail
    go_ret
    exact ⟨ret_bool HX.out.symm,hB.trans ((Below.refl _ _).alloc hB.size _)⟩
  have HX : Hid (viewB k = ((allR (allR k.base k.sent).1 k.list).2.1 == 0)):=by show _ = _; unfold viewB; rw [hc]; rfl
  have HZ:=allR_sizes k.base k.sent
  generalize hmid : (allR k.base k.sent).1 = mid at hO HX HZ
  generalize (allR k.base k.sent).2.1 = cd at hc
  generalize (allR k.base k.sent).2.2 = cp
  clear hmid
  have hA2 : Below w1.heap.size w1 (w1.alloc (.cells #[.slice ta tn tc] 26)):=(Below.refl _ _).alloc (Nat.le_refl _) _
  have H2:=H1.next hA2
  have HS2:=HS1.below hA2 (by have:=H1.below.size; omega)
  have hO2:=hO.below hA2 (Nat.le_refl _)
  have HH2:=hidMk (HH.out.list.below H2.below hU)
  have hB2:=H2.below
  obtain ⟨_,_,_,_,_,f5,_⟩:=H2.box.c7
  clear H1 H2 HS1 hb1 hO HH
  have hz2:=hA2.size
  have hB2s:=hB2.size
  go_wp2_with fail
  refine (implCanAll sn S0 _ _ _ _ _ _ mid k.list _ _ L U _ (by omega) HS2 HZ hz2 hO2 (by omega) HH2.out).mono ?_
  rintro e w3 ⟨rfl,hb3⟩
  go_wp2_with fail
  go_ret
  exact ⟨ret_bool HX.out.symm,hB2.trans (hb3.mono hB2.size)⟩
set_option maxHeartbeats 2000000 in
theorem implKeepOk (sn : Nat → Addr) (S0 : Nat) (q s : Int) (a : Option Addr) (n c : Nat) (b : Bool) (a1 : Option Addr) (n1 c1 : Nat) (a2 : Option Addr) (n2 c2 : Nat) (a3 : Option Addr) (n3 c3 : Nat) (k : LKeep) (L U : Nat) (w : World) (hS0 : S0 ≤ w.heap.size) (HS : Sents w S0 sn) (hS : Sizes k.base 1048576) (hU : U ≤ w.heap.size) (H : KeepAt w L U q s a n b a1 n1 a2 n2 a3 n3 k) :
    Calls Tryz.prog 32 #[.agg #[.int .i64 q,.int .i64 s,.slice a n c,.bool b,.slice a1 n1 c1,.slice a2 n2 c2,.slice a3 n3 c3]] w fun e w'=>e = .returned (.bool (keepOk k)) ∧ Below w.heap.size w w':=by
  have HV : Hid (keepOk k = (clientB q && sentB s b n1 && shelfB k.shelf && viewB k)):=by show _ = _; rw [keepOk_impl,H.q,H.s,H.b,H.sent.len]
  have hn1:=H.sent.bd
  unfold maxLen at hn1
  have HB0:=hidMk (HeldB.new w #[.int .i64 q,.int .i64 s,.slice a n c,.bool b,.slice a1 n1 c1,.slice a2 n2 c2,.slice a3 n3 c3] 69)
  have HH:=hidMk H
  clear H
  go_enter Tryz.func32,Tryz.ntmps32
  go_wp2_with fail
  refine (isClient_any q _).mono ?_
  rintro e w1 ⟨rfl,rfl⟩
  have hB1:=HB0.out.below
  rcases hc : (decide (0 ≤ q) && decide (q < 3)) with _ | _
  · have HX : Hid (keepOk k = false):=by show _ = _; rw [HV.out,clientB,hc]; rfl
    clear hc HV HB0
    go_wp2_with fail
    go_ret
    exact ⟨ret_bool HX.out.symm,hB1⟩
  replace HV : Hid (keepOk k = (sentB s b n1 && shelfB k.shelf && viewB k)):=by show _ = _; rw [HV.out,clientB,hc]; simp
  clear hc
  go_wp2_with fail
  refine (implSentOk q s a n c b a1 n1 c1 a2 n2 c2 a3 n3 c3 _ (by omega)).mono ?_
  rintro e w2 ⟨rfl,hb2⟩
  have H2:=HB0.out.next hb2
  clear HB0 hb2 hB1
  rcases hc : sentB s b n1 with _ | _
  · have HX : Hid (keepOk k = false):=by show _ = _; rw [HV.out,hc]; rfl
    have hB:=H2.below
    clear hc HV H2
    go_wp2_with fail
    go_ret
    exact ⟨ret_bool HX.out.symm,hB⟩
  replace HV : Hid (keepOk k = (shelfB k.shelf && viewB k)):=by show _ = _; rw [HV.out,hc]; simp
  clear hc
  obtain ⟨f0,f1,f2,f3,f4,f5,f6⟩:=H2.box.c7
  go_wp2_with fail
  refine (implShelfOk _ _ _ k.shelf L U _ (by have:=H2.below.size; omega) (HH.out.shelf.below eltOps H2.below hU)).mono ?_
  rintro e w3 ⟨rfl,hb3⟩
  have H3:=H2.next hb3
  clear H2 hb3 f0 f1 f2 f3 f4 f5 f6
  rcases hc : shelfB k.shelf with _ | _
  · have HX : Hid (keepOk k = false):=by show _ = _; rw [HV.out,hc]; rfl
    have hB:=H3.below
    clear hc HV H3
    go_wp2_with fail
    go_ret
    exact ⟨ret_bool HX.out.symm,hB⟩
  replace HV : Hid (keepOk k = viewB k):=by show _ = _; rw [HV.out,hc]; simp
  clear hc
  obtain ⟨f0,f1,f2,f3,f4,f5,f6⟩:=H3.box.c7
  have hB:=H3.below
  go_wp2_with fail
  refine (implViewOk sn S0 q s a n c b a1 n1 c1 a2 n2 c2 a3 n3 c3 k L U _ (by have:=hB.size; omega) (HS.below hB hS0) hS (by have:=hB.size; omega) (HH.out.below hB hU)).mono ?_
  rintro e w4 ⟨rfl,hb4⟩
  clear f0 f1 f2 f3 f4 f5 f6 H3
  go_wp2_with fail
  go_ret
  exact ⟨ret_bool HV.out.symm,hB.trans (hb4.mono hB.size)⟩
end
end Go.Proofs.YtloopeipheklpaaGreatDoor
