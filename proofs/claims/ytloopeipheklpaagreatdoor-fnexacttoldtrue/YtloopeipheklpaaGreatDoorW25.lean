/- Lemmas that the proofs of this seat share: WokI, AllB. -/
import Derived.Test.YtloopeipheklpaaGreatDoorW01
import Derived.Test.YtloopeipheklpaaGreatDoorW24
import Derived.Test.YtloopeipheklpaaGreatDoorW22
import Derived.Deep.RegionWith
import Derived.RowKitTokens
namespace Go.Proofs.YtloopeipheklpaaGreatDoor
section
open Go.RowKit Go.ChangeShapes Go.WideShapes
set_option maxHeartbeats 1000000 in
theorem verdictWord_any (c : Int) (w : World) : Calls Tryz.prog 170 #[.int .i64 c] w fun e w'=>∃ s : ByteArray,e = .returned (.string s) ∧ (!s.toList.isEmpty) = codeB c ∧ Below w.heap.size w w':=by
  by_cases h0 : c = 0
  · subst h0
    go_enter Tryz.func170,Tryz.ntmps170
    go_wp2
    go_ret
    exact ⟨_,rfl,by kernel_rfl,Below.refl _ _⟩
  by_cases h1 : c = 1
  · subst h1
    go_enter Tryz.func170,Tryz.ntmps170
    go_wp2
    go_ret
    exact ⟨_,rfl,by kernel_rfl,Below.refl _ _⟩
  by_cases h2 : c = 2
  · subst h2
    go_enter Tryz.func170,Tryz.ntmps170
    go_wp2
    go_ret
    exact ⟨_,rfl,by kernel_rfl,Below.refl _ _⟩
  · have e0 : (c == 0) = false:=by simpa using h0
    have e1 : (c == 1) = false:=by simpa using h1
    have e2 : (c == 2) = false:=by simpa using h2
    have hc : codeB c = false:=by unfold codeB; simp; omega
    have HC:=hidMk hc
    clear hc
    go_enter Tryz.func170,Tryz.ntmps170
    go_wp2
    go_ret
    exact ⟨_,rfl,by rw [HC.out]; kernel_rfl,Below.refl _ _⟩
set_option maxHeartbeats 1000000 in
theorem implToldOk (x : LTold) (w : World) : Calls Tryz.prog 107 #[.agg #[.int .i64 x.who,.int .i64 x.seq,.int .i64 x.code]] w fun e w'=>e = .returned (.bool (toldB x)) ∧ Below w.heap.size w w':=by
  have hA : Below w.heap.size w (w.alloc (.cells #[.int .i64 x.who,.int .i64 x.seq,.int .i64 x.code] 118)):=(Below.refl _ _).alloc (Nat.le_refl _) _
  go_enter Tryz.func107,Tryz.ntmps107
  go_wp2_with fail
  refine (isClient_any x.who _).mono ?_
  rintro e w1 ⟨rfl,rfl⟩
  rcases hc : (decide (0 ≤ x.who) && decide (x.who < 3)) with _ | _
  · have HX : Hid (toldB x = false):=by show _ = _; unfold toldB clientB; rw [hc]; rfl
    clear hc
    go_wp2_with fail
    go_ret
    exact ⟨ret_bool HX.out.symm,hA⟩
  have HC1:=hidMk hc
  clear hc
  go_wp2_with fail
  refine (isLogNumber_any x.seq _).mono ?_
  rintro e w1 ⟨rfl,rfl⟩
  rcases hc : (decide (1 ≤ x.seq) && decide (x.seq ≤ 1000)) with _ | _
  · have HX : Hid (toldB x = false):=by show _ = _; unfold toldB; rw [hc]; simp
    clear hc
    go_wp2_with fail
    go_ret
    exact ⟨ret_bool HX.out.symm,hA⟩
  have HX : Hid (toldB x = codeB x.code):=by show _ = _; unfold toldB clientB; rw [hc,HC1.out]; simp
  clear hc
  go_wp2_with fail
  refine (verdictWord_any x.code _).mono ?_
  rintro e w2 ⟨s,rfl,hs,hb2⟩
  have HSs:=hidMk hs
  have hB:=hA.trans (hb2.mono hA.size)
  clear hs
  go_wp2_with fail
  go_ret
  exact ⟨ret_bool (by rw [HX.out]; exact HSs.out),hB⟩
theorem implMsgOkE (q s : Int) (ba : Option Addr) (bn bc : Nat) (oa : Option Addr) (on oc : Nat) (ta : Option Addr) (tn tc : Nat) (x : LMsg) (L U : Nat) (w : World) (hU : U ≤ w.heap.size) (hcp : on ≤ oc ∧ oc ≤ maxLen) (H : MsgAt w L U q s ba bn oa on ta tn x.log x.tree) :
    Calls Tryz.prog 104 #[.agg #[.int .i64 x.kind,.int .i64 x.who,.int .i64 x.seq,.int .i64 q,.int .i64 s,.slice ba bn bc,.slice oa on oc,.int .i64 x.code,.slice ta tn tc]] w fun e w'=>e = .returned (.bool (msgOkM x)) ∧ Below w.heap.size w w' :=
  implMsgOk _ _ _ _ _ _ _ _ _ _ _ _ _ _ _ x.log x.tree L U w hU hcp.1 hcp.2 H
set_option maxHeartbeats 2000000 in
theorem closMsg (x : LMsg) (vs : List Value) (L U p : Nat) (w : World) (hU : U ≤ w.heap.size) (hp : p < w.heap.size) (hf : w.cell? ⟨p,0,none⟩ = some (.func (.func 104) #[] #[])) (hE : MsgE w L U vs x) :
    Calls Tryz.prog 161 #[.agg vs.toArray,.pointer (some ⟨p,0,none⟩)] w fun e w'=>e = .returned (.bool (!msgOkM x)) ∧ Below w.heap.size w w':=by
  obtain ⟨q,s,ba,bn,bc,oa,on,oc,ta,tn,tc,rfl,hcp,hK⟩:=hE
  have hA : ∀ o,Below w.heap.size w (w.alloc o):=fun o=>(Below.refl _ _).alloc (Nat.le_refl _) _
  have HK:=hidMk (hK.below (hA (.cells #[.int .i64 x.kind,.int .i64 x.who,.int .i64 x.seq,.int .i64 q,.int .i64 s,.slice ba bn bc,.slice oa on oc,.int .i64 x.code,.slice ta tn tc] 156)) hU)
  clear hK
  show Calls Tryz.prog 161 #[.agg #[.int .i64 x.kind,.int .i64 x.who,.int .i64 x.seq,.int .i64 q,.int .i64 s,.slice ba bn bc,.slice oa on oc,.int .i64 x.code,.slice ta tn tc],.pointer (some ⟨p,0,none⟩)] w _
  go_enter Tryz.func161,Tryz.ntmps161
  go_wp2_with fail
  refine (implMsgOkE _ _ _ _ _ _ _ _ _ _ _ x L U _ (by simp; omega) hcp HK.out).mono ?_
  rintro e w1 ⟨rfl,hb1⟩
  go_wp2_with fail
  go_ret
  exact ⟨rfl,(hA _).trans (hb1.mono (by simp))⟩
set_option maxHeartbeats 2000000 in
theorem indexNoMsg (a : Option Addr) (n c p : Nat) (xs : List LMsg) (L U : Nat) (w : World) (hU : U ≤ w.heap.size) (hp : p < w.heap.size) (hf : w.cell? ⟨p,0,none⟩ = some (.func (.func 104) #[] #[])) (H : RowsAt 9 MsgE w L U a n xs) :
    Calls Tryz.prog 201 #[.slice a n c,.func (.func 161) #[] #[.pointer (some ⟨p,0,none⟩)]] w fun e w'=>(∃ r : Int,e = .returned (.int .i64 r) ∧ decide (0 ≤ r) = !xs.all msgOkM) ∧ Below w.heap.size w w':=by
  have hbd:=H.bd
  have hlen : Hid (n = xs.length):=H.len
  unfold maxLen at hbd
  go_enter Tryz.func201,Tryz.ntmps201
  go_wp2_with fail
  go_loopg [8] n (fun g k wr=>∃ j : Nat,j ≤ n ∧ Hid (g = n - j) ∧ k = .int .i64 j ∧ Hid (xs.all msgOkM = (xs.drop j).all msgOkM) ∧ Below w.heap.size w wr)
  case atStart=>exact ⟨0,Nat.zero_le _,rfl,rfl,by show _ = _; simp,Below.refl _ _⟩
  case round =>
    obtain ⟨j,hj,hk,rfl,hq,hb⟩:=hrel
    by_cases hlt : j < n
    · obtain ⟨b,off,ha,hL,hbU,hc⟩:=H.at_ (by omega)
      subst ha
      obtain ⟨x,vs,he,hc,hE⟩:=hc j hlt
      have hs1:=hb.size
      have HCL:=closMsg x vs L U p wr (by omega) (by omega) ((hb.cell (p:=⟨p,0,none⟩) hp).trans hf) (eltMsg.below hE hb hU)
      obtain ⟨q,s,ba,bn,bc,oa,on,oc,ta,tn,tc,rfl,hcp,hK⟩:=hE
      have c0:=hc 0 _ rfl
      have c1:=hc 1 _ rfl
      have c2:=hc 2 _ rfl
      have c3:=hc 3 _ rfl
      have c4:=hc 4 _ rfl
      have c5:=hc 5 _ rfl
      have c6:=hc 6 _ rfl
      have c7:=hc 7 _ rfl
      have c8:=hc 8 _ rfl
      simp only [Nat.add_zero] at c0
      rw [← hb.cell (by simp; omega)] at c0 c1 c2 c3 c4 c5 c6 c7 c8
      have HCL:=hidMk HCL
      have hlt' : (j : Int) < (n : Int):=by omega
      have HQ : Hid (xs.all msgOkM = (msgOkM x && (xs.drop (j + 1)).all msgOkM)):=by show _ = _; rw [hq.out,drop_cons he,List.all_cons]
      clear he hc hq H
      go_wp2_with fail
      refine (HCL.out).mono ?_
      rintro e w1 ⟨rfl,hb1⟩
      have hbb : Below w.heap.size w w1:=hb.trans (hb1.mono hb.size)
      clear HCL
      rcases hx : msgOkM x with _ | _
      · have HY : Hid (xs.all msgOkM = false):=by show _ = _; rw [HQ.out,hx]; rfl
        clear HQ
        go_wp2_with fail
        go_ret
        exact ⟨⟨_,rfl,by rw [HY.out]; simp⟩,hbb⟩
      · have HY : Hid (xs.all msgOkM = (xs.drop (j + 1)).all msgOkM):=by show _ = _; rw [HQ.out,hx]; rfl
        clear HQ
        go_wp2_with fail
        go_roundg (n - (j + 1))
        case measure=>have:=hk.out; omega
        case rel=>exact ⟨j + 1,by omega,rfl,by go_num,HY.out,hbb⟩
    · have HN : Hid (xs.all msgOkM = true):=by
        show _ = _
        rw [hq.out,List.drop_of_length_le (by have:=hlen.out; omega)]; rfl
      go_wp2_with fail
      go_ret
      exact ⟨⟨-1,rfl,by rw [HN.out]; rfl⟩,hb⟩
theorem containsNoMsg (a : Option Addr) (n c p : Nat) (xs : List LMsg) (L U : Nat) (w : World) (hU : U ≤ w.heap.size) (hp : p < w.heap.size) (hf : w.cell? ⟨p,0,none⟩ = some (.func (.func 104) #[] #[])) (H : RowsAt 9 MsgE w L U a n xs) :
    Calls Tryz.prog 160 #[.slice a n c,.func (.func 161) #[] #[.pointer (some ⟨p,0,none⟩)]] w fun e w'=>e = .returned (.bool (!xs.all msgOkM)) ∧ Below w.heap.size w w':=by
  go_enter Tryz.func160,Tryz.ntmps160
  go_wp2_with fail
  refine (indexNoMsg _ _ _ p xs L U _ hU hp hf H).mono ?_
  rintro e w1 ⟨⟨r,rfl,hr⟩,hb1⟩
  have HR:=hidMk hr
  clear hr
  go_wp2_with fail
  go_ret
  exact ⟨ret_bool HR.out,hb1⟩
set_option maxHeartbeats 1000000 in
theorem allOkMsg (a : Option Addr) (n c : Nat) (most : Nat) (xs : List LMsg) (L U : Nat) (w : World) (hU : U ≤ w.heap.size) (H : RowsAt 9 MsgE w L U a n xs) :
    Calls Tryz.prog 103 #[.slice a n c,.int .i64 (most : Int),.func (.func 104) #[] #[]] w fun e w'=>e = .returned (.bool (decide (xs.length ≤ most) && xs.all msgOkM)) ∧ Below w.heap.size w w':=by
  have hA : ∀ o,Below w.heap.size w (w.alloc o):=fun o=>(Below.refl _ _).alloc (Nat.le_refl _) _
  have hlen:=hidMk H.len
  have hbd:=H.bd
  unfold maxLen at hbd
  by_cases hm : n ≤ most
  · have hm' : (n : Int) ≤ (most : Int):=by omega
    have HV : Hid ((decide (xs.length ≤ most) && xs.all msgOkM) = xs.all msgOkM):=by show _ = _; rw [← hlen.out,decide_eq_true hm]; rfl
    have HH:=hidMk H
    clear H
    go_enter Tryz.func103,Tryz.ntmps103
    go_wp2_with fail
    refine (containsNoMsg _ _ _ w.heap.size xs L U _ (by simp; omega) (by simp) (by simp [go_sem]) (HH.out.below eltMsg (hA _) hU)).mono ?_
    rintro e w1 ⟨rfl,hb1⟩
    have hB:=(hA _).trans (hb1.mono (by simp))
    clear hb1
    rcases hx : xs.all msgOkM with _ | _
    · have HX:=hidMk hx
      clear hx
      go_wp2_with fail
      go_ret
      exact ⟨ret_bool (by rw [HV.out,HX.out]),hB⟩
    · have HX:=hidMk hx
      clear hx
      go_wp2_with fail
      go_ret
      exact ⟨ret_bool (by rw [HV.out,HX.out]),hB⟩
  · have hm' : ¬ (n : Int) ≤ (most : Int):=by omega
    have HV : Hid ((decide (xs.length ≤ most) && xs.all msgOkM) = false):=by show _ = _; rw [← hlen.out,decide_eq_false hm]; rfl
    clear H
    go_enter Tryz.func103,Tryz.ntmps103
    go_wp2_with fail
    go_ret
    exact ⟨ret_bool HV.out.symm,hA _⟩
set_option maxHeartbeats 2000000 in
theorem closLog (x : LLog) (vs : List Value) (L U p : Nat) (w : World) (hU : U ≤ w.heap.size) (hp : p < w.heap.size) (hf : w.cell? ⟨p,0,none⟩ = some (.func (.func 50) #[] #[])) (hE : LogE w L U vs x) :
    Calls Tryz.prog 167 #[.agg vs.toArray,.pointer (some ⟨p,0,none⟩)] w fun e w'=>e = .returned (.bool (!logOk x)) ∧ Below w.heap.size w w':=by
  obtain ⟨q,s,ea1,en1,ec1,ea2,en2,ec2,rfl,hcp,hK⟩:=hE
  have hA : ∀ o,Below w.heap.size w (w.alloc o):=fun o=>(Below.refl _ _).alloc (Nat.le_refl _) _
  have HK:=hidMk (hK.below (hA (.cells #[.int .i64 q,.int .i64 s,.slice ea1 en1 ec1,.slice ea2 en2 ec2] 85)) hU)
  clear hK
  show Calls Tryz.prog 167 #[.agg #[.int .i64 q,.int .i64 s,.slice ea1 en1 ec1,.slice ea2 en2 ec2],.pointer (some ⟨p,0,none⟩)] w _
  go_enter Tryz.func167,Tryz.ntmps167
  go_wp2_with fail
  refine (implLogOk _ _ _ _ _ _ _ _ x L U _ (by simp; omega) hcp.1 hcp.2 HK.out).mono ?_
  rintro e w1 ⟨rfl,hb1⟩
  go_wp2_with fail
  go_ret
  exact ⟨rfl,(hA _).trans (hb1.mono (by simp))⟩
set_option maxHeartbeats 2000000 in
theorem indexNoLog (a : Option Addr) (n c p : Nat) (xs : List LLog) (L U : Nat) (w : World) (hU : U ≤ w.heap.size) (hp : p < w.heap.size) (hf : w.cell? ⟨p,0,none⟩ = some (.func (.func 50) #[] #[])) (H : RowsAt 4 LogE w L U a n xs) :
    Calls Tryz.prog 205 #[.slice a n c,.func (.func 167) #[] #[.pointer (some ⟨p,0,none⟩)]] w fun e w'=>(∃ r : Int,e = .returned (.int .i64 r) ∧ decide (0 ≤ r) = !xs.all logOk) ∧ Below w.heap.size w w':=by
  have hbd:=H.bd
  have hlen : Hid (n = xs.length):=H.len
  unfold maxLen at hbd
  go_enter Tryz.func205,Tryz.ntmps205
  go_wp2_with fail
  go_loopg [8] n (fun g k wr=>∃ j : Nat,j ≤ n ∧ Hid (g = n - j) ∧ k = .int .i64 j ∧ Hid (xs.all logOk = (xs.drop j).all logOk) ∧ Below w.heap.size w wr)
  case atStart=>exact ⟨0,Nat.zero_le _,rfl,rfl,by show _ = _; simp,Below.refl _ _⟩
  case round =>
    obtain ⟨j,hj,hk,rfl,hq,hb⟩:=hrel
    by_cases hlt : j < n
    · obtain ⟨b,off,ha,hL,hbU,hc⟩:=H.at_ (by omega)
      subst ha
      obtain ⟨x,vs,he,hc,hE⟩:=hc j hlt
      have hs1:=hb.size
      have HCL:=closLog x vs L U p wr (by omega) (by omega) ((hb.cell (p:=⟨p,0,none⟩) hp).trans hf) (eltLog.below hE hb hU)
      obtain ⟨q,s,ea1,en1,ec1,ea2,en2,ec2,rfl,hcp,hK⟩:=hE
      have c0:=hc 0 _ rfl
      have c1:=hc 1 _ rfl
      have c2:=hc 2 _ rfl
      have c3:=hc 3 _ rfl
      simp only [Nat.add_zero] at c0
      rw [← hb.cell (by simp; omega)] at c0 c1 c2 c3
      have HCL:=hidMk HCL
      have hlt' : (j : Int) < (n : Int):=by omega
      have HQ : Hid (xs.all logOk = (logOk x && (xs.drop (j + 1)).all logOk)):=by show _ = _; rw [hq.out,drop_cons he,List.all_cons]
      clear he hc hq H
      go_wp2_with fail
      refine (HCL.out).mono ?_
      rintro e w1 ⟨rfl,hb1⟩
      have hbb : Below w.heap.size w w1:=hb.trans (hb1.mono hb.size)
      clear HCL
      rcases hx : logOk x with _ | _
      · have HY : Hid (xs.all logOk = false):=by show _ = _; rw [HQ.out,hx]; rfl
        clear HQ
        go_wp2_with fail
        go_ret
        exact ⟨⟨_,rfl,by rw [HY.out]; simp⟩,hbb⟩
      · have HY : Hid (xs.all logOk = (xs.drop (j + 1)).all logOk):=by show _ = _; rw [HQ.out,hx]; rfl
        clear HQ
        go_wp2_with fail
        go_roundg (n - (j + 1))
        case measure=>have:=hk.out; omega
        case rel=>exact ⟨j + 1,by omega,rfl,by go_num,HY.out,hbb⟩
    · have HN : Hid (xs.all logOk = true):=by
        show _ = _
        rw [hq.out,List.drop_of_length_le (by have:=hlen.out; omega)]; rfl
      go_wp2_with fail
      go_ret
      exact ⟨⟨-1,rfl,by rw [HN.out]; rfl⟩,hb⟩
theorem containsNoLog (a : Option Addr) (n c p : Nat) (xs : List LLog) (L U : Nat) (w : World) (hU : U ≤ w.heap.size) (hp : p < w.heap.size) (hf : w.cell? ⟨p,0,none⟩ = some (.func (.func 50) #[] #[])) (H : RowsAt 4 LogE w L U a n xs) :
    Calls Tryz.prog 166 #[.slice a n c,.func (.func 167) #[] #[.pointer (some ⟨p,0,none⟩)]] w fun e w'=>e = .returned (.bool (!xs.all logOk)) ∧ Below w.heap.size w w':=by
  go_enter Tryz.func166,Tryz.ntmps166
  go_wp2_with fail
  refine (indexNoLog _ _ _ p xs L U _ hU hp hf H).mono ?_
  rintro e w1 ⟨⟨r,rfl,hr⟩,hb1⟩
  have HR:=hidMk hr
  clear hr
  go_wp2_with fail
  go_ret
  exact ⟨ret_bool HR.out,hb1⟩
set_option maxHeartbeats 1000000 in
theorem allOkLog (a : Option Addr) (n c : Nat) (most : Nat) (xs : List LLog) (L U : Nat) (w : World) (hU : U ≤ w.heap.size) (H : RowsAt 4 LogE w L U a n xs) :
    Calls Tryz.prog 105 #[.slice a n c,.int .i64 (most : Int),.func (.func 50) #[] #[]] w fun e w'=>e = .returned (.bool (decide (xs.length ≤ most) && xs.all logOk)) ∧ Below w.heap.size w w':=by
  have hA : ∀ o,Below w.heap.size w (w.alloc o):=fun o=>(Below.refl _ _).alloc (Nat.le_refl _) _
  have hlen:=hidMk H.len
  have hbd:=H.bd
  unfold maxLen at hbd
  by_cases hm : n ≤ most
  · have hm' : (n : Int) ≤ (most : Int):=by omega
    have HV : Hid ((decide (xs.length ≤ most) && xs.all logOk) = xs.all logOk):=by show _ = _; rw [← hlen.out,decide_eq_true hm]; rfl
    have HH:=hidMk H
    clear H
    go_enter Tryz.func105,Tryz.ntmps105
    go_wp2_with fail
    refine (containsNoLog _ _ _ w.heap.size xs L U _ (by simp; omega) (by simp) (by simp [go_sem]) (HH.out.below eltLog (hA _) hU)).mono ?_
    rintro e w1 ⟨rfl,hb1⟩
    have hB:=(hA _).trans (hb1.mono (by simp))
    clear hb1
    rcases hx : xs.all logOk with _ | _
    · have HX:=hidMk hx
      clear hx
      go_wp2_with fail
      go_ret
      exact ⟨ret_bool (by rw [HV.out,HX.out]),hB⟩
    · have HX:=hidMk hx
      clear hx
      go_wp2_with fail
      go_ret
      exact ⟨ret_bool (by rw [HV.out,HX.out]),hB⟩
  · have hm' : ¬ (n : Int) ≤ (most : Int):=by omega
    have HV : Hid ((decide (xs.length ≤ most) && xs.all logOk) = false):=by show _ = _; rw [← hlen.out,decide_eq_false hm]; rfl
    clear H
    go_enter Tryz.func105,Tryz.ntmps105
    go_wp2_with fail
    go_ret
    exact ⟨ret_bool HV.out.symm,hA _⟩
set_option maxHeartbeats 2000000 in
theorem closTold (x : LTold) (vs : List Value) (L U p : Nat) (w : World) (_hU : U ≤ w.heap.size) (hp : p < w.heap.size) (hf : w.cell? ⟨p,0,none⟩ = some (.func (.func 107) #[] #[])) (hE : ToldE w L U vs x) :
    Calls Tryz.prog 169 #[.agg vs.toArray,.pointer (some ⟨p,0,none⟩)] w fun e w'=>e = .returned (.bool (!toldB x)) ∧ Below w.heap.size w w':=by
  obtain rfl : vs = _:=hE
  have hA : ∀ o,Below w.heap.size w (w.alloc o):=fun o=>(Below.refl _ _).alloc (Nat.le_refl _) _
  show Calls Tryz.prog 169 #[.agg #[.int .i64 x.who,.int .i64 x.seq,.int .i64 x.code],.pointer (some ⟨p,0,none⟩)] w _
  go_enter Tryz.func169,Tryz.ntmps169
  go_wp2_with fail
  refine (implToldOk x _).mono ?_
  rintro e w1 ⟨rfl,hb1⟩
  go_wp2_with fail
  go_ret
  exact ⟨rfl,(hA _).trans (hb1.mono (by simp))⟩
set_option maxHeartbeats 2000000 in
theorem indexNoTold (a : Option Addr) (n c p : Nat) (xs : List LTold) (L U : Nat) (w : World) (hU : U ≤ w.heap.size) (hp : p < w.heap.size) (hf : w.cell? ⟨p,0,none⟩ = some (.func (.func 107) #[] #[])) (H : RowsAt 3 ToldE w L U a n xs) :
    Calls Tryz.prog 206 #[.slice a n c,.func (.func 169) #[] #[.pointer (some ⟨p,0,none⟩)]] w fun e w'=>(∃ r : Int,e = .returned (.int .i64 r) ∧ decide (0 ≤ r) = !xs.all toldB) ∧ Below w.heap.size w w':=by
  have hbd:=H.bd
  have hlen : Hid (n = xs.length):=H.len
  unfold maxLen at hbd
  go_enter Tryz.func206,Tryz.ntmps206
  go_wp2_with fail
  go_loopg [8] n (fun g k wr=>∃ j : Nat,j ≤ n ∧ Hid (g = n - j) ∧ k = .int .i64 j ∧ Hid (xs.all toldB = (xs.drop j).all toldB) ∧ Below w.heap.size w wr)
  case atStart=>exact ⟨0,Nat.zero_le _,rfl,rfl,by show _ = _; simp,Below.refl _ _⟩
  case round =>
    obtain ⟨j,hj,hk,rfl,hq,hb⟩:=hrel
    by_cases hlt : j < n
    · obtain ⟨b,off,ha,hL,hbU,hc⟩:=H.at_ (by omega)
      subst ha
      obtain ⟨x,vs,he,hc,hE⟩:=hc j hlt
      have hs1:=hb.size
      have HCL:=closTold x vs L U p wr (by omega) (by omega) ((hb.cell (p:=⟨p,0,none⟩) hp).trans hf) (eltTold.below hE hb hU)
      obtain rfl : vs = _:=hE
      have c0:=hc 0 _ rfl
      have c1:=hc 1 _ rfl
      have c2:=hc 2 _ rfl
      simp only [Nat.add_zero] at c0
      rw [← hb.cell (by simp; omega)] at c0 c1 c2
      have HCL:=hidMk HCL
      have hlt' : (j : Int) < (n : Int):=by omega
      have HQ : Hid (xs.all toldB = (toldB x && (xs.drop (j + 1)).all toldB)):=by show _ = _; rw [hq.out,drop_cons he,List.all_cons]
      clear he hc hq H
      go_wp2_with fail
      refine (HCL.out).mono ?_
      rintro e w1 ⟨rfl,hb1⟩
      have hbb : Below w.heap.size w w1:=hb.trans (hb1.mono hb.size)
      clear HCL
      rcases hx : toldB x with _ | _
      · have HY : Hid (xs.all toldB = false):=by show _ = _; rw [HQ.out,hx]; rfl
        clear HQ
        go_wp2_with fail
        go_ret
        exact ⟨⟨_,rfl,by rw [HY.out]; simp⟩,hbb⟩
      · have HY : Hid (xs.all toldB = (xs.drop (j + 1)).all toldB):=by show _ = _; rw [HQ.out,hx]; rfl
        clear HQ
        go_wp2_with fail
        go_roundg (n - (j + 1))
        case measure=>have:=hk.out; omega
        case rel=>exact ⟨j + 1,by omega,rfl,by go_num,HY.out,hbb⟩
    · have HN : Hid (xs.all toldB = true):=by
        show _ = _
        rw [hq.out,List.drop_of_length_le (by have:=hlen.out; omega)]; rfl
      go_wp2_with fail
      go_ret
      exact ⟨⟨-1,rfl,by rw [HN.out]; rfl⟩,hb⟩
theorem containsNoTold (a : Option Addr) (n c p : Nat) (xs : List LTold) (L U : Nat) (w : World) (hU : U ≤ w.heap.size) (hp : p < w.heap.size) (hf : w.cell? ⟨p,0,none⟩ = some (.func (.func 107) #[] #[])) (H : RowsAt 3 ToldE w L U a n xs) :
    Calls Tryz.prog 168 #[.slice a n c,.func (.func 169) #[] #[.pointer (some ⟨p,0,none⟩)]] w fun e w'=>e = .returned (.bool (!xs.all toldB)) ∧ Below w.heap.size w w':=by
  go_enter Tryz.func168,Tryz.ntmps168
  go_wp2_with fail
  refine (indexNoTold _ _ _ p xs L U _ hU hp hf H).mono ?_
  rintro e w1 ⟨⟨r,rfl,hr⟩,hb1⟩
  have HR:=hidMk hr
  clear hr
  go_wp2_with fail
  go_ret
  exact ⟨ret_bool HR.out,hb1⟩
set_option maxHeartbeats 1000000 in
theorem allOkTold (a : Option Addr) (n c : Nat) (most : Nat) (xs : List LTold) (L U : Nat) (w : World) (hU : U ≤ w.heap.size) (H : RowsAt 3 ToldE w L U a n xs) :
    Calls Tryz.prog 106 #[.slice a n c,.int .i64 (most : Int),.func (.func 107) #[] #[]] w fun e w'=>e = .returned (.bool (decide (xs.length ≤ most) && xs.all toldB)) ∧ Below w.heap.size w w':=by
  have hA : ∀ o,Below w.heap.size w (w.alloc o):=fun o=>(Below.refl _ _).alloc (Nat.le_refl _) _
  have hlen:=hidMk H.len
  have hbd:=H.bd
  unfold maxLen at hbd
  by_cases hm : n ≤ most
  · have hm' : (n : Int) ≤ (most : Int):=by omega
    have HV : Hid ((decide (xs.length ≤ most) && xs.all toldB) = xs.all toldB):=by show _ = _; rw [← hlen.out,decide_eq_true hm]; rfl
    have HH:=hidMk H
    clear H
    go_enter Tryz.func106,Tryz.ntmps106
    go_wp2_with fail
    refine (containsNoTold _ _ _ w.heap.size xs L U _ (by simp; omega) (by simp) (by simp [go_sem]) (HH.out.below eltTold (hA _) hU)).mono ?_
    rintro e w1 ⟨rfl,hb1⟩
    have hB:=(hA _).trans (hb1.mono (by simp))
    clear hb1
    rcases hx : xs.all toldB with _ | _
    · have HX:=hidMk hx
      clear hx
      go_wp2_with fail
      go_ret
      exact ⟨ret_bool (by rw [HV.out,HX.out]),hB⟩
    · have HX:=hidMk hx
      clear hx
      go_wp2_with fail
      go_ret
      exact ⟨ret_bool (by rw [HV.out,HX.out]),hB⟩
  · have hm' : ¬ (n : Int) ≤ (most : Int):=by omega
    have HV : Hid ((decide (xs.length ≤ most) && xs.all toldB) = false):=by show _ = _; rw [← hlen.out,decide_eq_false hm]; rfl
    clear H
    go_enter Tryz.func106,Tryz.ntmps106
    go_wp2_with fail
    go_ret
    exact ⟨ret_bool HV.out.symm,hA _⟩
set_option maxHeartbeats 4000000 in
theorem implKeepsOk (sn : Nat → Addr) (S0 : Nat) (a : Option Addr) (n c : Nat) (xs : List LKeep) (L U : Nat) (w : World) (hS0 : S0 ≤ w.heap.size) (HS : Sents w S0 sn) (hU : U ≤ w.heap.size) (H : RowsAt 7 KeepE w L U a n xs) (hsz : ∀ k ∈ xs,KeepSm k) :
    Calls Tryz.prog 102 #[.slice a n c] w fun e w'=>e = .returned (.bool (decide (xs.length = 3) && keepsFrom 0 xs)) ∧ Below w.heap.size w w':=by
  have hlen:=hidMk H.len
  have hbd:=H.bd
  unfold maxLen at hbd
  by_cases h3 : n = 3
  case neg =>
    have h3' : ((n : Int) != 3) = true:=by simp; omega
    have HV : Hid ((decide (xs.length = 3) && keepsFrom 0 xs) = false):=by show _ = _; rw [← hlen.out,decide_eq_false h3]; rfl
    go_enter Tryz.func102,Tryz.ntmps102
    go_wp2_with fail
    go_ret
    exact ⟨ret_bool HV.out.symm,Below.refl _ _⟩
  have HV : Hid ((decide (xs.length = 3) && keepsFrom 0 xs) = keepsFrom 0 xs):=by show _ = _; rw [← hlen.out,decide_eq_true h3]; rfl
  have h3' : ((n : Int) != 3) = false:=by simp; omega
  have H3:=hidMk h3
  clear h3
  go_enter Tryz.func102,Tryz.ntmps102
  go_wp2_with fail
  go_loopg [10] n (fun g i wr=>∃ j : Nat,j ≤ n ∧ Hid (g = n - j) ∧ i = .int .i64 j ∧ Hid (keepsFrom 0 xs = keepsFrom j (xs.drop j)) ∧ Below w.heap.size w wr)
  case atStart=>exact ⟨0,Nat.zero_le _,by show _ = _; omega,rfl,by show _ = _; simp,Below.refl _ _⟩
  case round =>
    obtain ⟨j,hj,hk,rfl,hq,hb⟩:=hrel
    by_cases hlt : j < n
    · obtain ⟨b,off,ha,hL,hbU,hc⟩:=H.at_ (by omega)
      subst ha
      obtain ⟨x,vs,he,hc,hE⟩:=hc j hlt
      obtain ⟨q,s,ea1,en1,ec1,eb1,ea2,en2,ec2,ea3,en3,ec3,ea4,en4,ec4,rfl,hK⟩:=hE
      have c0:=hc 0 _ rfl
      have c1:=hc 1 _ rfl
      have c2:=hc 2 _ rfl
      have c3:=hc 3 _ rfl
      have c4:=hc 4 _ rfl
      have c5:=hc 5 _ rfl
      have c6:=hc 6 _ rfl
      simp only [Nat.add_zero] at c0
      rw [← hb.cell (by simp; omega)] at c0 c1 c2 c3 c4 c5 c6
      have hlt' : (j : Int) < (n : Int):=by omega
      have HQ : Hid (keepsFrom 0 xs = ((q == (j : Int)) && keepOk x && keepsFrom (j + 1) (xs.drop (j + 1)))):=by show _ = _; rw [hq.out,keepsFrom_step he,← hK.q]
      have hsx:=hsz x (List.mem_of_getElem? he)
      have hs1:=hb.size
      have hA : ∀ o,Below wr.heap.size wr (wr.alloc o):=fun o=>(Below.refl _ _).alloc (Nat.le_refl _) _
      have HK:=hidMk (hK.below hb hU)
      have HSr:=hidMk (HS.below hb hS0)
      clear he hc hq hK
      rcases hw : (q == (j : Int)) with _ | _
      · have hw' : (q != (j : Int)) = true:=by simp [bne,hw]
        have HY : Hid (keepsFrom 0 xs = false):=by show _ = _; rw [HQ.out,hw]; rfl
        clear HQ
        go_wp2_with fail
        go_ret
        exact ⟨ret_bool (by rw [HV.out,HY.out]),hb.alloc hs1 _⟩
      have hw' : (q != (j : Int)) = false:=by simp [bne,hw]
      have HQ2 : Hid (keepsFrom 0 xs = (keepOk x && keepsFrom (j + 1) (xs.drop (j + 1)))):=by show _ = _; rw [HQ.out,hw]; rfl
      clear HQ hw
      go_wp2_with fail
      refine (implKeepOk sn S0 _ _ _ _ _ _ _ _ _ _ _ _ _ _ _ x L U _ (by simp; omega) (HSr.out.below (hA _) (by omega)) hsx.base (by simp; omega) (HK.out.below (hA _) (by omega))).mono ?_
      rintro e w1 ⟨rfl,hb1⟩
      have hbb : Below w.heap.size w w1:=(hb.alloc hs1 _).trans (hb1.mono (by simp; omega))
      clear hb1
      rcases hx : keepOk x with _ | _
      · have HY : Hid (keepsFrom 0 xs = false):=by show _ = _; rw [HQ2.out,hx]; rfl
        clear HQ2
        go_wp2_with fail
        go_ret
        exact ⟨ret_bool (by rw [HV.out,HY.out]),hbb⟩
      · have HY : Hid (keepsFrom 0 xs = keepsFrom (j + 1) (xs.drop (j + 1))):=by show _ = _; rw [HQ2.out,hx]; rfl
        clear HQ2
        go_wp2_with fail
        go_roundg (n - (j + 1))
        case measure=>have:=hk.out; omega
        case rel=>exact ⟨j + 1,by omega,rfl,by go_num,HY.out,hbb⟩
    · have HN : Hid (keepsFrom 0 xs = true):=by
        show _ = _
        rw [hq.out,List.drop_of_length_le (by have:=hlen.out; omega)]; rfl
      go_wp2_with fail
      go_ret
      exact ⟨ret_bool (by rw [HV.out,HN.out]),hb⟩
set_option maxHeartbeats 4000000 in
theorem implWorldOk (sn : Nat → Addr) (S0 : Nat) (a0 : Option Addr) (n0 c0 : Nat) (a1 : Option Addr) (n1 c1 : Nat) (a2 : Option Addr) (n2 c2 : Nat) (a3 : Option Addr) (n3 c3 : Nat) (a4 : Option Addr) (n4 c4 : Nat) (a5 : Option Addr) (n5 c5 : Nat) (x : LWorld) (L U : Nat) (w : World) (hS0 : S0 ≤ w.heap.size) (HS : Sents w S0 sn) (hs : WorldSm x) (hU : U ≤ w.heap.size) (H : WorldAt w L U a0 n0 a1 n1 a2 n2 a3 n3 a4 n4 a5 n5 x) :
    Calls Tryz.prog 41 #[.agg #[.slice a0 n0 c0,.slice a1 n1 c1,.slice a2 n2 c2,.slice a3 n3 c3,.slice a4 n4 c4,.slice a5 n5 c5]] w fun e w'=>e = .returned (.bool (worldOk x)) ∧ Below w.heap.size w w':=by
  have HB0:=hidMk (HeldB.new w #[.slice a0 n0 c0,.slice a1 n1 c1,.slice a2 n2 c2,.slice a3 n3 c3,.slice a4 n4 c4,.slice a5 n5 c5] 56)
  have HH:=hidMk H
  have HSh:=hidMk HS
  clear H HS
  go_enter Tryz.func41,Tryz.ntmps41
  go_wp2_with fail
  have hA:=HB0.out.below
  refine (implShopOk _ _ _ _ _ _ _ _ L U L U _ (by have:=hA.size; omega) (by have:=hA.size; omega) (HH.out.tree.below hA hU) (HH.out.dones.below hA hU)).mono ?_
  rintro e w1 ⟨rfl,hb1⟩
  have H1:=HB0.out.next hb1
  clear HB0 hA hb1
  rcases hc : shopOk x.tree x.dones with _ | _
  · have HX : Hid (worldOk x = false):=by show _ = _; unfold worldOk; rw [hc]; rfl
    have hB:=H1.below
    clear hc H1
    go_wp2_with fail
    go_ret
    exact ⟨ret_bool HX.out.symm,hB⟩
  have HV : Hid (worldOk x = ((decide (x.keeps.length = 3) && keepsFrom 0 x.keeps) && (decide (x.net.length ≤ 24) && x.net.all msgOkM) && (decide (x.past.length ≤ 60) && x.past.all logOk) && (decide (x.told.length ≤ 60) && x.told.all toldB))):=by show _ = _; unfold worldOk; rw [hc]; simp
  clear hc
  obtain ⟨_,_,f2,_,_,_⟩:=H1.box.c6
  have HH1:=hidMk H1
  go_wp2_with fail
  refine (implKeepsOk sn S0 _ _ _ x.keeps L U _ (by have:=H1.below.size; omega) (HSh.out.below H1.below hS0) (by have:=H1.below.size; omega) (HH.out.keeps.below eltKeep H1.below hU) hs.keeps).mono ?_
  rintro e w2 ⟨rfl,hb2⟩
  have H2:=HH1.out.next hb2
  clear H1 HH1 hb2 f2
  rcases hc : (decide (x.keeps.length = 3) && keepsFrom 0 x.keeps) with _ | _
  · have HX : Hid (worldOk x = false):=by show _ = _; rw [HV.out,hc]; simp
    have hB:=H2.below
    clear hc H2
    go_wp2_with fail
    go_ret
    exact ⟨ret_bool HX.out.symm,hB⟩
  replace HV : Hid (worldOk x = ((decide (x.net.length ≤ 24) && x.net.all msgOkM) && (decide (x.past.length ≤ 60) && x.past.all logOk) && (decide (x.told.length ≤ 60) && x.told.all toldB))):=by show _ = _; rw [HV.out,hc]; simp
  clear hc
  obtain ⟨_,_,_,f3,_,_⟩:=H2.box.c6
  have HH2:=hidMk H2
  go_wp2_with fail
  refine (allOkMsg _ _ _ 24 x.net L U _ (by have:=H2.below.size; omega) (HH.out.net.below eltMsg H2.below hU)).mono ?_
  rintro e w3 ⟨rfl,hb3⟩
  have H3:=HH2.out.next hb3
  clear H2 HH2 hb3 f3
  rcases hc : (decide (x.net.length ≤ 24) && x.net.all msgOkM) with _ | _
  · have HX : Hid (worldOk x = false):=by show _ = _; rw [HV.out,hc]; simp
    have hB:=H3.below
    clear hc H3
    go_wp2_with fail
    go_ret
    exact ⟨ret_bool HX.out.symm,hB⟩
  replace HV : Hid (worldOk x = ((decide (x.past.length ≤ 60) && x.past.all logOk) && (decide (x.told.length ≤ 60) && x.told.all toldB))):=by show _ = _; rw [HV.out,hc]; simp
  clear hc
  obtain ⟨_,_,_,_,f4,_⟩:=H3.box.c6
  have HH3:=hidMk H3
  go_wp2_with fail
  refine (allOkLog _ _ _ 60 x.past L U _ (by have:=H3.below.size; omega) (HH.out.past.below eltLog H3.below hU)).mono ?_
  rintro e w4 ⟨rfl,hb4⟩
  have H4:=HH3.out.next hb4
  clear H3 HH3 hb4 f4
  rcases hc : (decide (x.past.length ≤ 60) && x.past.all logOk) with _ | _
  · have HX : Hid (worldOk x = false):=by show _ = _; rw [HV.out,hc]; simp
    have hB:=H4.below
    clear hc H4
    go_wp2_with fail
    go_ret
    exact ⟨ret_bool HX.out.symm,hB⟩
  replace HV : Hid (worldOk x = ((decide (x.told.length ≤ 60) && x.told.all toldB))):=by show _ = _; rw [HV.out,hc]; simp
  clear hc
  obtain ⟨_,_,_,_,_,f5⟩:=H4.box.c6
  have HH4:=hidMk H4
  go_wp2_with fail
  refine (allOkTold _ _ _ 60 x.told L U _ (by have:=H4.below.size; omega) (HH.out.told.below eltTold H4.below hU)).mono ?_
  rintro e w5 ⟨rfl,hb5⟩
  have H5:=HH4.out.next hb5
  clear H4 HH4 hb5 f5
  rcases hc : (decide (x.told.length ≤ 60) && x.told.all toldB) with _ | _
  · have HX : Hid (worldOk x = false):=by show _ = _; rw [HV.out,hc]
    have hB:=H5.below
    clear hc H5
    go_wp2_with fail
    go_ret
    exact ⟨ret_bool HX.out.symm,hB⟩
  replace HV : Hid (worldOk x = (true)):=by show _ = _; rw [HV.out,hc]
  clear hc
  have hB:=H5.below
  clear H5
  go_wp2_with fail
  go_ret
  exact ⟨ret_bool HV.out.symm,hB⟩
end
section
open Go.RowKit
set_option maxHeartbeats 4000000 in
set_option maxRecDepth 20000 in
theorem l3All_any (a la : Option Addr) (n c m lc : Nat) (os : List LObj) (ops : List LOp) (L U L2 U2 : Nat) (w : World) (hS : Sizes os 1048576) (hs : specOk os = true) (hf : formsB ops = true) (hU : U ≤ w.heap.size) (H : ObjsAt w L U a n os) (hU2 : U2 ≤ w.heap.size) (H2 : OpsAt w L2 U2 la m ops) :
    Calls Tryz.prog 46 #[.agg #[.slice a n c],.slice la m lc] w fun e w'=>AllEnd w (allGo os os ops 0) e w':=by
  have hbd:=H2.bd
  unfold maxLen at hbd
  have HLN : Hid (n = os.length):=H.len
  have HN : Hid (n = 32):=by show _ = _; rw [HLN.out]; exact ok_len hs
  have HLM : Hid (m = ops.length):=H2.len
  have HSZ : Hid (∀ o ∈ os,o.text.size ≤ maxLen ∧ ∀ e ∈ o.kids,e.name.size ≤ maxLen):=H.sizes
  have HCP:=fun w hU H=>copy_any a n c os L U w (by rw [HN.out]; omega) (by rw [HN.out]; omega) hS hU H
  have hA : Below w.heap.size w ((w.alloc (.cells #[.slice a n c] 26)).alloc (.cells #[.slice none 0 0] 26)):=((Below.refl _ _).alloc (Nat.le_refl _) _).alloc (by simp) _
  have hx : ((w.alloc (.cells #[.slice a n c] 26)).alloc (.cells #[.slice none 0 0] 26)).rowIs (w.heap.size + 1) 26 1 (zrow #[.slice none 0 0]):=by
    have:=zrow_new (w.alloc (.cells #[.slice a n c] 26)) #[.slice none 0 0] 26
    simpa using this
  have ht : ((w.alloc (.cells #[.slice a n c] 26)).alloc (.cells #[.slice none 0 0] 26)).cell? ⟨w.heap.size,0,none⟩ = some (.slice a n c):=by simp [go_sem]
  go_enter Tryz.func46,Tryz.ntmps46
  go_wp2_with fail
  refine (HCP _ (Nat.le_trans hU hA.size) (H.below hA hU)).mono ?_
  rintro e w1 ⟨⟨v,vs,rfl,hC⟩,hb1⟩
  have hB1 : Below w.heap.size w w1:=hA.trans (hb1.mono hA.size)
  obtain ⟨b1,c1,rfl,HOW⟩:=hC.out.done HLN.out (by rw [HN.out]; omega) HSZ.out
  have hz1:=hb1.size
  simp at hz1
  have hx1:=hx.of_block (hb1.block (w.heap.size + 1) hx.lt)
  have ht1 : w1.cell? ⟨w.heap.size,0,none⟩ = some (.slice a n c):=by rw [hb1.cell (by simp; omega)]; exact ht
  have HOW1 : OwnT w1 (w.heap.size + 1 + 1) b1 c1 os vs:=by simpa using HOW
  clear hC HOW hx ht hA hb1
  have hA2 : Below w1.heap.size w1 (w1.alloc (.cells #[.slice (some ⟨b1,0,none⟩) n c1] 26)):=(Below.refl _ _).alloc (Nat.le_refl _) _
  have HZ0 : Hid (LZ w (w1.alloc (.cells #[.slice (some ⟨b1,0,none⟩) n c1] 26)) w1.heap.size 26 a n c b1 c1) :=
    ⟨hB1.trans (hA2.mono hB1.size),by rw [hA2.cell (by simp; omega)]; exact ht1,⟨_,hx1.of_block (hA2.block _ (by omega))⟩,by simp [go_sem],⟨_,zrow_new w1 #[.slice (some ⟨b1,0,none⟩) n c1] 26⟩,by omega,by simp⟩
  have HT0 : Hid (OwnT (w1.alloc (.cells #[.slice (some ⟨b1,0,none⟩) n c1] 26)) (w.heap.size + 1 + 1) b1 c1 os vs):=HOW1.below hA2
  obtain ⟨T,hT⟩ : ∃ T,w1.heap.size = T:=⟨_,rfl⟩
  have HZT : Hid (LZ w (w1.alloc (.cells #[.slice (some ⟨b1,0,none⟩) n c1] 26)) T 26 a n c b1 c1):=by have h9:=HZ0.out; rw [hT] at h9; exact h9
  have HFM : Hid (formsB ops = true):=hf
  have HSO : Hid (specOk os = true):=hs
  clear HZ0 HOW1 ht1 hx1 hA2 hB1 hf hs
  go_wp2_with fail
  clear hT hz1
  go_loopg [8] m (fun g i wr=>∃ j : Nat,j ≤ m ∧ Hid (g = m - j) ∧ i = .int .i64 j ∧ ∃ os' vs',Hid (LZ w wr T 26 a n c b1 c1) ∧ Hid (OwnT wr (w.heap.size + 1 + 1) b1 c1 os' vs') ∧ Hid (specOk os' = true) ∧ Hid (allGo os os ops 0 = allGo os os' (ops.drop j) j))
  case atStart=>exact ⟨0,Nat.zero_le _,rfl,rfl,os,vs,HZT,HT0,HSO,by show _ = _; rw [List.drop_zero]⟩
  case round =>
    obtain ⟨j,hj,hg,rfl,os1,vs1,HZ,HT,HS1,HG⟩:=hrel
    clear HZT HT0
    by_cases hlt : j < m
    · obtain ⟨lb,off,ha,hL,hlb0,hcc⟩:=H2.at_ (by omega)
      obtain ⟨o,he,hsz,hat⟩:=hcc j hlt
      have hlb : lb < w.heap.size:=by omega
      have HAT : Hid (OpAt w lb (off + j * 7) o):=hat
      have hltI : (j : Int) < (m : Int):=by omega
      have hok : opOk o = true:=forms_op HFM.out he
      have HL : Hid (os1.length = n):=by show _ = _; rw [HN.out]; exact ok_len HS1.out
      have hDO:=fun (B b c : Nat) (vs : Nat → Value) (w : World) hB H=>do_any B b c n o os1 vs w hok HL.out.symm (by rw [HN.out]; omega) hB (ok_bd HS1.out) hsz H
      simp only [LOp.val] at hDO
      obtain ⟨r,hr⟩ : ∃ r,r = actDo os1 o:=⟨_,rfl⟩
      rw [← hr] at hDO
      have hDO:=hDO (w.heap.size + 1 + 1)
      have HRL : Hid (r.1.length = n):=by show _ = _; rw [hr,actDo_len]; exact HL.out
      have HRO : Hid (r.2 = 0 → specOk r.1 = true):=fun h=>by rw [hr]; exact act_ok HS1.out hok (by rw [← hr]; exact h)
      have HG1 : Hid (allGo os os ops 0 = if r.2 = 0 then allGo os r.1 (ops.drop (j + 1)) (j + 1) else (os,r.2,j)):=by show _ = _; rw [HG.out,allGo_step os os1 he,← hr]
      subst ha
      clear hat hcc he hr HG hok
      have x0:=HZ.out.x
      go_upto_region 5 with fail
      have HZ5:=HZ.out.next (Below.refl _ _).drew
      have HT5:=HT.out.below (Below.refl _ _).drew
      clear x0
      go_cut [9,10] (fun p k wx=>∃ q vs4,p = .pointer (some ⟨q,0,none⟩) ∧ k = .int .i64 r.2 ∧ Hid (LZ w wx T 26 a n c b1 c1) ∧ Hid (YB wx q n b1 c1) ∧ Hid (OwnT wx (w.heap.size + 1 + 1) b1 c1 r.1 vs4) ∧ T < q)
      case first =>
        refine wp_region_held_drew (S:=(fun W=>LZ w W T 26 a n c b1 c1)) (by kernel_rfl) ?_ (fun hHeld=>?_)
        · exact HZ5
        refine listH (l2:=#[false,false,false,false,false,false,false,false,false,false,false,false]) (by kernel_rfl) ?_
        refine takeH (i:=0) (oi:=_) (v:=?vs0) 20 #[true,false,false,false,false,false,false,false,false,false,false,false] rfl (by kernel_rfl) (by kernel_rfl) (by kernel_rfl) rfl (by kernel_rfl) (fun _ _ _ h=>h) (Or.inl ⟨by rfl,?ys0⟩) (by assumption) ?rs0
        case ys0=>(intro w' hSw; (try dsimp only at hSw); have x0:=hSw.x; obtain ⟨d0,d1,d2,d3,d4,d5,d6⟩:=HAT.out.of_block (hSw.below.block lb hlb); go_simp; try with_reducible rfl)
        simp only [Act.put,sT,sS,sZ]
        refine takeH (i:=1) (oi:=_) (v:=?vs1) 21 #[true,true,false,false,false,false,false,false,false,false,false,false] rfl (by kernel_rfl) (by kernel_rfl) (by kernel_rfl) rfl (by kernel_rfl) (fun _ _ _ h=>h) (Or.inl ⟨by rfl,?ys1⟩) (by assumption) ?rs1
        case ys1=>(intro w' hSw; (try dsimp only at hSw); have x0:=hSw.x; obtain ⟨d0,d1,d2,d3,d4,d5,d6⟩:=HAT.out.of_block (hSw.below.block lb hlb); go_simp; try with_reducible rfl)
        simp only [Act.put,sT,sS,sZ]
        refine takeH (i:=2) (oi:=_) (v:=?vs2) 22 #[true,true,true,false,false,false,false,false,false,false,false,false] rfl (by kernel_rfl) (by kernel_rfl) (by kernel_rfl) rfl (by kernel_rfl) (fun _ _ _ h=>h) (Or.inl ⟨by rfl,?ys2⟩) (by assumption) ?rs2
        case ys2=>(intro w' hSw; (try dsimp only at hSw); have x0:=hSw.x; obtain ⟨d0,d1,d2,d3,d4,d5,d6⟩:=HAT.out.of_block (hSw.below.block lb hlb); go_simp; try with_reducible rfl)
        simp only [Act.put,sT,sS,sZ]
        refine takeH (i:=3) (oi:=_) (v:=?vs3) 23 #[true,true,true,true,false,false,false,false,false,false,false,false] rfl (by kernel_rfl) (by kernel_rfl) (by kernel_rfl) rfl (by kernel_rfl) (fun _ _ _ h=>h) (Or.inl ⟨by rfl,?ys3⟩) (by assumption) ?rs3
        case ys3=>(intro w' hSw; (try dsimp only at hSw); have x0:=hSw.x; obtain ⟨d0,d1,d2,d3,d4,d5,d6⟩:=HAT.out.of_block (hSw.below.block lb hlb); go_simp; try with_reducible rfl)
        simp only [Act.put,sT,sS,sZ]
        refine takeH (i:=4) (oi:=_) (v:=?vs4) 24 #[true,true,true,true,true,false,false,false,false,false,false,false] rfl (by kernel_rfl) (by kernel_rfl) (by kernel_rfl) rfl (by kernel_rfl) (fun _ _ _ h=>h) (Or.inl ⟨by rfl,?ys4⟩) (by assumption) ?rs4
        case ys4=>(intro w' hSw; (try dsimp only at hSw); have x0:=hSw.x; obtain ⟨d0,d1,d2,d3,d4,d5,d6⟩:=HAT.out.of_block (hSw.below.block lb hlb); go_simp; try with_reducible rfl)
        simp only [Act.put,sT,sS,sZ]
        refine wpAnyH_ready (rs:=[5,9]) (by kernel_rfl) (by simp) ?_
        refine AllReadyH.cons (o:=_) rfl (fun K hK=>?_) (AllReadyH.cons (o:=_) rfl (fun K hK=>?_) AllReadyH.nil)
        · go_simp
          refine (hDO b1 c1 vs1 _ (by have:=hHeld.lo; have:=hHeld.lt; omega) HT5).mono ?_
          rintro e w4 ⟨vs4,rfl,HOW4,hb4,hk4⟩
          have HZ4:=hHeld.call (by decide) HL.out HT5 hb4 hk4
          rw [HRL.out]
          go_wp2_with fail
          refine hK.out _ _ HZ4 (fun hHeld=>?_)
          clear hK K
          try simp only [Act.put]
          refine listH (l2:=#[true,true,true,true,true,true,false,false,false,false,false,false]) (by kernel_rfl) ?_
          refine takeH (i:=6) (oi:=_) (v:=?vsf6) 19 #[true,true,true,true,true,true,true,false,false,false,false,false] rfl (by kernel_rfl) (by kernel_rfl) (by kernel_rfl) rfl (by kernel_rfl) (fun _ _ _ h=>h) (Or.inl ⟨by rfl,?ysf6⟩) (by assumption) ?rsf6
          case ysf6=>(intro w' hSw; (try dsimp only at hSw); have x0:=hSw.x; obtain ⟨d0,d1,d2,d3,d4,d5,d6⟩:=HAT.out.of_block (hSw.below.block lb hlb); go_simp; try with_reducible rfl)
          simp only [Act.put,sT,sS,sZ]
          refine takeH (i:=7) (oi:=_) (v:=?vsf7) 26 #[true,true,true,true,true,true,true,true,false,false,false,false] rfl (by kernel_rfl) (by kernel_rfl) (by kernel_rfl) rfl (by kernel_rfl) (fun _ _ _ h=>h) (Or.inl ⟨by rfl,?ysf7⟩) (by assumption) ?rsf7
          case ysf7=>(intro w' hSw; (try dsimp only at hSw); have x0:=hSw.x; obtain ⟨d0,d1,d2,d3,d4,d5,d6⟩:=HAT.out.of_block (hSw.below.block lb hlb); go_simp; try with_reducible rfl)
          simp only [Act.put,sT,sS,sZ]
          refine takeH (i:=8) (oi:=_) (v:=?vsf8) 27 #[true,true,true,true,true,true,true,true,true,false,false,false] rfl (by kernel_rfl) (by kernel_rfl) (by kernel_rfl) rfl (by kernel_rfl) (fun _ _ _ h=>h) (Or.inl ⟨by rfl,?ysf8⟩) (by assumption) ?rsf8
          case ysf8=>(intro w' hSw; (try dsimp only at hSw); have x0:=hSw.x; obtain ⟨d0,d1,d2,d3,d4,d5,d6⟩:=HAT.out.of_block (hSw.below.block lb hlb); go_simp; try with_reducible rfl)
          simp only [Act.put,sT,sS,sZ]
          refine wpAnyH_ready (rs:=[9]) (by kernel_rfl) (by simp) ?_
          refine AllReadyH.cons (o:=_) rfl (fun K hK=>?_) AllReadyH.nil
          refine st_alloc31 _ 9 ?_
          intro q6 V6 hq6 hb6 R6
          have lt6:=R6.lt
          have lo6 : T < q6:=by have:=HZ4.lt; omega
          clear hq6
          refine hK.out _ _ (hHeld.next hb6) (fun hHeld=>?_)
          clear hK K
          try simp only [Act.put]
          refine listH (l2:=#[true,true,true,true,true,true,true,true,true,true,false,false]) (by kernel_rfl) ?_
          refine wpAnyH_ready (rs:=[10]) (by kernel_rfl) (by simp) ?_
          refine AllReadyH.cons (o:=_) rfl (fun K hK=>?_) AllReadyH.nil
          refine st_store31 _ 9 26 q6 _ _ _ rfl rfl R6 ?_
          intro V7 hB7 g7 hE7
          refine hK.out _ _ (hHeld.but hB7 lo6) (fun hHeld=>?_)
          clear hK K
          try simp only [Act.put]
          refine listH (l2:=#[true,true,true,true,true,true,true,true,true,true,true,false]) (by kernel_rfl) ?_
          refine wpAnyH_ready (rs:=[11]) (by kernel_rfl) (by simp) ?_
          refine AllReadyH.cons (o:=_) rfl (fun K hK=>?_) AllReadyH.nil
          go_simp
          refine hK.out _ _ hHeld (fun hHeld=>?_)
          clear hK K
          try simp only [Act.put]
          refine listH (l2:=#[true,true,true,true,true,true,true,true,true,true,true,true]) (by kernel_rfl) ?_
          refine wpAnyH_done (by kernel_rfl) ?_ _
          go_wp2_with fail
          go_meet
          exact ⟨q6,vs4,rfl,rfl,hHeld,⟨g7,by have:=R6.lt; have:=hB7.below.size; omega⟩,by rw [hE7.out]; exact (HOW4.below hb6).setBox ⟨_,R6⟩ 0 _,lo6⟩
        · refine st_alloc31 _ 9 ?_
          intro q6 V6 hq6 hb6 R6
          have lt6:=R6.lt
          have lo6 : T < q6:=by have:=HZ5.lt; omega
          clear hq6
          refine hK.out _ _ (hHeld.next hb6) (fun hHeld=>?_)
          clear hK K
          try simp only [Act.put]
          refine listH (l2:=#[true,true,true,true,true,false,false,false,false,true,false,false]) (by kernel_rfl) ?_
          have HT6:=HT5.below hb6
          refine wpAnyH_ready (rs:=[5]) (by kernel_rfl) (by simp) ?_
          refine AllReadyH.cons (o:=_) rfl (fun K hK=>?_) AllReadyH.nil
          go_simp
          refine (hDO b1 c1 vs1 _ (by have:=hHeld.lo; have:=hHeld.lt; omega) HT6).mono ?_
          rintro e w4 ⟨vs4,rfl,HOW4,hb4,hk4⟩
          have HZ4:=hHeld.call (by decide) HL.out HT6 hb4 hk4
          rw [HRL.out]
          go_wp2_with fail
          have e6:=hk4 q6 lt6 (HT6.far (by decide) R6).1 (fun i hi=>(HT6.far (by decide) R6).2 i (by have:=HL.out; omega))
          have R6:=R6.of_block e6
          refine hK.out _ _ HZ4 (fun hHeld=>?_)
          clear hK K
          try simp only [Act.put]
          refine listH (l2:=#[true,true,true,true,true,true,false,false,false,true,false,false]) (by kernel_rfl) ?_
          refine takeH (i:=6) (oi:=_) (v:=?vsfg6) 19 #[true,true,true,true,true,true,true,false,false,true,false,false] rfl (by kernel_rfl) (by kernel_rfl) (by kernel_rfl) rfl (by kernel_rfl) (fun _ _ _ h=>h) (Or.inl ⟨by rfl,?ysfg6⟩) (by assumption) ?rsfg6
          case ysfg6=>(intro w' hSw; (try dsimp only at hSw); have x0:=hSw.x; obtain ⟨d0,d1,d2,d3,d4,d5,d6⟩:=HAT.out.of_block (hSw.below.block lb hlb); go_simp; try with_reducible rfl)
          simp only [Act.put,sT,sS,sZ]
          refine takeH (i:=7) (oi:=_) (v:=?vsfg7) 26 #[true,true,true,true,true,true,true,true,false,true,false,false] rfl (by kernel_rfl) (by kernel_rfl) (by kernel_rfl) rfl (by kernel_rfl) (fun _ _ _ h=>h) (Or.inl ⟨by rfl,?ysfg7⟩) (by assumption) ?rsfg7
          case ysfg7=>(intro w' hSw; (try dsimp only at hSw); have x0:=hSw.x; obtain ⟨d0,d1,d2,d3,d4,d5,d6⟩:=HAT.out.of_block (hSw.below.block lb hlb); go_simp; try with_reducible rfl)
          simp only [Act.put,sT,sS,sZ]
          refine takeH (i:=8) (oi:=_) (v:=?vsfg8) 27 #[true,true,true,true,true,true,true,true,true,true,false,false] rfl (by kernel_rfl) (by kernel_rfl) (by kernel_rfl) rfl (by kernel_rfl) (fun _ _ _ h=>h) (Or.inl ⟨by rfl,?ysfg8⟩) (by assumption) ?rsfg8
          case ysfg8=>(intro w' hSw; (try dsimp only at hSw); have x0:=hSw.x; obtain ⟨d0,d1,d2,d3,d4,d5,d6⟩:=HAT.out.of_block (hSw.below.block lb hlb); go_simp; try with_reducible rfl)
          simp only [Act.put,sT,sS,sZ]
          refine wpAnyH_ready (rs:=[10]) (by kernel_rfl) (by simp) ?_
          refine AllReadyH.cons (o:=_) rfl (fun K hK=>?_) AllReadyH.nil
          refine st_store31 _ 9 26 q6 _ _ _ rfl rfl R6 ?_
          intro V7 hB7 g7 hE7
          refine hK.out _ _ (hHeld.but hB7 lo6) (fun hHeld=>?_)
          clear hK K
          try simp only [Act.put]
          refine listH (l2:=#[true,true,true,true,true,true,true,true,true,true,true,false]) (by kernel_rfl) ?_
          refine wpAnyH_ready (rs:=[11]) (by kernel_rfl) (by simp) ?_
          refine AllReadyH.cons (o:=_) rfl (fun K hK=>?_) AllReadyH.nil
          go_simp
          refine hK.out _ _ hHeld (fun hHeld=>?_)
          clear hK K
          try simp only [Act.put]
          refine listH (l2:=#[true,true,true,true,true,true,true,true,true,true,true,true]) (by kernel_rfl) ?_
          refine wpAnyH_done (by kernel_rfl) ?_ _
          go_wp2_with fail
          go_meet
          exact ⟨q6,vs4,rfl,rfl,hHeld,⟨g7,by have:=R6.lt; have:=hB7.below.size; omega⟩,by rw [hE7.out]; exact (HOW4).setBox ⟨_,R6⟩ 0 _,lo6⟩
      obtain ⟨q,vs4,rfl,rfl,HZ7,HY7,HT7,hTq⟩:=hcut
      obtain ⟨W7,rfl⟩ : ∃ W7,W7 = wc:=⟨_,rfl⟩
      clear HZ5 HT5 HZ HT hDO HAT
      by_cases hr0 : r.2 = 0
      · have t0 : (r.2 == 0) = true:=by simp [hr0]
        have HG2 : Hid (allGo os os ops 0 = allGo os r.1 (ops.drop (j + 1)) (j + 1)):=by show _ = _; rw [HG1.out,if_pos hr0]
        have HS2 : Hid (specOk r.1 = true):=HRO.out hr0
        clear hr0 HG1 HRO
        have y0:=HY7.out.box
        have y1:=HZ7.out.x
        obtain ⟨f7,x7⟩:=HZ7.out.xr
        have z7:=x7.frozen 0
        have lt7:=x7.lt
        have HZ8 : Hid (LZ w (W7.setCell ⟨T,0,none⟩ (.slice (some ⟨b1,0,none⟩) n c1)) T 26 a n c b1 c1):=HZ7.out.put (by decide)
        have HT8 : Hid (OwnT (W7.setCell ⟨T,0,none⟩ (.slice (some ⟨b1,0,none⟩) n c1)) (w.heap.size + 1 + 1) b1 c1 r.1 vs4):=HT7.out.setBox ⟨_,x7⟩ 0 _
        clear HZ7 HY7 HT7 x7 lt7
        go_wp2_with fail
        go_roundg (m - (j + 1))
        case measure=>have:=hg.out; omega
        case rel=>exact ⟨j + 1,by omega,rfl,by go_num,r.1,vs4,HZ8,HT8,HS2,HG2⟩
      · have t0 : (r.2 == 0) = false:=by simp [hr0]
        have HG2 : Hid (allGo os os ops 0 = (os,r.2,j)):=by show _ = _; rw [HG1.out,if_neg hr0]
        clear hr0 HG1 HRO HT7 HY7
        have y0:=HZ7.out.t
        go_wp2_with fail
        refine (HCP _ (Nat.le_trans hU HZ7.out.below.size) (H.below HZ7.out.below hU)).mono ?_
        rintro e w8 ⟨⟨v,vs8,rfl,hC⟩,hb8⟩
        obtain ⟨b8,c8,rfl,HOW⟩:=hC.out.done HLN.out (by rw [HN.out]; omega) HSZ.out
        obtain ⟨f8,r8⟩:=(HZ7.out.next hb8).r
        have z8:=r8.frozen 0
        have q8:=r8.cell (i:=0) (by omega)
        have hz8:=HZ7.out.below.size
        clear hC y0
        go_wp2_with fail
        refine bodyPost_ret (v:=Value.tuple #[.agg #[.slice (some ⟨b8,0,none⟩) n c8],.int .i64 r.2,.int .i64 j]) (by rw [results,Tryz.results46]; simp [go_sem,World.cell?_setCell_same _ _ _ q8]) rfl ⟨.inr ⟨b8,c8,vs8,by rw [HG2.out,HLN.out],?_⟩,?_⟩
        · rw [HG2.out]; exact (HOW.setBox ⟨_,r8⟩ 0 _).base' hz8
        · exact ((HZ7.out.next hb8).below).setCell (by show _ ≤ _ + 1; omega) _
    · have HG2 : Hid (allGo os os ops 0 = (os1,0,m)):=by
        show _ = _
        have : j = m:=by omega
        subst this
        rw [HG.out,allGo_end _ _ (by rw [HLM.out]; exact Nat.le_refl _)]
      have HL : Hid (os1.length = n):=by show _ = _; rw [HN.out]; exact ok_len HS1.out
      have hjm : ¬ ((j : Int) < (m : Int)):=by omega
      have y0:=HZ.out.x
      obtain ⟨f8,r8⟩:=HZ.out.r
      have z8:=r8.frozen 0
      have q8:=r8.cell (i:=0) (by omega)
      clear HG
      go_wp2_with fail
      refine bodyPost_ret (v:=Value.tuple #[.agg #[.slice (some ⟨b1,0,none⟩) n c1],.int .i64 0,.int .i64 m]) (by rw [results,Tryz.results46]; simp [go_sem,World.cell?_setCell_same _ _ _ q8]) rfl ⟨.inr ⟨b1,c1,vs1,by rw [HG2.out,HL.out],?_⟩,?_⟩
      · rw [HG2.out]; exact (HT.out.setBox ⟨_,r8⟩ 0 _).base' (by omega)
      · exact (HZ.out.below).setCell (by show _ ≤ _ + 1; omega) _
end
end Go.Proofs.YtloopeipheklpaaGreatDoor
