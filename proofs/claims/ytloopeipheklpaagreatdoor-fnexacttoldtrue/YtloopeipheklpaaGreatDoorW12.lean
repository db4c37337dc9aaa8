/- Lemmas that the proofs of this seat share: WldS. -/
import Derived.Test.YtloopeipheklpaaGreatDoorW11
namespace Go.Proofs.YtloopeipheklpaaGreatDoor
open Go.RowKit Go.ChangeShapes Go.WideShapes
def OpsSm (l : List LOp) : Prop:=l.length ≤ 1048576
theorem szOpsE (a : Option Addr) (n c : Nat) (l : List LOp) (L U : Nat) (left : Int) (w : World) (h0 : 0 ≤ left) (h1 : left ≤ 1048576) (hU : U ≤ w.heap.size) (H : OpsAt w L U a n l) :
    Calls Tryz.prog 76 #[.slice a n c,.int .i64 left] w fun e w'=>(∃ r : Int,e = .returned (.int .i64 r) ∧ (r = -1 ∨ (0 ≤ r ∧ r ≤ left ∧ OpsSm l))) ∧ Below w.heap.size w w' :=
  (szOpS_any a n c l L U left w h0 h1 hU H).mono fun e w' ⟨⟨r,h,h2⟩,hb⟩=>⟨⟨r,h,by
    have:=H.len
    unfold OpsSm
    omega⟩,hb⟩
set_option maxHeartbeats 1000000 in
theorem szOpSS_any (a : Option Addr) (n c : Nat) (xs : List (List LOp)) (L U : Nat) (left : Int) (w : World) (h0 : 0 ≤ left) (h1 : left ≤ 1048576) (hU : U ≤ w.heap.size) (H : RowsAt 1 OpsE w L U a n xs) :
    Calls Tryz.prog 77 #[.slice a n c,.int .i64 left] w fun e w'=>(∃ r : Int,e = .returned (.int .i64 r) ∧ (r = -1 ∨ (0 ≤ r ∧ r ≤ left ∧ n ≤ 1048576 ∧ ∀ x ∈ xs,OpsSm x))) ∧ Below w.heap.size w w':=by
  have hbd:=H.bd
  unfold maxLen at hbd
  by_cases h : left - n < 0
  · go_enter Tryz.func77,Tryz.ntmps77
    go_wp2
    go_ret
    exact ⟨⟨-1,rfl,.inl rfl⟩,Below.refl _ _⟩
  · go_enter Tryz.func77,Tryz.ntmps77
    go_wp2
    go_loopg [1,5] n (fun k l i wr=>∃ j : Nat,j ≤ n ∧ Hid (k = n - j) ∧ i = .int .i64 j ∧ (∃ r : Int,l = .int .i64 r ∧ 0 ≤ r ∧ r ≤ 1048576 ∧ Hid (r ≤ left) ∧ Hid (∀ x ∈ xs.take j,OpsSm x)) ∧ Below w.heap.size w wr)
    case atStart=>exact ⟨0,Nat.zero_le _,by show _ = _; omega,rfl,⟨_,rfl,by omega,by omega,by show _ ≤ _; omega,by show ∀ _,_; simp⟩,Below.refl _ _⟩
    case round =>
      obtain ⟨j,hj,hk,rfl,⟨r,rfl,hr0,hr1,hrl,hsm⟩,hb⟩:=hrel
      by_cases hlt : j < n
      · obtain ⟨b,off,ha,hL,hbU,hc⟩:=H.at_ (by omega)
        subst ha
        obtain ⟨x,vs,he,hc,hE⟩:=hc j hlt
        have HE : Hid (xs[j]? = some x):=he
        clear he
        obtain ⟨oa,on,oc,rfl,hO⟩:=hE
        have c0:=hc 0 _ rfl
        simp only [Nat.add_zero,Nat.mul_one] at c0
        rw [← hb.cell (by simp; omega)] at c0
        clear hc
        go_wp2_with fail
        refine (szOpsE _ _ _ _ L U _ _ hr0 hr1 (by have:=hb.size; omega) (hO.below hb hU)).mono ?_
        rintro y w1 ⟨⟨r1,rfl,hr1'⟩,hb1⟩
        have HR : Hid (r1 = -1 ∨ 0 ≤ r1 ∧ r1 ≤ r ∧ OpsSm x):=hr1'
        clear hr1'
        by_cases hneg : r1 < 0
        · go_wp2_with fail
          go_ret
          exact ⟨⟨-1,rfl,.inl rfl⟩,hb.trans (hb1.mono hb.size)⟩
        · go_wp2_with fail
          go_roundg (n - (j + 1))
          case measure=>have:=hk.out; omega
          case rel =>
            have h2:=HR.out
            have h4:=hrl.out
            refine ⟨j + 1,by omega,rfl,by go_num,⟨r1,rfl,by omega,by omega,by show _ ≤ _; omega,?_⟩,hb.trans (hb1.mono hb.size)⟩
            show ∀ z ∈ xs.take (j + 1),OpsSm z
            intro z hz
            have hjl : j < xs.length:=(List.getElem?_eq_some_iff.1 HE.out).1
            rw [List.take_succ_eq_append_getElem hjl] at hz
            rcases List.mem_append.1 hz with hz | hz
            · exact hsm.out z hz
            · obtain rfl : z = xs[j]:=by simpa using hz
              have e : xs[j] = x:=(List.getElem?_eq_some_iff.1 HE.out).2
              rw [e]
              rcases h2 with h2 | h2
              · omega
              · exact h2.2.2
      · go_wp2_with fail
        go_ret
        have h4:=hrl.out
        have h5:=hsm.out
        rw [List.take_of_length_le (by have:=H.len; omega)] at h5
        exact ⟨⟨r,rfl,.inr ⟨hr0,h4,by omega,h5⟩⟩,hb⟩
structure KeepSm (k : LKeep) : Prop where
  n : k.base.length ≤ 1048576
  base : Sizes k.base 1048576
  sent : OpsSm k.sent
  list : OpsSm k.list
  n3 : k.shelf.length ≤ 1048576
  shelf : ∀ l ∈ k.shelf,OpsSm l
theorem szTreeE (a : Option Addr) (n c : Nat) (os : List LObj) (L U : Nat) (left : Int) (w : World) (h0 : 0 ≤ left) (h1 : left ≤ 1048576) (hU : U ≤ w.heap.size) (H : ObjsAt w L U a n os) :
    Calls Tryz.prog 75 #[.agg #[.slice a n c],.int .i64 left] w fun e w'=>(∃ r : Int,e = .returned (.int .i64 r) ∧ (r = -1 ∨ (0 ≤ r ∧ r ≤ left ∧ os.length ≤ 1048576 ∧ Sizes os 1048576))) ∧ Below w.heap.size w w' :=
  (szTree_any a n c os L U left w h0 h1 hU H).mono fun e w' ⟨⟨r,h,h2⟩,hb⟩=>⟨⟨r,h,by
    rcases h2 with h2 | h2
    · exact .inl h2
    · have hl:=H.len
      refine .inr ⟨h2.1,by omega,by omega,fun o ho=>?_⟩
      have : totO o ≤ totT os:=totO_le ho
      unfold totO at this
      omega⟩,hb⟩
set_option maxHeartbeats 1000000 in
theorem szKeep_any (q s : Int) (a : Option Addr) (n c : Nat) (b : Bool) (a1 : Option Addr) (n1 c1 : Nat) (a2 : Option Addr) (n2 c2 : Nat) (a3 : Option Addr) (n3 c3 : Nat) (k : LKeep) (L U : Nat) (left : Int) (w : World) (h0 : 0 ≤ left) (h1 : left ≤ 1048576) (hU : U ≤ w.heap.size) (H : KeepAt w L U q s a n b a1 n1 a2 n2 a3 n3 k) :
    Calls Tryz.prog 29 #[.agg #[.int .i64 q,.int .i64 s,.slice a n c,.bool b,.slice a1 n1 c1,.slice a2 n2 c2,.slice a3 n3 c3],.int .i64 left] w fun e w'=>(∃ r : Int,e = .returned (.int .i64 r) ∧ (r = -1 ∨ (0 ≤ r ∧ r ≤ left ∧ KeepSm k))) ∧ Below w.heap.size w w':=by
  have H0:=H.base
  have H1:=H.sent
  have H2:=H.list
  have H3:=H.shelf
  clear H
  go_enter Tryz.func29,Tryz.ntmps29
  go_wp2_with fail
  have hA : Below w.heap.size w (w.alloc (Obj.cells #[.int .i64 q,.int .i64 s,.slice a n c,.bool b,.slice a1 n1 c1,.slice a2 n2 c2,.slice a3 n3 c3] 63)):=(Below.refl _ _).alloc (Nat.le_refl _) _
  refine (szTreeE _ _ _ _ L U _ _ h0 h1 (by have:=hA.size; omega) (H0.below hA hU)).mono ?_
  rintro x w1 ⟨⟨r,rfl,hr⟩,hb⟩
  have HR : Hid (r = -1 ∨ 0 ≤ r ∧ r ≤ left ∧ k.base.length ≤ 1048576 ∧ Sizes k.base 1048576):=hr
  clear hr
  have hb1 : Below w.heap.size w w1:=hA.trans (hb.mono (by simp))
  have g4 : w1.cell? ⟨w.heap.size,4,none⟩ = some (.slice a1 n1 c1):=by rw [hb.cell (by simp)]; simp [go_sem]
  have g5 : w1.cell? ⟨w.heap.size,5,none⟩ = some (.slice a2 n2 c2):=by rw [hb.cell (by simp)]; simp [go_sem]
  have g6 : w1.cell? ⟨w.heap.size,6,none⟩ = some (.slice a3 n3 c3):=by rw [hb.cell (by simp)]; simp [go_sem]
  have hz : w.heap.size + 1 ≤ w1.heap.size:=by have:=hb.size; simp at this; omega
  clear hA hb
  by_cases hneg : r < 0
  · go_wp2_with fail
    go_ret
    exact ⟨⟨-1,rfl,.inl rfl⟩,hb1⟩
  go_wp2_with fail
  refine (szOpsE _ _ _ _ L U _ _ (by omega) (by have:=HR.out; omega) (by have:=hb1.size; omega) (H1.below hb1 hU)).mono ?_
  rintro x w2 ⟨⟨r2,rfl,hr2⟩,hb2⟩
  have HR2 : Hid (r2 = -1 ∨ 0 ≤ r2 ∧ r2 ≤ r ∧ OpsSm k.sent):=hr2
  clear hr2
  have hB2 : Below w.heap.size w w2:=hb1.trans (hb2.mono hb1.size)
  rw [← hb2.cell (by simp; omega)] at g5 g6
  have hz2 : w.heap.size + 1 ≤ w2.heap.size:=by have:=hb2.size; omega
  clear hb1 hb2 g4
  by_cases hneg2 : r2 < 0
  · go_wp2_with fail
    go_ret
    exact ⟨⟨-1,rfl,.inl rfl⟩,hB2⟩
  go_wp2_with fail
  refine (szOpsE _ _ _ _ L U _ _ (by omega) (by have:=HR.out; have:=HR2.out; omega) (by have:=hB2.size; omega) (H2.below hB2 hU)).mono ?_
  rintro x w3 ⟨⟨r3,rfl,hr3⟩,hb3⟩
  have HR3 : Hid (r3 = -1 ∨ 0 ≤ r3 ∧ r3 ≤ r2 ∧ OpsSm k.list):=hr3
  clear hr3
  have hB3 : Below w.heap.size w w3:=hB2.trans (hb3.mono hB2.size)
  rw [← hb3.cell (by simp; omega)] at g6
  clear hB2 hb3 g5
  by_cases hneg3 : r3 < 0
  · go_wp2_with fail
    go_ret
    exact ⟨⟨-1,rfl,.inl rfl⟩,hB3⟩
  go_wp2_with fail
  refine (szOpSS_any _ _ _ _ L U _ _ (by omega) (by have:=HR.out; have:=HR2.out; have:=HR3.out; omega) (by have:=hB3.size; omega) (H3.below eltOps hB3 hU)).mono ?_
  rintro x w4 ⟨⟨r4,rfl,hr4⟩,hb4⟩
  have HR4 : Hid (r4 = -1 ∨ 0 ≤ r4 ∧ r4 ≤ r3 ∧ n3 ≤ 1048576 ∧ ∀ x ∈ k.shelf,OpsSm x):=hr4
  clear hr4
  have hB4 : Below w.heap.size w w4:=hB3.trans (hb4.mono hB3.size)
  clear hB3 hb4 g6
  by_cases hneg4 : r4 < 0
  · go_wp2_with fail
    go_ret
    exact ⟨⟨-1,rfl,.inl rfl⟩,hB4⟩
  go_wp2_with fail
  go_ret
  refine ⟨⟨r4,rfl,.inr ?_⟩,hB4⟩
  have q1:=HR.out.resolve_left (by omega)
  have q2:=HR2.out.resolve_left (by omega)
  have q3:=HR3.out.resolve_left (by omega)
  have q4:=HR4.out.resolve_left (by omega)
  exact ⟨by omega,by omega,q1.2.2.1,q1.2.2.2,q2.2.2,q3.2.2,by have:=H3.len; omega,q4.2.2.2⟩
set_option maxHeartbeats 1000000 in
theorem szKeepS_any (a : Option Addr) (n c : Nat) (xs : List LKeep) (L U : Nat) (left : Int) (w : World) (h0 : 0 ≤ left) (h1 : left ≤ 1048576) (hU : U ≤ w.heap.size) (H : RowsAt 7 KeepE w L U a n xs) :
    Calls Tryz.prog 59 #[.slice a n c,.int .i64 left] w fun e w'=>(∃ r : Int,e = .returned (.int .i64 r) ∧ (r = -1 ∨ (0 ≤ r ∧ r ≤ left ∧ n ≤ 1048576 ∧ ∀ x ∈ xs,KeepSm x))) ∧ Below w.heap.size w w':=by
  have hbd:=H.bd
  unfold maxLen at hbd
  by_cases h : left - n < 0
  · go_enter Tryz.func59,Tryz.ntmps59
    go_wp2
    go_ret
    exact ⟨⟨-1,rfl,.inl rfl⟩,Below.refl _ _⟩
  · go_enter Tryz.func59,Tryz.ntmps59
    go_wp2
    go_loopg [1,5] n (fun k l i wr=>∃ j : Nat,j ≤ n ∧ Hid (k = n - j) ∧ i = .int .i64 j ∧ (∃ r : Int,l = .int .i64 r ∧ 0 ≤ r ∧ r ≤ 1048576 ∧ Hid (r ≤ left) ∧ Hid (∀ x ∈ xs.take j,KeepSm x)) ∧ Below w.heap.size w wr)
    case atStart=>exact ⟨0,Nat.zero_le _,by show _ = _; omega,rfl,⟨_,rfl,by omega,by omega,by show _ ≤ _; omega,by show ∀ _,_; simp⟩,Below.refl _ _⟩
    case round =>
      obtain ⟨j,hj,hk,rfl,⟨r,rfl,hr0,hr1,hrl,hsm⟩,hb⟩:=hrel
      by_cases hlt : j < n
      · obtain ⟨b,off,ha,hL,hbU,hc⟩:=H.at_ (by omega)
        subst ha
        obtain ⟨x,vs,he,hc,hE⟩:=hc j hlt
        have HE : Hid (xs[j]? = some x):=he
        clear he
        obtain ⟨q,s,a1,n1,c1',b1,a2,n2,c2',a3,n3,c3',a4,n4,c4',rfl,hK⟩:=hE
        have c0:=hc 0 _ rfl
        have c1:=hc 1 _ rfl
        have c2:=hc 2 _ rfl
        have c3:=hc 3 _ rfl
        have c4:=hc 4 _ rfl
        have c5:=hc 5 _ rfl
        have c6:=hc 6 _ rfl
        simp only [Nat.add_zero] at c0
        rw [← hb.cell (by simp; omega)] at c0 c1 c2 c3 c4 c5 c6
        clear hc
        go_wp2_with fail
        refine (szKeep_any _ _ _ _ _ _ _ _ _ _ _ _ _ _ _ _ L U _ _ hr0 hr1 (by have:=hb.size; omega) (hK.below hb hU)).mono ?_
        rintro y w1 ⟨⟨r1,rfl,hr1'⟩,hb1⟩
        have HR : Hid (r1 = -1 ∨ 0 ≤ r1 ∧ r1 ≤ r ∧ KeepSm x):=hr1'
        clear hr1'
        by_cases hneg : r1 < 0
        · go_wp2_with fail
          go_ret
          exact ⟨⟨-1,rfl,.inl rfl⟩,hb.trans (hb1.mono hb.size)⟩
        · go_wp2_with fail
          go_roundg (n - (j + 1))
          case measure=>have:=hk.out; omega
          case rel =>
            have h2:=HR.out
            have h4:=hrl.out
            refine ⟨j + 1,by omega,rfl,by go_num,⟨r1,rfl,by omega,by omega,by show _ ≤ _; omega,?_⟩,hb.trans (hb1.mono hb.size)⟩
            show ∀ z ∈ xs.take (j + 1),KeepSm z
            intro z hz
            have hjl : j < xs.length:=(List.getElem?_eq_some_iff.1 HE.out).1
            rw [List.take_succ_eq_append_getElem hjl] at hz
            rcases List.mem_append.1 hz with hz | hz
            · exact hsm.out z hz
            · obtain rfl : z = xs[j]:=by simpa using hz
              have e : xs[j] = x:=(List.getElem?_eq_some_iff.1 HE.out).2
              rw [e]
              rcases h2 with h2 | h2
              · omega
              · exact h2.2.2
      · go_wp2_with fail
        go_ret
        have h4:=hrl.out
        have h5:=hsm.out
        rw [List.take_of_length_le (by have:=H.len; omega)] at h5
        exact ⟨⟨r,rfl,.inr ⟨hr0,h4,by omega,h5⟩⟩,hb⟩
structure LogSm (l : LLog) : Prop where
  bases : l.bases.length ≤ 1048576
  list : l.list.length ≤ 1048576
theorem szLogE (q s : Int) (a : Option Addr) (n c : Nat) (a' : Option Addr) (n' c' : Nat) (l : LLog) (L U : Nat) (left : Int) (w : World) (h0 : 0 ≤ left) (h1 : left ≤ 1048576) (hU : U ≤ w.heap.size) (H : LogAt w L U q s a n a' n' l) :
    Calls Tryz.prog 42 #[.agg #[.int .i64 q,.int .i64 s,.slice a n c,.slice a' n' c'],.int .i64 left] w fun e w'=>(∃ r : Int,e = .returned (.int .i64 r) ∧ (r = -1 ∨ (0 ≤ r ∧ r ≤ left ∧ LogSm l))) ∧ Below w.heap.size w w' :=
  (szLog_any q s a n c a' n' c' l L U left w h0 h1 hU H).mono fun e w' ⟨⟨r,h,h2⟩,hb⟩=>⟨⟨r,h,by
    rcases h2 with h2 | h2
    · exact .inl h2
    · have:=H.b.len
      have:=H.o.len
      exact .inr ⟨h2.1,by omega,by omega,by omega⟩⟩,hb⟩
set_option maxHeartbeats 1000000 in
theorem szLogS_any (a : Option Addr) (n c : Nat) (xs : List LLog) (L U : Nat) (left : Int) (w : World) (h0 : 0 ≤ left) (h1 : left ≤ 1048576) (hU : U ≤ w.heap.size) (H : RowsAt 4 LogE w L U a n xs) :
    Calls Tryz.prog 11 #[.slice a n c,.int .i64 left] w fun e w'=>(∃ r : Int,e = .returned (.int .i64 r) ∧ (r = -1 ∨ (0 ≤ r ∧ r ≤ left ∧ n ≤ 1048576 ∧ ∀ x ∈ xs,LogSm x))) ∧ Below w.heap.size w w':=by
  have hbd:=H.bd
  unfold maxLen at hbd
  by_cases h : left - n < 0
  · go_enter Tryz.func11,Tryz.ntmps11
    go_wp2
    go_ret
    exact ⟨⟨-1,rfl,.inl rfl⟩,Below.refl _ _⟩
  · go_enter Tryz.func11,Tryz.ntmps11
    go_wp2
    go_loopg [1,5] n (fun k l i wr=>∃ j : Nat,j ≤ n ∧ Hid (k = n - j) ∧ i = .int .i64 j ∧ (∃ r : Int,l = .int .i64 r ∧ 0 ≤ r ∧ r ≤ 1048576 ∧ Hid (r ≤ left) ∧ Hid (∀ x ∈ xs.take j,LogSm x)) ∧ Below w.heap.size w wr)
    case atStart=>exact ⟨0,Nat.zero_le _,by show _ = _; omega,rfl,⟨_,rfl,by omega,by omega,by show _ ≤ _; omega,by show ∀ _,_; simp⟩,Below.refl _ _⟩
    case round =>
      obtain ⟨j,hj,hk,rfl,⟨r,rfl,hr0,hr1,hrl,hsm⟩,hb⟩:=hrel
      by_cases hlt : j < n
      · obtain ⟨b,off,ha,hL,hbU,hc⟩:=H.at_ (by omega)
        subst ha
        obtain ⟨x,vs,he,hc,hE⟩:=hc j hlt
        have HE : Hid (xs[j]? = some x):=he
        clear he
        obtain ⟨q,s,a1,n1,c1',a2,n2,c2',rfl,hcp,hL4⟩:=hE
        have c0:=hc 0 _ rfl
        have c1:=hc 1 _ rfl
        have c2:=hc 2 _ rfl
        have c3:=hc 3 _ rfl
        simp only [Nat.add_zero] at c0
        rw [← hb.cell (by simp; omega)] at c0 c1 c2 c3
        clear hc
        go_wp2_with fail
        refine (szLogE _ _ _ _ _ _ _ _ _ L U _ _ hr0 hr1 (by have:=hb.size; omega) (hL4.below hb hU)).mono ?_
        rintro y w1 ⟨⟨r1,rfl,hr1'⟩,hb1⟩
        have HR : Hid (r1 = -1 ∨ 0 ≤ r1 ∧ r1 ≤ r ∧ LogSm x):=hr1'
        clear hr1'
        by_cases hneg : r1 < 0
        · go_wp2_with fail
          go_ret
          exact ⟨⟨-1,rfl,.inl rfl⟩,hb.trans (hb1.mono hb.size)⟩
        · go_wp2_with fail
          go_roundg (n - (j + 1))
          case measure=>have:=hk.out; omega
          case rel =>
            have h2:=HR.out
            have h4:=hrl.out
            refine ⟨j + 1,by omega,rfl,by go_num,⟨r1,rfl,by omega,by omega,by show _ ≤ _; omega,?_⟩,hb.trans (hb1.mono hb.size)⟩
            show ∀ z ∈ xs.take (j + 1),LogSm z
            intro z hz
            have hjl : j < xs.length:=(List.getElem?_eq_some_iff.1 HE.out).1
            rw [List.take_succ_eq_append_getElem hjl] at hz
            rcases List.mem_append.1 hz with hz | hz
            · exact hsm.out z hz
            · obtain rfl : z = xs[j]:=by simpa using hz
              have e : xs[j] = x:=(List.getElem?_eq_some_iff.1 HE.out).2
              rw [e]
              rcases h2 with h2 | h2
              · omega
              · exact h2.2.2
      · go_wp2_with fail
        go_ret
        have h4:=hrl.out
        have h5:=hsm.out
        rw [List.take_of_length_le (by have:=H.len; omega)] at h5
        exact ⟨⟨r,rfl,.inr ⟨hr0,h4,by omega,h5⟩⟩,hb⟩
structure MsgSm (m : LMsg) : Prop where
  log : LogSm m.log
  n : m.tree.length ≤ 1048576
  tree : Sizes m.tree 1048576
theorem szMsgE (k who seq q s : Int) (ba : Option Addr) (bn bc : Nat) (oa : Option Addr) (on oc : Nat) (code : Int) (ta : Option Addr) (tn tc : Nat) (m : LMsg) (L U : Nat) (left : Int) (w : World) (h0 : 0 ≤ left) (h1 : left ≤ 1048576) (hU : U ≤ w.heap.size) (H : MsgAt w L U q s ba bn oa on ta tn m.log m.tree) :
    Calls Tryz.prog 127 #[.agg #[.int .i64 k,.int .i64 who,.int .i64 seq,.int .i64 q,.int .i64 s,.slice ba bn bc,.slice oa on oc,.int .i64 code,.slice ta tn tc],.int .i64 left] w fun e w'=>(∃ r : Int,e = .returned (.int .i64 r) ∧ (r = -1 ∨ (0 ≤ r ∧ r ≤ left ∧ MsgSm m))) ∧ Below w.heap.size w w' :=
  (szMsg_any k who seq q s ba bn bc oa on oc code ta tn tc m.log m.tree L U left w h0 h1 hU H).mono fun e w' ⟨⟨r,h,h2⟩,hb⟩=>⟨⟨r,h,by
    rcases h2 with h2 | h2
    · exact .inl h2
    · have hl1:=H.log.b.len
      have hl2:=H.log.o.len
      have hl3:=H.tree.len
      refine .inr ⟨h2.1,by omega,⟨by omega,by omega⟩,by omega,fun o ho=>?_⟩
      have : totO o ≤ totT m.tree:=totO_le ho
      unfold totO at this
      omega⟩,hb⟩
set_option maxHeartbeats 1000000 in
theorem szMsgS_any (a : Option Addr) (n c : Nat) (xs : List LMsg) (L U : Nat) (left : Int) (w : World) (h0 : 0 ≤ left) (h1 : left ≤ 1048576) (hU : U ≤ w.heap.size) (H : RowsAt 9 MsgE w L U a n xs) :
    Calls Tryz.prog 60 #[.slice a n c,.int .i64 left] w fun e w'=>(∃ r : Int,e = .returned (.int .i64 r) ∧ (r = -1 ∨ (0 ≤ r ∧ r ≤ left ∧ n ≤ 1048576 ∧ ∀ x ∈ xs,MsgSm x))) ∧ Below w.heap.size w w':=by
  have hbd:=H.bd
  unfold maxLen at hbd
  by_cases h : left - n < 0
  · go_enter Tryz.func60,Tryz.ntmps60
    go_wp2
    go_ret
    exact ⟨⟨-1,rfl,.inl rfl⟩,Below.refl _ _⟩
  · go_enter Tryz.func60,Tryz.ntmps60
    go_wp2
    go_loopg [1,5] n (fun k l i wr=>∃ j : Nat,j ≤ n ∧ Hid (k = n - j) ∧ i = .int .i64 j ∧ (∃ r : Int,l = .int .i64 r ∧ 0 ≤ r ∧ r ≤ 1048576 ∧ Hid (r ≤ left) ∧ Hid (∀ x ∈ xs.take j,MsgSm x)) ∧ Below w.heap.size w wr)
    case atStart=>exact ⟨0,Nat.zero_le _,by show _ = _; omega,rfl,⟨_,rfl,by omega,by omega,by show _ ≤ _; omega,by show ∀ _,_; simp⟩,Below.refl _ _⟩
    case round =>
      obtain ⟨j,hj,hk,rfl,⟨r,rfl,hr0,hr1,hrl,hsm⟩,hb⟩:=hrel
      by_cases hlt : j < n
      · obtain ⟨b,off,ha,hL,hbU,hc⟩:=H.at_ (by omega)
        subst ha
        obtain ⟨x,vs,he,hc,hE⟩:=hc j hlt
        have HE : Hid (xs[j]? = some x):=he
        clear he
        obtain ⟨q,s,ba,bn,bc,oa,on,oc,ta,tn,tc,rfl,hcp,hM⟩:=hE
        have c0:=hc 0 _ rfl
        have c1:=hc 1 _ rfl
        have c2:=hc 2 _ rfl
        have c3:=hc 3 _ rfl
        have c4:=hc 4 _ rfl
        have c5:=hc 5 _ rfl
        have c6:=hc 6 _ rfl
        have c7:=hc 7 _ rfl
        have c8:=hc 8 _ rfl
        simp only [Nat.add_zero] at c0
        rw [← hb.cell (by simp; omega)] at c0 c1 c2 c3 c4 c5 c6 c7 c8
        clear hc
        go_wp2_with fail
        refine (szMsgE _ _ _ _ _ _ _ _ _ _ _ _ _ _ _ _ L U _ _ hr0 hr1 (by have:=hb.size; omega) (hM.below hb hU)).mono ?_
        rintro y w1 ⟨⟨r1,rfl,hr1'⟩,hb1⟩
        have HR : Hid (r1 = -1 ∨ 0 ≤ r1 ∧ r1 ≤ r ∧ MsgSm x):=hr1'
        clear hr1'
        by_cases hneg : r1 < 0
        · go_wp2_with fail
          go_ret
          exact ⟨⟨-1,rfl,.inl rfl⟩,hb.trans (hb1.mono hb.size)⟩
        · go_wp2_with fail
          go_roundg (n - (j + 1))
          case measure=>have:=hk.out; omega
          case rel =>
            have h2:=HR.out
            have h4:=hrl.out
            refine ⟨j + 1,by omega,rfl,by go_num,⟨r1,rfl,by omega,by omega,by show _ ≤ _; omega,?_⟩,hb.trans (hb1.mono hb.size)⟩
            show ∀ z ∈ xs.take (j + 1),MsgSm z
            intro z hz
            have hjl : j < xs.length:=(List.getElem?_eq_some_iff.1 HE.out).1
            rw [List.take_succ_eq_append_getElem hjl] at hz
            rcases List.mem_append.1 hz with hz | hz
            · exact hsm.out z hz
            · obtain rfl : z = xs[j]:=by simpa using hz
              have e : xs[j] = x:=(List.getElem?_eq_some_iff.1 HE.out).2
              rw [e]
              rcases h2 with h2 | h2
              · omega
              · exact h2.2.2
      · go_wp2_with fail
        go_ret
        have h4:=hrl.out
        have h5:=hsm.out
        rw [List.take_of_length_le (by have:=H.len; omega)] at h5
        exact ⟨⟨r,rfl,.inr ⟨hr0,h4,by omega,h5⟩⟩,hb⟩
theorem szToldS_any (a : Option Addr) (n c : Nat) (es : List LTold) (L U : Nat) (left : Int) (w : World) (h0 : 0 ≤ left) (h1 : left ≤ 1048576) (H : RowsAt 3 ToldE w L U a n es) :
    Calls Tryz.prog 61 #[.slice a n c,.int .i64 left] w fun e w'=>(∃ r : Int,e = .returned (.int .i64 r) ∧ (r = -1 ∨ (0 ≤ r ∧ r ≤ left ∧ n ≤ 1048576))) ∧ Below w.heap.size w w':=by
  have hbd:=H.bd
  unfold maxLen at hbd
  by_cases h : left - n < 0
  · go_enter Tryz.func61,Tryz.ntmps61
    go_wp2
    go_ret
    exact ⟨⟨-1,rfl,.inl rfl⟩,Below.refl _ _⟩
  · go_enter Tryz.func61,Tryz.ntmps61
    go_wp2
    go_ret
    exact ⟨⟨_,rfl,.inr ⟨by omega,by omega,by omega⟩⟩,Below.refl _ _⟩
structure WorldSm (x : LWorld) : Prop where
  n : x.tree.length ≤ 1048576
  tree : Sizes x.tree 1048576
  dones : x.dones.length ≤ 1048576
  nk : x.keeps.length ≤ 1048576
  keeps : ∀ k ∈ x.keeps,KeepSm k
  nn : x.net.length ≤ 1048576
  net : ∀ k ∈ x.net,MsgSm k
  np : x.past.length ≤ 1048576
  past : ∀ k ∈ x.past,LogSm k
  told : x.told.length ≤ 1048576
theorem szShopE (a : Option Addr) (n c : Nat) (os : List LObj) (a' : Option Addr) (n' c' : Nat) (ds : List LDone) (L U : Nat) (left : Int) (w : World) (h0 : 0 ≤ left) (h1 : left ≤ 1048576) (hU : U ≤ w.heap.size) (HO : ObjsAt w L U a n os) (HD : DonesAt w L U a' n' ds) :
    Calls Tryz.prog 58 #[.agg #[.slice a n c,.slice a' n' c'],.int .i64 left] w fun e w'=>(∃ r : Int,e = .returned (.int .i64 r) ∧ (r = -1 ∨ (0 ≤ r ∧ r ≤ left ∧ os.length ≤ 1048576 ∧ Sizes os 1048576 ∧ ds.length ≤ 1048576))) ∧ Below w.heap.size w w' :=
  (szShop_any a n c os a' n' c' ds L U left w h0 h1 hU HO HD).mono fun e w' ⟨⟨r,h,h2⟩,hb⟩=>⟨⟨r,h,by
    rcases h2 with h2 | h2
    · exact .inl h2
    · have hl:=HO.len
      have hl2:=HD.len
      refine .inr ⟨h2.1,by omega,by omega,fun o ho=>?_,by omega⟩
      have : totO o ≤ totT os:=totO_le ho
      unfold totO at this
      omega⟩,hb⟩
set_option maxHeartbeats 1000000 in
theorem szWorld_any (a0 : Option Addr) (n0 c0 : Nat) (a1 : Option Addr) (n1 c1 : Nat) (a2 : Option Addr) (n2 c2 : Nat) (a3 : Option Addr) (n3 c3 : Nat) (a4 : Option Addr) (n4 c4 : Nat) (a5 : Option Addr) (n5 c5 : Nat) (x : LWorld) (L U : Nat) (left : Int) (w : World) (h0 : 0 ≤ left) (h1 : left ≤ 1048576) (hU : U ≤ w.heap.size) (H : WorldAt w L U a0 n0 a1 n1 a2 n2 a3 n3 a4 n4 a5 n5 x) :
    Calls Tryz.prog 20 #[.agg #[.slice a0 n0 c0,.slice a1 n1 c1,.slice a2 n2 c2,.slice a3 n3 c3,.slice a4 n4 c4,.slice a5 n5 c5],.int .i64 left] w fun e w'=>(∃ r : Int,e = .returned (.int .i64 r) ∧ (r = -1 ∨ (0 ≤ r ∧ r ≤ left ∧ WorldSm x))) ∧ Below w.heap.size w w':=by
  go_enter Tryz.func20,Tryz.ntmps20
  go_wp2_with fail
  have hA : Below w.heap.size w (w.alloc (Obj.cells #[.slice a0 n0 c0,.slice a1 n1 c1,.slice a2 n2 c2,.slice a3 n3 c3,.slice a4 n4 c4,.slice a5 n5 c5] 46)):=(Below.refl _ _).alloc (Nat.le_refl _) _
  refine (szShopE _ _ _ _ _ _ _ _ L U _ _ h0 h1 (by have:=hA.size; omega) (H.tree.below hA hU) (H.dones.below hA hU)).mono ?_
  rintro e w1 ⟨⟨r,rfl,hr⟩,hb⟩
  have HR : Hid (r = -1 ∨ 0 ≤ r ∧ r ≤ left ∧ x.tree.length ≤ 1048576 ∧ Sizes x.tree 1048576 ∧ x.dones.length ≤ 1048576):=hr
  clear hr
  have hb1 : Below w.heap.size w w1:=hA.trans (hb.mono (by simp))
  have g2 : w1.cell? ⟨w.heap.size,2,none⟩ = some (.slice a2 n2 c2):=by rw [hb.cell (by simp)]; simp [go_sem]
  have g3 : w1.cell? ⟨w.heap.size,3,none⟩ = some (.slice a3 n3 c3):=by rw [hb.cell (by simp)]; simp [go_sem]
  have g4 : w1.cell? ⟨w.heap.size,4,none⟩ = some (.slice a4 n4 c4):=by rw [hb.cell (by simp)]; simp [go_sem]
  have g5 : w1.cell? ⟨w.heap.size,5,none⟩ = some (.slice a5 n5 c5):=by rw [hb.cell (by simp)]; simp [go_sem]
  have hz : w.heap.size + 1 ≤ w1.heap.size:=by have:=hb.size; simp at this; omega
  clear hA hb
  by_cases hneg : r < 0
  · go_wp2_with fail
    go_ret
    exact ⟨⟨-1,rfl,.inl rfl⟩,hb1⟩
  go_wp2_with fail
  refine (szKeepS_any _ _ _ _ L U _ _ (by omega) (by have:=HR.out; omega) (by have:=hb1.size; omega) (H.keeps.below eltKeep hb1 hU)).mono ?_
  rintro e w2 ⟨⟨r2,rfl,hr2⟩,hb2⟩
  have HR2 : Hid (r2 = -1 ∨ 0 ≤ r2 ∧ r2 ≤ r ∧ n2 ≤ 1048576 ∧ ∀ k ∈ x.keeps,KeepSm k):=hr2
  clear hr2
  have hB2 : Below w.heap.size w w2:=hb1.trans (hb2.mono hb1.size)
  rw [← hb2.cell (by simp; omega)] at g3 g4 g5
  have hz2 : w.heap.size + 1 ≤ w2.heap.size:=by have:=hb2.size; omega
  clear hb1 hb2 g2
  by_cases hneg2 : r2 < 0
  · go_wp2_with fail
    go_ret
    exact ⟨⟨-1,rfl,.inl rfl⟩,hB2⟩
  go_wp2_with fail
  refine (szMsgS_any _ _ _ _ L U _ _ (by omega) (by have:=HR.out; have:=HR2.out; omega) (by have:=hB2.size; omega) (H.net.below eltMsg hB2 hU)).mono ?_
  rintro e w3 ⟨⟨r3,rfl,hr3⟩,hb3⟩
  have HR3 : Hid (r3 = -1 ∨ 0 ≤ r3 ∧ r3 ≤ r2 ∧ n3 ≤ 1048576 ∧ ∀ k ∈ x.net,MsgSm k):=hr3
  clear hr3
  have hB3 : Below w.heap.size w w3:=hB2.trans (hb3.mono hB2.size)
  rw [← hb3.cell (by simp; omega)] at g4 g5
  have hz3 : w.heap.size + 1 ≤ w3.heap.size:=by have:=hb3.size; omega
  clear hB2 hb3 g3
  by_cases hneg3 : r3 < 0
  · go_wp2_with fail
    go_ret
    exact ⟨⟨-1,rfl,.inl rfl⟩,hB3⟩
  go_wp2_with fail
  refine (szLogS_any _ _ _ _ L U _ _ (by omega) (by have:=HR.out; have:=HR2.out; have:=HR3.out; omega) (by have:=hB3.size; omega) (H.past.below eltLog hB3 hU)).mono ?_
  rintro e w4 ⟨⟨r4,rfl,hr4⟩,hb4⟩
  have HR4 : Hid (r4 = -1 ∨ 0 ≤ r4 ∧ r4 ≤ r3 ∧ n4 ≤ 1048576 ∧ ∀ k ∈ x.past,LogSm k):=hr4
  clear hr4
  have hB4 : Below w.heap.size w w4:=hB3.trans (hb4.mono hB3.size)
  rw [← hb4.cell (by simp; omega)] at g5
  clear hB3 hb4 g4
  by_cases hneg4 : r4 < 0
  · go_wp2_with fail
    go_ret
    exact ⟨⟨-1,rfl,.inl rfl⟩,hB4⟩
  go_wp2_with fail
  refine (szToldS_any _ _ _ _ L U _ _ (by omega) (by have:=HR.out; have:=HR2.out; have:=HR3.out; have:=HR4.out; omega) (H.told.below eltTold hB4 hU)).mono ?_
  rintro e w5 ⟨⟨r5,rfl,hr5⟩,hb5⟩
  have HR5 : Hid (r5 = -1 ∨ 0 ≤ r5 ∧ r5 ≤ r4 ∧ n5 ≤ 1048576):=hr5
  clear hr5
  have hB5 : Below w.heap.size w w5:=hB4.trans (hb5.mono hB4.size)
  clear hB4 hb5 g5
  by_cases hneg5 : r5 < 0
  · go_wp2_with fail
    go_ret
    exact ⟨⟨-1,rfl,.inl rfl⟩,hB5⟩
  go_wp2_with fail
  go_ret
  refine ⟨⟨r5,rfl,.inr ?_⟩,hB5⟩
  have q1:=HR.out.resolve_left (by omega)
  have q2:=HR2.out.resolve_left (by omega)
  have q3:=HR3.out.resolve_left (by omega)
  have q4:=HR4.out.resolve_left (by omega)
  have q5:=HR5.out.resolve_left (by omega)
  have l2:=H.keeps.len
  have l3:=H.net.len
  have l4:=H.past.len
  have l5:=H.told.len
  exact ⟨by omega,by omega,q1.2.2.1,q1.2.2.2.1,q1.2.2.2.2,by omega,q2.2.2.2,by omega,q3.2.2.2,by omega,q4.2.2.2,by omega⟩
end Go.Proofs.YtloopeipheklpaaGreatDoor
