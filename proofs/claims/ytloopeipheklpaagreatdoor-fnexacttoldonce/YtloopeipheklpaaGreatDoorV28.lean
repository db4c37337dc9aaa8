/- Lemmas that the proofs of this seat share: OnceI, OnceS. -/
import Derived.Test.YtloopeipheklpaaGreatDoorV25
import Derived.Test.YtloopeipheklpaaGreatDoorV26
namespace Go.Proofs.YtloopeipheklpaaGreatDoor
section
open Go.RowKit Go.ChangeShapes Go.WideShapes
def OnceTo (p : List LLog) (n : Nat) : Prop:=∀ i k a b,i < n → k < i → p[k]? = some a → p[i]? = some b → a.who = b.who → a.seq < b.seq
noncomputable def onceB (p : List LLog) : Bool:=@decide (OnceTo p p.length) (Classical.propDecidable _)
noncomputable def toldOnce (x : LWorld) : Bool:=onceB x.past && worldOk x
theorem once_true {p : List LLog} {n : Nat} (hn : n = p.length) (h : OnceTo p n) : onceB p = true:=by
  unfold onceB; subst hn; exact @decide_eq_true _ (Classical.propDecidable _) h
theorem once_false {p : List LLog} {i k : Nat} {a b : LLog} (hk : k < i) (ha : p[k]? = some a) (hb : p[i]? = some b) (hw : a.who = b.who) (hs : b.seq ≤ a.seq) : onceB p = false:=by
  unfold onceB
  refine @decide_eq_false _ (Classical.propDecidable _) fun h => ?_
  have:=h i k a b (List.getElem?_eq_some_iff.1 hb).1 hk ha hb hw
  omega
theorem once_step {p : List LLog} {j : Nat} {b : LLog} (h : OnceTo p j) (hb : p[j]? = some b) (hj : ∀ k a,k < j → p[k]? = some a → a.who = b.who → a.seq < b.seq) : OnceTo p (j + 1):=by
  intro i k a c hi hk ha hc hw
  by_cases e : i = j
  · subst e
    rw [hb] at hc
    cases hc
    exact hj k a hk ha hw
  · exact h i k a c (by omega) hk ha hc hw
def LastOf (p : List LLog) (j : Nat) (c l : Int) : Prop:=(l = 0 ∨ ∃ k a,k < j ∧ p[k]? = some a ∧ a.who = c ∧ a.seq = l) ∧ ∀ k a,k < j → p[k]? = some a → a.who = c → a.seq ≤ l
theorem LastOf.other {p : List LLog} {j : Nat} {c l : Int} {b : LLog} (h : LastOf p j c l) (hb : p[j]? = some b) (hw : b.who ≠ c) : LastOf p (j + 1) c l:=by
  refine ⟨?_,fun k a hk ha hc => ?_⟩
  · rcases h.1 with h | ⟨k,a,hk,h⟩
    · exact .inl h
    · exact .inr ⟨k,a,by omega,h⟩
  · by_cases e : k = j
    · subst e; rw [hb] at ha; cases ha; exact absurd hc hw
    · exact h.2 k a (by omega) ha hc
theorem LastOf.new {p : List LLog} {j : Nat} {c l : Int} {b : LLog} (h : LastOf p j c l) (hb : p[j]? = some b) (hw : b.who = c) (hs : l < b.seq) : LastOf p (j + 1) c b.seq:=by
  refine ⟨.inr ⟨j,b,by omega,hb,hw,rfl⟩,fun k a hk ha hc => ?_⟩
  by_cases e : k = j
  · subst e; rw [hb] at ha; cases ha; exact Int.le_refl _
  · have:=h.2 k a (by omega) ha hc; omega
theorem LastOf.bad {p : List LLog} {j : Nat} {c l : Int} {b : LLog} (h : LastOf p j c l) (hb : p[j]? = some b) (hw : b.who = c) (h1 : 1 ≤ b.seq) (hs : b.seq ≤ l) : onceB p = false:=by
  rcases h.1 with h | ⟨k,a,hk,ha,hc,e⟩
  · omega
  · exact once_false hk ha hb (by rw [hc,hw]) (by omega)
theorem past_who {x : LWorld} (h : worldOk x = true) {j : Nat} {l : LLog} (hl : x.past[j]? = some l) : (l.who = 0 ∨ l.who = 1 ∨ l.who = 2) ∧ 1 ≤ l.seq:=by
  unfold worldOk at h
  simp only [Bool.and_eq_true] at h
  have h1:=List.all_eq_true.1 h.1.2.2 l (List.mem_of_getElem? hl)
  unfold logOk whoB at h1
  simp only [Bool.and_eq_true,decide_eq_true_eq] at h1
  omega
set_option maxHeartbeats 8000000 in
set_option maxRecDepth 20000 in
theorem implToldOnce (sn : Nat → Addr) (S0 : Nat) (a0 : Option Addr) (n0 c0 : Nat) (a1 : Option Addr) (n1 c1 : Nat) (a2 : Option Addr) (n2 c2 : Nat) (a3 : Option Addr) (n3 c3 : Nat) (a4 : Option Addr) (n4 c4 : Nat) (a5 : Option Addr) (n5 c5 : Nat) (x : LWorld) (L U : Nat) (w : World) (hS0 : S0 ≤ w.heap.size) (HS : Sents w S0 sn) (hs : WorldSm x) (hU : U ≤ w.heap.size) (H : WorldAt w L U a0 n0 a1 n1 a2 n2 a3 n3 a4 n4 a5 n5 x) :
    Calls Tryz.prog 26 #[.agg #[.slice a0 n0 c0,.slice a1 n1 c1,.slice a2 n2 c2,.slice a3 n3 c3,.slice a4 n4 c4,.slice a5 n5 c5]] w fun e w' => e = .returned (.bool (toldOnce x)) ∧ Below w.heap.size w w':=by
  have HB0:=hidMk (HeldB.new w #[.slice a0 n0 c0,.slice a1 n1 c1,.slice a2 n2 c2,.slice a3 n3 c3,.slice a4 n4 c4,.slice a5 n5 c5] 56)
  have HH:=hidMk H
  have HSh:=hidMk HS
  clear H HS
  go_enter Tryz.func26,Tryz.ntmps26
  go_wp2_with fail
  have hA:=HB0.out.below
  refine (implWorldOk sn S0 _ _ _ _ _ _ _ _ _ _ _ _ _ _ _ _ _ _ x L U _ (by have:=hA.size; omega) (HSh.out.below hA hS0) hs (by have:=hA.size; omega) (HH.out.below hA hU)).mono ?_
  rintro e w1 ⟨rfl,hb1⟩
  have H1:=HB0.out.next hb1
  clear HB0 hA hb1
  rcases hc : worldOk x with _ | _
  · have HX : Hid (toldOnce x = false):=by show _ = _; unfold toldOnce; rw [hc]; simp
    have hB:=H1.below
    clear hc H1
    go_wp2_with fail
    go_ret
    exact ⟨ret_bool HX.out.symm,hB⟩
  have HV : Hid (toldOnce x = onceB x.past):=by show _ = _; unfold toldOnce; rw [hc]; simp
  have HOK:=hidMk hc
  clear hc
  obtain ⟨_,_,_,_,f4,_⟩:=H1.box.c6
  have hB1:=H1.below
  have hw1:=H1.hi
  have HP:=hidMk HH.out.past
  have hbd:=HP.out.bd
  unfold maxLen at hbd
  have hlen:=hidMk HP.out.len
  have hBs:=hB1.size
  clear H1 HH
  have A9 : BoxI (w1.alloc (.cells #[.int .i64 0,.int .i64 0,.int .i64 0] 115)) w1.heap.size 115 [.int .i64 0,.int .i64 0,.int .i64 0]:=BoxI.new rfl
  have hb9 : Below w.heap.size w (w1.alloc (.cells #[.int .i64 0,.int .i64 0,.int .i64 0] 115)):=hB1.alloc hBs _
  have HA9:=hidMk A9
  have f4' : (w1.alloc (.cells #[.int .i64 0,.int .i64 0,.int .i64 0] 115)).cell? ⟨w.heap.size,4,none⟩ = some (.slice a4 n4 c4):=by
    rw [((Below.refl w1.heap.size w1).alloc (Nat.le_refl _) _).cell (by exact hw1)]; exact f4
  clear A9 f4
  go_wp2_with fail
  go_loopg [12] n4 (fun g i wr => ∃ j : Nat,j ≤ n4 ∧ Hid (g = n4 - j) ∧ i = .int .i64 j ∧ Hid (OnceTo x.past j) ∧ (∃ l0 l1 l2 : Int,Hid (BoxI wr w1.heap.size 115 [.int .i64 l0,.int .i64 l1,.int .i64 l2]) ∧ Hid (LastOf x.past j 0 l0 ∧ LastOf x.past j 1 l1 ∧ LastOf x.past j 2 l2)) ∧ Below w.heap.size w wr)
  case atStart => exact ⟨0,Nat.zero_le _,by show _ = _; omega,rfl,fun i k a b hi => by omega,⟨0,0,0,HA9.out,⟨.inl rfl,fun k a hk => by omega⟩,⟨.inl rfl,fun k a hk => by omega⟩,⟨.inl rfl,fun k a hk => by omega⟩⟩,hb9⟩
  case round =>
    obtain ⟨j,hj,hk,rfl,hq,⟨l0,l1,l2,HBx,HLx⟩,hb⟩:=hrel
    have hs1:=hb.size
    by_cases hlt : j < n4
    · obtain ⟨b9,off,ha,hL,hbU,hc⟩:=HP.out.at_ (by omega)
      subst ha
      obtain ⟨y,vs,he,hc,hE⟩:=hc j hlt
      obtain ⟨q,s,ea1,en1,ec1,ea2,en2,ec2,rfl,hcp,hK⟩:=hE
      have c0:=hc 0 _ rfl
      have c1:=hc 1 _ rfl
      have c2:=hc 2 _ rfl
      have c3:=hc 3 _ rfl
      simp only [Nat.add_zero] at c0
      rw [← hb.cell (by simp; omega)] at c0 c1 c2 c3
      have hlt' : (j : Int) < (n4 : Int):=by omega
      have hpw:=past_who HOK.out he
      have HE:=hidMk he
      have HQ:=hidMk hK.q
      have HQs:=hidMk hK.s
      have hw3 : q = 0 ∨ q = 1 ∨ q = 2:=by rw [hK.q]; exact hpw.1
      have H1s : Hid (1 ≤ y.seq):=hpw.2
      clear he hc hK hpw f4'
      have BX:=HBx.out
      have g0:=BX.get 0 _ rfl
      have g1:=BX.get 1 _ rfl
      have g2:=BX.get 2 _ rfl
      have z0:=BX.fro
      have hpl:=BX.lt
      have hpx : w.heap.size < w1.heap.size:=hw1
      clear BX
      rcases hw3 with rfl | rfl | rfl
      · by_cases hle : s ≤ l0
        · have HX : Hid (toldOnce x = false):=by show _ = _; rw [HV.out]; exact HLx.out.1.bad HE.out HQ.out.symm H1s.out (by rw [← HQs.out]; exact hle)
          go_wp2_with fail
          go_quiet (fail)
          go_wp2_with fail
          go_ret
          exact ⟨ret_bool HX.out.symm,by first | exact (hb.alloc hs1 _) | exact (hb.alloc hs1 _).drewN _ | exact (hb.alloc hs1 _).trans ((Below.drewN _ _).mono (by simp; omega))⟩
        · have hle' : l0 < s:=by omega
          go_wp2_with fail
          go_quiet (fail)
          go_wp2_with fail
          go_roundg (n4 - (j + 1))
          case measure => have:=hk.out; omega
          case rel =>
            have hsy : l0 < y.seq:=by rw [← HQs.out]; exact hle'
            refine ⟨j + 1,by omega,rfl,by go_num,once_step hq.out HE.out (fun k a hk2 ha2 hw2 => by have:=HLx.out.1.2 k a hk2 ha2 (by rw [hw2,← HQ.out]); omega),⟨s,l1,l2,?_,⟨by rw [HQs.out]; exact HLx.out.1.new HE.out HQ.out.symm hsy,HLx.out.2.1.other HE.out (by rw [← HQ.out]; decide),HLx.out.2.2.other HE.out (by rw [← HQ.out]; decide)⟩⟩,?_⟩
            · exact (((HBx.out.alloc _).next (Below.drewN _ _) (by simp; omega)).set 0 (.int .i64 s))
            · exact Below.setCell ((hb.alloc hs1 _).trans ((Below.drewN _ _).mono (by simp; omega))) (by simp; omega) _
      · by_cases hle : s ≤ l1
        · have HX : Hid (toldOnce x = false):=by show _ = _; rw [HV.out]; exact HLx.out.2.1.bad HE.out HQ.out.symm H1s.out (by rw [← HQs.out]; exact hle)
          go_wp2_with fail
          go_quiet (fail)
          go_wp2_with fail
          go_ret
          exact ⟨ret_bool HX.out.symm,by first | exact (hb.alloc hs1 _) | exact (hb.alloc hs1 _).drewN _ | exact (hb.alloc hs1 _).trans ((Below.drewN _ _).mono (by simp; omega))⟩
        · have hle' : l1 < s:=by omega
          go_wp2_with fail
          go_quiet (fail)
          go_wp2_with fail
          go_roundg (n4 - (j + 1))
          case measure => have:=hk.out; omega
          case rel =>
            have hsy : l1 < y.seq:=by rw [← HQs.out]; exact hle'
            refine ⟨j + 1,by omega,rfl,by go_num,once_step hq.out HE.out (fun k a hk2 ha2 hw2 => by have:=HLx.out.2.1.2 k a hk2 ha2 (by rw [hw2,← HQ.out]); omega),⟨l0,s,l2,?_,⟨HLx.out.1.other HE.out (by rw [← HQ.out]; decide),by rw [HQs.out]; exact HLx.out.2.1.new HE.out HQ.out.symm hsy,HLx.out.2.2.other HE.out (by rw [← HQ.out]; decide)⟩⟩,?_⟩
            · exact (((HBx.out.alloc _).next (Below.drewN _ _) (by simp; omega)).set 1 (.int .i64 s))
            · exact Below.setCell ((hb.alloc hs1 _).trans ((Below.drewN _ _).mono (by simp; omega))) (by simp; omega) _
      · by_cases hle : s ≤ l2
        · have HX : Hid (toldOnce x = false):=by show _ = _; rw [HV.out]; exact HLx.out.2.2.bad HE.out HQ.out.symm H1s.out (by rw [← HQs.out]; exact hle)
          go_wp2_with fail
          go_quiet (fail)
          go_wp2_with fail
          go_ret
          exact ⟨ret_bool HX.out.symm,by first | exact (hb.alloc hs1 _) | exact (hb.alloc hs1 _).drewN _ | exact (hb.alloc hs1 _).trans ((Below.drewN _ _).mono (by simp; omega))⟩
        · have hle' : l2 < s:=by omega
          go_wp2_with fail
          go_quiet (fail)
          go_wp2_with fail
          go_roundg (n4 - (j + 1))
          case measure => have:=hk.out; omega
          case rel =>
            have hsy : l2 < y.seq:=by rw [← HQs.out]; exact hle'
            refine ⟨j + 1,by omega,rfl,by go_num,once_step hq.out HE.out (fun k a hk2 ha2 hw2 => by have:=HLx.out.2.2.2 k a hk2 ha2 (by rw [hw2,← HQ.out]); omega),⟨l0,l1,s,?_,⟨HLx.out.1.other HE.out (by rw [← HQ.out]; decide),HLx.out.2.1.other HE.out (by rw [← HQ.out]; decide),by rw [HQs.out]; exact HLx.out.2.2.new HE.out HQ.out.symm hsy⟩⟩,?_⟩
            · exact (((HBx.out.alloc _).next (Below.drewN _ _) (by simp; omega)).set 2 (.int .i64 s))
            · exact Below.setCell ((hb.alloc hs1 _).trans ((Below.drewN _ _).mono (by simp; omega))) (by simp; omega) _
    · obtain rfl : j = n4:=by omega
      have HN : Hid (toldOnce x = true):=by show _ = _; rw [HV.out]; exact once_true hlen.out hq.out
      go_wp2_with fail
      go_ret
      exact ⟨ret_bool HN.out.symm,hb⟩
end
section
open Go.RowKit Go.ChangeShapes Go.WideShapes
set_option maxHeartbeats 8000000 in
set_option maxRecDepth 20000 in
theorem specToldOnce (a0 : Option Addr) (n0 c0 : Nat) (a1 : Option Addr) (n1 c1 : Nat) (a2 : Option Addr) (n2 c2 : Nat) (a3 : Option Addr) (n3 c3 : Nat) (a4 : Option Addr) (n4 c4 : Nat) (a5 : Option Addr) (n5 c5 : Nat) (x : LWorld) (L U : Nat) (w : World) (hs : WorldSm x) (hU : U ≤ w.heap.size) (H : WorldAt w L U a0 n0 a1 n1 a2 n2 a3 n3 a4 n4 a5 n5 x) :
    Calls Tryz.prog 25 #[.agg #[.slice a0 n0 c0,.slice a1 n1 c1,.slice a2 n2 c2,.slice a3 n3 c3,.slice a4 n4 c4,.slice a5 n5 c5]] w fun e w' => e = .returned (.bool (toldOnce x)) ∧ Below w.heap.size w w':=by
  have HB0:=HeldB.new w #[.slice a0 n0 c0,.slice a1 n1 c1,.slice a2 n2 c2,.slice a3 n3 c3,.slice a4 n4 c4,.slice a5 n5 c5] 56
  have hlen:=hidMk H.past.len
  have hbd:=H.past.bd
  unfold maxLen at hbd
  obtain ⟨W,hW⟩ : ∃ W,W = w.alloc (.cells #[.slice a0 n0 c0,.slice a1 n1 c1,.slice a2 n2 c2,.slice a3 n3 c3,.slice a4 n4 c4,.slice a5 n5 c5] 56):=⟨_,rfl⟩
  rw [← hW] at HB0
  have HP:=hidMk (H.past.below eltLog HB0.below hU)
  have HH:=hidMk (H.below HB0.below hU)
  have hBW:=HB0.below
  have hBs:=hBW.size
  obtain ⟨f0,f1,f2,f3,f4,f5⟩:=HB0.box.c6
  clear H HB0
  go_enter Tryz.func25,Tryz.ntmps25
  go_wp2_with fail
  rw [← hW]
  clear hW
  go_loopg [3] n4 (fun g i wr => ∃ j : Nat,j ≤ n4 ∧ Hid (g = n4 - j) ∧ i = .int .i64 j ∧ Hid (OnceTo x.past j) ∧ ∃ qq,wr = W.drewN qq)
  case atStart => exact ⟨0,Nat.zero_le _,by show _ = _; omega,rfl,fun i k a b hi => by omega,0,rfl⟩
  case round =>
    obtain ⟨j,hj,hk,rfl,hq,qq,rfl⟩:=hrel
    by_cases hlt : j < n4
    · obtain ⟨b9,off,ha,hL,hbU,hc⟩:=HP.out.at_ (by omega)
      obtain ⟨y,vs,he,hcy,hE⟩:=hc j hlt
      obtain ⟨q,s,ea1,en1,ec1,ea2,en2,ec2,rfl,hcp,hK⟩:=hE
      have c0:=hcy 0 _ rfl
      have c1:=hcy 1 _ rfl
      simp only [Nat.add_zero] at c0
      have hlt' : (j : Int) < (n4 : Int):=by omega
      have HE:=hidMk he
      have HQ:=hidMk hK.q
      have HQs:=hidMk hK.s
      have HC:=hidMk hc
      subst ha
      clear he hc hcy hK f0 f1 f2 f3 f5
      go_wp2_with fail
      go_loopg [4] j (fun g i wr => ∃ m : Nat,m ≤ j ∧ Hid (g = j - m) ∧ i = .int .i64 m ∧ Hid (∀ k a,k < m → x.past[k]? = some a → a.who = y.who → a.seq < y.seq) ∧ ∃ qq,wr = W.drewN qq)
      case atStart => exact ⟨0,Nat.zero_le _,by show _ = _; omega,rfl,fun k a hk => by omega,qq,rfl⟩
      case round =>
        obtain ⟨m,hm,hkm,rfl,hqm,qm,rfl⟩:=hrel
        by_cases hltm : m < j
        · obtain ⟨z,vs2,hez,hcz,hEz⟩:=HC.out m (by omega)
          obtain ⟨q2,s2,eb1,ep1,ed1,eb2,ep2,ed2,rfl,hcp2,hK2⟩:=hEz
          have d0:=hcz 0 _ rfl
          have d1:=hcz 1 _ rfl
          simp only [Nat.add_zero] at d0
          have hltm' : (m : Int) < (j : Int):=by omega
          have hltm2 : (m : Int) < (n4 : Int):=by omega
          have HEz:=hidMk hez
          have HQ2:=hidMk hK2.q
          have HQs2:=hidMk hK2.s
          clear hez hcz hK2
          by_cases hw : q2 = q
          · by_cases hge : s ≤ s2
            · have HX : Hid (toldOnce x = false):=by
                show _ = _; unfold toldOnce
                rw [once_false hltm HEz.out HE.out (by rw [← HQ2.out,← HQ.out]; exact hw) (by rw [← HQs.out,← HQs2.out]; exact hge)]; simp
              have hw' : (q2 == q) = true:=by simpa using hw
              clear hw
              go_wp2_with fail
              go_quiet (fail)
              go_wp2_with fail
              go_ret
              exact ⟨ret_bool HX.out.symm,hBW.trans ((by repeat (first | exact Below.drewN _ _ | rw [World.drewN_drewN]) : Below _ _ _).mono hBs)⟩
            · have hw' : (q2 == q) = true:=by simpa using hw
              have HWw:=hidMk hw
              have hlt2 : s2 < s:=by omega
              clear hw
              go_wp2_with fail
              go_quiet (fail)
              go_wp2_with fail
              go_roundg (j - (m + 1))
              case measure => have:=hkm.out; omega
              case rel =>
                refine ⟨m + 1,by omega,rfl,by go_num,fun k a hk2 ha2 hw2 => ?_,_,by first | rfl | (rw [World.drewN_drewN])⟩
                by_cases e : k = m
                · subst e
                  rw [HEz.out] at ha2
                  cases ha2
                  rw [← HQs.out,← HQs2.out]; exact hlt2
                · exact hqm.out k a (by omega) ha2 hw2
          · have hw' : (q2 == q) = false:=by simpa using hw
            have HWw:=hidMk hw
            clear hw
            go_wp2_with fail
            go_quiet (fail)
            go_wp2_with fail
            go_roundg (j - (m + 1))
            case measure => have:=hkm.out; omega
            case rel =>
              refine ⟨m + 1,by omega,rfl,by go_num,fun k a hk2 ha2 hw2 => ?_,_,by first | rfl | (rw [World.drewN_drewN])⟩
              by_cases e : k = m
              · subst e
                rw [HEz.out] at ha2
                cases ha2
                exact absurd (by rw [HQ2.out,HQ.out]; exact hw2) HWw.out
              · exact hqm.out k a (by omega) ha2 hw2
        · obtain rfl : m = j:=by omega
          have HN : Hid (OnceTo x.past (m + 1)):=once_step hq.out HE.out hqm.out
          go_wp2_with fail
          go_roundg (n4 - (m + 1))
          case measure => have:=hk.out; omega
          case rel => exact ⟨m + 1,by omega,rfl,by go_num,HN.out,_,rfl⟩
    · obtain rfl : j = n4:=by omega
      have HN : Hid (toldOnce x = worldOk x):=by show _ = _; unfold toldOnce; rw [once_true hlen.out hq.out]; rfl
      have hD : Below w.heap.size w (W.drewN qq):=hBW.trans ((Below.drewN _ _).mono hBs)
      have HH2:=hidMk (HH.out.below (Below.drewN W qq) (by omega))
      clear hq hk
      go_wp2_with fail
      refine (specWorldOk _ _ _ _ _ _ _ _ _ _ _ _ _ _ _ _ _ _ x L U _ hs (by have:=hD.size; omega) HH2.out).mono ?_
      rintro e w2 ⟨rfl,hb2⟩
      go_wp2_with fail
      go_ret
      exact ⟨ret_bool HN.out.symm,hD.trans (hb2.mono hD.size)⟩
end
end Go.Proofs.YtloopeipheklpaaGreatDoor
