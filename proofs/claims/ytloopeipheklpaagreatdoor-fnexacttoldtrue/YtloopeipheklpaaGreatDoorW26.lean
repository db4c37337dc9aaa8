/- Lemmas that the proofs of this seat share: KeepS, WokS, OnceI, OnceS, Facts. -/
import Derived.Test.YtloopeipheklpaaGreatDoorW22
import Derived.Test.YtloopeipheklpaaGreatDoorW25
import Derived.Test.YtloopeipheklpaaGreatDoorW09
import Derived.Test.YtloopeipheklpaaGreatDoorW04
import Derived.Test.YtloopeipheklpaaGreatDoorW24
import Derived.Test.YtloopeipheklpaaGreatDoorRows
import Derived.ProofKit
namespace Go.Proofs.YtloopeipheklpaaGreatDoor
section
open Go.RowKit Go.ChangeShapes Go.WideShapes
def MidEnd (w : World) (r : List LObj × Int × Nat) (e : Ending) (w' : World) : Prop:=∃ a n c,e = .returned (.tuple #[.agg #[.slice a n c],.int .i64 r.2.1]) ∧ ObjsAt w' w.heap.size w'.heap.size a n r.1 ∧ Below w.heap.size w w'
set_option maxHeartbeats 2000000 in
theorem specMid (q s : Int) (a : Option Addr) (n c : Nat) (b : Bool) (a1 : Option Addr) (n1 c1 : Nat) (a2 : Option Addr) (n2 c2 : Nat) (a3 : Option Addr) (n3 c3 : Nat) (k : LKeep) (L U : Nat) (w : World) (hS : Sizes k.base 1048576) (hs : specOk k.base = true) (hf : formsB k.sent = true) (hU : U ≤ w.heap.size) (H : KeepAt w L U q s a n b a1 n1 a2 n2 a3 n3 k) :
    Calls Tryz.prog 146 #[.agg #[.int .i64 q,.int .i64 s,.slice a n c,.bool b,.slice a1 n1 c1,.slice a2 n2 c2,.slice a3 n3 c3]] w fun e w'=>MidEnd w (midR k) e w':=by
  have HB0:=hidMk (HeldB.new w #[.int .i64 q,.int .i64 s,.slice a n c,.bool b,.slice a1 n1 c1,.slice a2 n2 c2,.slice a3 n3 c3] 69)
  have HH:=hidMk H
  clear H
  go_enter Tryz.func146,Tryz.ntmps146
  go_wp2_with fail
  have hA : Below w.heap.size w ((w.alloc (.cells #[.int .i64 q,.int .i64 s,.slice a n c,.bool b,.slice a1 n1 c1,.slice a2 n2 c2,.slice a3 n3 c3] 69)).alloc (.cells #[.slice none 0 0] 26)):=HB0.out.below.alloc HB0.out.below.size _
  have R1 : BoxI ((w.alloc (.cells #[.int .i64 q,.int .i64 s,.slice a n c,.bool b,.slice a1 n1 c1,.slice a2 n2 c2,.slice a3 n3 c3] 69)).alloc (.cells #[.slice none 0 0] 26)) (w.heap.size + 1) 26 [.slice none 0 0]:=BoxI.new (by simp)
  refine (l3All_any _ _ _ _ _ _ k.base k.sent L U L U _ hS hs hf (by have:=hA.size; omega) (HH.out.base.below hA hU) (by have:=hA.size; omega) (HH.out.sent.below hA hU)).mono ?_
  rintro e w1 h1
  obtain ⟨ta,tn,tc,rfl,hO,hb1⟩:=AllEnd.objsK h1
  have hr : allGo k.base k.base k.sent 0 = midR k:=rfl
  rw [hr] at hO ⊢
  have hB1:=hA.trans (hb1.mono hA.size)
  have R2:=R1.next hb1 R1.lt
  have hlo:=hA.size
  clear h1 HB0 hA R1 hr
  have hO2 : ObjsAt w1 (w.heap.size + 1 + 1) w1.heap.size ta tn (midR k).1:=hO.wide (by simp) (Nat.le_refl _)
  have hz1 : w.heap.size + 2 ≤ w1.heap.size:=by have:=hb1.size; simp at this; omega
  clear hO hb1
  have A3 : BoxI (w1.alloc (.cells #[.slice ta tn tc] 26)) (w.heap.size + 1) 26 [.slice none 0 0]:=R2.alloc _
  have g0:=A3.get 0 _ rfl
  have z0:=A3.fro
  clear R2 A3
  go_wp2_with fail
  refine bodyPost_ret (v:=.tuple #[.agg #[.slice ta tn tc],.int .i64 (midR k).2.1]) (by simp [results,Tryz.results146,go_sem,g0]) rfl ⟨ta,tn,tc,rfl,?_,?_⟩
  · refine ObjsAt.wide (L:=w.heap.size + 1 + 1) (U:=w1.heap.size) (hO2.blocks_ fun b h1 h2=>?_) (by omega) (by simp <;> omega)
    refine (Below.heap_setCell _ _ _ b (by simp <;> omega)).trans ?_
    exact ((Below.refl w1.heap.size w1).alloc (Nat.le_refl _) _).block b h2
  · refine Below.setCell ?_ (by simp) _
    exact hB1.alloc (by have:=hB1.size; omega) _
set_option maxHeartbeats 2000000 in
theorem specView (q s : Int) (a : Option Addr) (n c : Nat) (b : Bool) (a1 : Option Addr) (n1 c1 : Nat) (a2 : Option Addr) (n2 c2 : Nat) (a3 : Option Addr) (n3 c3 : Nat) (k : LKeep) (L U : Nat) (w : World) (hS : Sizes k.base 1048576) (hs : specOk k.base = true) (hf : formsB k.sent = true) (hl : formsB k.list = true) (hU : U ≤ w.heap.size) (H : KeepAt w L U q s a n b a1 n1 a2 n2 a3 n3 k) :
    Calls Tryz.prog 81 #[.agg #[.int .i64 q,.int .i64 s,.slice a n c,.bool b,.slice a1 n1 c1,.slice a2 n2 c2,.slice a3 n3 c3]] w fun e w'=>MidEnd w (viewR k) e w':=by
  have HB0:=hidMk (HeldB.new w #[.int .i64 q,.int .i64 s,.slice a n c,.bool b,.slice a1 n1 c1,.slice a2 n2 c2,.slice a3 n3 c3] 69)
  have HH:=hidMk H
  clear H
  have A0 : BoxI ((w.alloc (.cells #[.int .i64 q,.int .i64 s,.slice a n c,.bool b,.slice a1 n1 c1,.slice a2 n2 c2,.slice a3 n3 c3] 69)).alloc (.cells #[.slice none 0 0] 26)) w.heap.size 69 [.int .i64 q,.int .i64 s,.slice a n c,.bool b,.slice a1 n1 c1,.slice a2 n2 c2,.slice a3 n3 c3]:=(HB0.out.box).alloc _
  have A1 : BoxI ((w.alloc (.cells #[.int .i64 q,.int .i64 s,.slice a n c,.bool b,.slice a1 n1 c1,.slice a2 n2 c2,.slice a3 n3 c3] 69)).alloc (.cells #[.slice none 0 0] 26)) (w.heap.size + 1) 26 [.slice none 0 0]:=BoxI.new (by simp)
  have hA : Below w.heap.size w ((w.alloc (.cells #[.int .i64 q,.int .i64 s,.slice a n c,.bool b,.slice a1 n1 c1,.slice a2 n2 c2,.slice a3 n3 c3] 69)).alloc (.cells #[.slice none 0 0] 26)):=HB0.out.below.alloc HB0.out.below.size _
  have HA0:=hidMk A0
  have HA1:=hidMk A1
  clear A0 A1 HB0
  go_enter Tryz.func81,Tryz.ntmps81
  go_wp2_with fail
  refine (specMid q s a n c b a1 n1 c1 a2 n2 c2 a3 n3 c3 k L U _ hS hs hf (by have:=hA.size; omega) (HH.out.below hA hU)).mono ?_
  rintro e w1 ⟨ta,tn,tc,rfl,hO,hb1⟩
  have hB1:=hA.trans (hb1.mono hA.size)
  have B0:=HA0.out.next hb1 HA0.out.lt
  have B1:=HA1.out.next hb1 HA1.out.lt
  have hO2 : ObjsAt w1 (w.heap.size + 1 + 1) w1.heap.size ta tn (midR k).1:=hO.wide (by simp) (Nat.le_refl _)
  have hz1 : w.heap.size + 2 ≤ w1.heap.size:=by have:=hb1.size; simp at this; omega
  clear HA0 HA1 hA hO hb1
  by_cases hc : (midR k).2.1 = 0
  · have HV : viewR k = allGo (midR k).1 (midR k).1 k.list 0:=by unfold viewR; rw [if_pos hc]
    have HC:=hidMk hc
    have hm:=mid_ok hs hf
    have HVh:=hidMk HV
    clear HV
    rw [hc]
    clear hc
    have A2 : Below w1.heap.size w1 (w1.alloc (.cells #[.slice ta tn tc] 26)):=(Below.refl _ _).alloc (Nat.le_refl _) _
    have C0:=B0.alloc (.cells #[.slice ta tn tc] 26)
    have HC1:=hidMk (B1.alloc (.cells #[.slice ta tn tc] 26))
    have hO3:=hO2.below A2 (Nat.le_refl _)
    have hB2:=hB1.trans (A2.mono hB1.size)
    have hls:=HH.out.list.below hB2 hU
    obtain ⟨_,_,_,_,_,f5,_⟩:=C0.c7
    clear B0 B1 C0 hO2 hB1
    have hz2:=A2.size
    clear A2
    go_wp2_with fail
    refine (l3All_any _ _ _ _ _ _ (midR k).1 k.list _ _ L U _ (okSizes hm) hm hl hz2 hO3 (by have:=hB2.size; omega) hls).mono ?_
    rintro e w3 h3
    obtain ⟨ua,un,uc,rfl,hP,hb3⟩:=AllEnd.objsK h3
    rw [← HVh.out] at hP ⊢
    have hB3:=hB2.trans (hb3.mono hB2.size)
    have D1:=HC1.out.next hb3 HC1.out.lt
    have hP2 : ObjsAt w3 (w.heap.size + 1 + 1) w3.heap.size ua un (viewR k).1:=hP.wide (by simp; omega) (Nat.le_refl _)
    have hz3 : w.heap.size + 2 ≤ w3.heap.size:=by have:=hb3.size; simp at this; omega
    clear h3 hP hb3 HC1 hO3 hls f5 hB2
    have A3 : BoxI (w3.alloc (.cells #[.slice ua un uc] 26)) (w.heap.size + 1) 26 [.slice none 0 0]:=D1.alloc _
    have g0:=A3.get 0 _ rfl
    have z0:=A3.fro
    clear D1 A3
    go_wp2_with fail
    refine bodyPost_ret (v:=.tuple #[.agg #[.slice ua un uc],.int .i64 (viewR k).2.1]) (by simp [results,Tryz.results81,go_sem,g0]) rfl ⟨ua,un,uc,rfl,?_,?_⟩
    · refine ObjsAt.wide (L:=w.heap.size + 1 + 1) (U:=w3.heap.size) (hP2.blocks_ fun b h1 h2=>?_) (by omega) (by simp <;> omega)
      refine (Below.heap_setCell _ _ _ b (by simp <;> omega)).trans ?_
      exact ((Below.refl w3.heap.size w3).alloc (Nat.le_refl _) _).block b h2
    · refine Below.setCell ?_ (by simp) _
      exact hB3.alloc (by have:=hB3.size; omega) _
  · have HV : viewR k = midR k:=by unfold viewR; rw [if_neg hc]
    have hne : ((midR k).2.1 != 0) = true:=by simpa using hc
    have A3 : BoxI (w1.alloc (.cells #[.slice ta tn tc] 26)) (w.heap.size + 1) 26 [.slice none 0 0]:=B1.alloc _
    have g0:=A3.get 0 _ rfl
    have z0:=A3.fro
    have HVh:=hidMk HV
    clear B0 B1 A3 HV hc
    go_wp2_with fail
    refine bodyPost_ret (v:=.tuple #[.agg #[.slice ta tn tc],.int .i64 (midR k).2.1]) (by simp [results,Tryz.results81,go_sem,g0]) rfl ⟨ta,tn,tc,by rw [HVh.out],?_,?_⟩
    · rw [HVh.out]
      refine ObjsAt.wide (L:=w.heap.size + 1 + 1) (U:=w1.heap.size) (hO2.blocks_ fun b h1 h2=>?_) (by omega) (by simp <;> omega)
      refine (Below.heap_setCell _ _ _ b (by simp <;> omega)).trans ?_
      exact ((Below.refl w1.heap.size w1).alloc (Nat.le_refl _) _).block b h2
    · refine Below.setCell ?_ (by simp) _
      exact hB1.alloc (by have:=hB1.size; omega) _
theorem keepOk_parts (k : LKeep) : keepOk k = (clientB k.who && (decide (0 ≤ k.seq) && decide (k.seq ≤ 1000)) && specOk k.base && formsB k.sent && formsB k.list && decide (k.shelf.length ≤ 4) && (k.waits == decide (0 < k.sent.length)) && !(k.waits && (k.seq == 0)) && k.shelf.all (fun l=>decide (l.length ≤ 120) && l.all opOk) && ((viewR k).2.1 == 0)):=by
  have h : sentB k.seq k.waits k.sent.length = ((decide (0 ≤ k.seq) && decide (k.seq ≤ 1000)) && (k.waits == decide (0 < k.sent.length)) && !(k.waits && (k.seq == 0))):=by
    unfold sentB
    generalize k.waits = b
    generalize (b == decide (0 < k.sent.length)) = z
    have e : (k.seq == 0) = decide (k.seq = 0):=rfl
    rw [e,Bool.eq_iff_iff]
    cases b <;> cases z <;> simp <;> omega
  unfold keepOk keepB shelfB
  rw [h,Bool.eq_iff_iff]
  simp only [Bool.and_eq_true]
  constructor
  · rintro ⟨⟨⟨⟨⟨⟨a,b⟩,c⟩,d⟩,e⟩,f⟩,g⟩
    exact ⟨⟨⟨⟨⟨⟨⟨⟨⟨a,b.1.1⟩,d⟩,e⟩,f⟩,c.1⟩,b.1.2⟩,b.2⟩,c.2⟩,g⟩
  · rintro ⟨⟨⟨⟨⟨⟨⟨⟨⟨a,b⟩,d⟩,e⟩,f⟩,c⟩,b2⟩,b3⟩,c2⟩,g⟩
    exact ⟨⟨⟨⟨⟨⟨a,⟨b,b2⟩,b3⟩,c,c2⟩,d⟩,e⟩,f⟩,g⟩
set_option maxHeartbeats 8000000 in
set_option maxRecDepth 20000 in
theorem specKeepOk (q s : Int) (a : Option Addr) (n c : Nat) (b : Bool) (a1 : Option Addr) (n1 c1 : Nat) (a2 : Option Addr) (n2 c2 : Nat) (a3 : Option Addr) (n3 c3 : Nat) (k : LKeep) (L U : Nat) (w : World) (hS : Sizes k.base 1048576) (hU : U ≤ w.heap.size) (H : KeepAt w L U q s a n b a1 n1 a2 n2 a3 n3 k) :
    Calls Tryz.prog 30 #[.agg #[.int .i64 q,.int .i64 s,.slice a n c,.bool b,.slice a1 n1 c1,.slice a2 n2 c2,.slice a3 n3 c3]] w fun e w'=>e = .returned (.bool (keepOk k)) ∧ Below w.heap.size w w':=by
  have HV : Hid (keepOk k = (clientB q && (decide (0 ≤ s) && decide (s ≤ 1000)) && specOk k.base && formsB k.sent && formsB k.list && decide (n3 ≤ 4) && (b == decide (0 < n1)) && !(b && (s == 0)) && k.shelf.all (fun l=>decide (l.length ≤ 120) && l.all opOk) && ((viewR k).2.1 == 0))):=by show _ = _; rw [keepOk_parts,H.q,H.s,H.b,H.sent.len,H.shelf.len]
  have hn1:=H.sent.bd
  have hn3:=H.shelf.bd
  unfold maxLen at hn1 hn3
  have HB0:=hidMk (HeldB.new w #[.int .i64 q,.int .i64 s,.slice a n c,.bool b,.slice a1 n1 c1,.slice a2 n2 c2,.slice a3 n3 c3] 69)
  have HH:=hidMk H
  clear H
  by_cases g1 : q < 0
  · have HX : Hid (keepOk k = false):=by show _ = _; rw [HV.out,clientB,decide_eq_false (by omega)]; simp
    go_enter Tryz.func30,Tryz.ntmps30
    go_wp2_with fail
    go_ret
    exact ⟨ret_bool HX.out.symm,HB0.out.below⟩
  by_cases g2 : 3 ≤ q
  · have HX : Hid (keepOk k = false):=by show _ = _; rw [HV.out,clientB,decide_eq_false (p:=q < 3) (by omega)]; simp
    go_enter Tryz.func30,Tryz.ntmps30
    go_wp2_with fail
    go_ret
    exact ⟨ret_bool HX.out.symm,HB0.out.below⟩
  by_cases g3 : s < 0
  · have HX : Hid (keepOk k = false):=by show _ = _; rw [HV.out,decide_eq_false (p:=0 ≤ s) (by omega)]; simp
    go_enter Tryz.func30,Tryz.ntmps30
    go_wp2_with fail
    go_ret
    exact ⟨ret_bool HX.out.symm,HB0.out.below⟩
  by_cases g4 : 1000 < s
  · have HX : Hid (keepOk k = false):=by show _ = _; rw [HV.out,decide_eq_false (p:=s ≤ 1000) (by omega)]; simp
    go_enter Tryz.func30,Tryz.ntmps30
    go_wp2_with fail
    go_ret
    exact ⟨ret_bool HX.out.symm,HB0.out.below⟩
  replace HV : Hid (keepOk k = (specOk k.base && formsB k.sent && formsB k.list && decide (n3 ≤ 4) && (b == decide (0 < n1)) && !(b && (s == 0)) && k.shelf.all (fun l=>decide (l.length ≤ 120) && l.all opOk) && ((viewR k).2.1 == 0))):=by
    show _ = _; rw [HV.out,clientB,decide_eq_true (p:=0 ≤ q) (by omega),decide_eq_true (p:=q < 3) (by omega),decide_eq_true (p:=0 ≤ s) (by omega),decide_eq_true (p:=s ≤ 1000) (by omega)]; simp
  go_enter Tryz.func30,Tryz.ntmps30
  go_wp2_with fail
  have hA:=HB0.out.below
  refine (specTreeOk _ _ _ k.base L U _ hS (by have:=hA.size; omega) (HH.out.base.below hA hU)).mono ?_
  rintro e w1 ⟨rfl,hb1⟩
  have H1:=HB0.out.next hb1
  clear HB0 hA hb1
  rcases hc : specOk k.base with _ | _
  · have HX : Hid (keepOk k = false):=by show _ = _; rw [HV.out,hc]; simp
    have hB:=H1.below
    clear hc HV H1
    go_wp2_with fail
    go_ret
    exact ⟨ret_bool HX.out.symm,hB⟩
  have HOK:=hidMk hc
  clear hc
  have hB1:=H1.below
  obtain ⟨f0,f1,f2,f3,f4,f5,f6⟩:=H1.box.c7
  have HH1:=hidMk H1
  clear H1
  go_wp2_with fail
  refine (forms_any _ _ _ k.sent L U _ (by have:=hB1.size; omega) (HH.out.sent.below hB1 hU)).mono ?_
  rintro e w2 ⟨rfl,hb2⟩
  have H2:=HH1.out.next hb2
  clear HH1 hB1 hb2 f0 f1 f2 f3 f4 f5 f6
  rcases hc : formsB k.sent with _ | _
  · have HX : Hid (keepOk k = false):=by show _ = _; rw [HV.out,hc]; simp
    have hB:=H2.below
    clear hc HV H2
    go_wp2_with fail
    go_ret
    exact ⟨ret_bool HX.out.symm,hB⟩
  have HFS:=hidMk hc
  clear hc
  have hB2:=H2.below
  obtain ⟨f0,f1,f2,f3,f4,f5,f6⟩:=H2.box.c7
  have HH2:=hidMk H2
  clear H2
  go_wp2_with fail
  refine (forms_any _ _ _ k.list L U _ (by have:=hB2.size; omega) (HH.out.list.below hB2 hU)).mono ?_
  rintro e w3 ⟨rfl,hb3⟩
  have H3:=HH2.out.next hb3
  clear HH2 hB2 hb3 f0 f1 f2 f3 f4 f5 f6
  rcases hc : formsB k.list with _ | _
  · have HX : Hid (keepOk k = false):=by show _ = _; rw [HV.out,hc]; simp
    have hB:=H3.below
    clear hc HV H3
    go_wp2_with fail
    go_ret
    exact ⟨ret_bool HX.out.symm,hB⟩
  have HFL:=hidMk hc
  clear hc
  have hB3:=H3.below
  obtain ⟨f0,f1,f2,f3,f4,f5,f6⟩:=H3.box.c7
  have HH3:=hidMk H3
  clear H3
  replace HV : Hid (keepOk k = (decide (n3 ≤ 4) && (b == decide (0 < n1)) && !(b && (s == 0)) && k.shelf.all (fun l=>decide (l.length ≤ 120) && l.all opOk) && ((viewR k).2.1 == 0))):=by show _ = _; rw [HV.out,HOK.out,HFS.out,HFL.out]; simp
  by_cases g5 : 4 < n3
  · have g5' : (4 : Int) < (n3 : Int):=by omega
    have HX : Hid (keepOk k = false):=by show _ = _; rw [HV.out,decide_eq_false (by omega)]; simp
    clear HV
    go_wp2_with fail
    go_ret
    exact ⟨ret_bool HX.out.symm,hB3⟩
  have g5' : ¬ (4 : Int) < (n3 : Int):=by omega
  replace HV : Hid (keepOk k = ((b == decide (0 < n1)) && !(b && (s == 0)) && k.shelf.all (fun l=>decide (l.length ≤ 120) && l.all opOk) && ((viewR k).2.1 == 0))):=by show _ = _; rw [HV.out,decide_eq_true (p:=n3 ≤ 4) (by omega)]; simp
  have hcase : (b = false ∧ 0 < n1) ∨ (b = true ∧ ¬ 0 < n1) ∨ (b = true ∧ 0 < n1 ∧ s = 0) ∨ (b = false ∧ ¬ 0 < n1) ∨ (b = true ∧ 0 < n1 ∧ ¬ s = 0):=by
    rcases b with _ | _ <;> by_cases h : 0 < n1 <;> by_cases hs : s = 0 <;> simp [h,hs]
  rcases hcase with ⟨rfl,h⟩ | ⟨rfl,h⟩ | ⟨rfl,h,rfl⟩ | ⟨rfl,h⟩ | ⟨rfl,h,hs0⟩
  · have HX : Hid (keepOk k = false):=by show _ = _; rw [HV.out,decide_eq_true h]; simp
    have h' : (0 : Int) < (n1 : Int):=by omega
    clear HV
    go_wp2_with fail
    go_ret
    exact ⟨ret_bool HX.out.symm,hB3⟩
  · have HX : Hid (keepOk k = false):=by show _ = _; rw [HV.out,decide_eq_false h]; simp
    have h' : ¬ (0 : Int) < (n1 : Int):=by omega
    clear HV
    go_wp2_with fail
    go_ret
    exact ⟨ret_bool HX.out.symm,hB3⟩
  · have HX : Hid (keepOk k = false):=by show _ = _; rw [HV.out,decide_eq_true h]; simp
    have h' : (0 : Int) < (n1 : Int):=by omega
    clear HV
    go_wp2_with fail
    go_ret
    exact ⟨ret_bool HX.out.symm,hB3⟩
  · have h' : ¬ (0 : Int) < (n1 : Int):=by omega
    replace HV : Hid (keepOk k = (k.shelf.all (fun l=>decide (l.length ≤ 120) && l.all opOk) && ((viewR k).2.1 == 0))):=by show _ = _; rw [HV.out,decide_eq_false h]; simp
    go_wp2_with fail
    clear h' f0 f1 f2 f3 f4 f5 f6
    go_loopg [3] n3 (fun g i wr=>∃ j : Nat,j ≤ n3 ∧ Hid (g = n3 - j) ∧ i = .int .i64 j ∧ Hid (k.shelf.all (fun l=>decide (l.length ≤ 120) && l.all opOk) = (k.shelf.drop j).all (fun l=>decide (l.length ≤ 120) && l.all opOk)) ∧ Below w3.heap.size w3 wr)
    case atStart=>exact ⟨0,Nat.zero_le _,by show _ = _; omega,rfl,by show _ = _; simp,Below.refl _ _⟩
    case round =>
      obtain ⟨j,hj,hk,rfl,hq,hb⟩:=hrel
      have hs1:=hb.size
      have hB3s:=hB3.size
      have H4:=HH3.out.next hb
      have hB4:=H4.below
      obtain ⟨f0,f1,f2,f3,f4,f5,f6⟩:=H4.box.c7
      by_cases hlt : j < n3
      · obtain ⟨b9,off,ha,hL,hbU,hc⟩:=HH.out.shelf.at_ (by omega)
        subst ha
        obtain ⟨x,vs,he,hc,hE⟩:=hc j hlt
        obtain ⟨oa,on,oc,rfl,hO⟩:=hE
        have c0:=hc 0 _ rfl
        simp only [Nat.add_zero,Nat.mul_one] at c0
        rw [← hB4.cell (by simp; omega)] at c0
        have hlt' : (j : Int) < (n3 : Int):=by omega
        have HQ : Hid (k.shelf.all (fun l=>decide (l.length ≤ 120) && l.all opOk) = ((decide (on ≤ 120) && x.all opOk) && (k.shelf.drop (j + 1)).all (fun l=>decide (l.length ≤ 120) && l.all opOk))):=by show _ = _; rw [hq.out,drop_cons he,List.all_cons,hO.len]
        have HO:=hidMk (hO.below hB4 hU)
        have hon:=hO.bd
        have holen:=hidMk hO.len
        unfold maxLen at hon
        clear he hc hq hO
        by_cases h120 : 120 < on
        · have h120' : (120 : Int) < (on : Int):=by omega
          have HY : Hid (keepOk k = false):=by show _ = _; rw [HV.out,HQ.out,decide_eq_false (by omega)]; simp
          clear HQ f0 f1 f2 f3 f4 f5
          go_wp2_with fail
          go_ret
          exact ⟨ret_bool HY.out.symm,hB4⟩
        have h120' : ¬ (120 : Int) < (on : Int):=by omega
        have HQ2 : Hid (k.shelf.all (fun l=>decide (l.length ≤ 120) && l.all opOk) = (x.all opOk && (k.shelf.drop (j + 1)).all (fun l=>decide (l.length ≤ 120) && l.all opOk))):=by show _ = _; rw [HQ.out,decide_eq_true (by omega)]; simp
        clear HQ f0 f1 f2 f3 f4 f5
        go_wp2_with fail
        have hb9 : b9 < wr.heap.size:=by omega
        have hw9 : w.heap.size < wr.heap.size:=H4.hi
        rename World=>wo
        go_loopg [4] on (fun g i wr=>∃ m : Nat,m ≤ on ∧ Hid (g = on - m) ∧ i = .int .i64 m ∧ Hid (x.all opOk = (x.drop m).all opOk) ∧ Below wo.heap.size wo wr)
        case atStart=>exact ⟨0,Nat.zero_le _,by show _ = _; omega,rfl,by show _ = _; simp,Below.refl _ _⟩
        case round =>
          obtain ⟨m,hm,hkm,rfl,hqm,hbm⟩:=hrel
          have hs2:=hbm.size
          have f6':=(hbm.cell (p:=⟨w.heap.size,6,none⟩) hw9).trans f6
          have c0':=(hbm.cell (p:=⟨b9,off + j,none⟩) hb9).trans c0
          by_cases hltm : m < on
          · obtain ⟨b8,off8,ha8,hL8,hbU8,hc8⟩:=HO.out.at_ (by omega)
            subst ha8
            obtain ⟨y,hey,hsz,hat⟩:=hc8 m hltm
            obtain ⟨d0,d1,d2,d3,d4,d5,d6⟩:=hat.of_block (hbm.block b8 (by omega))
            have hltm' : (m : Int) < (on : Int):=by omega
            have HQm : Hid (x.all opOk = (opOk y && (x.drop (m + 1)).all opOk)):=by show _ = _; rw [hqm.out,drop_cons hey,List.all_cons]
            have HOK2:=fun w=>opOk_any y w hsz.name hsz.name2 hsz.text
            simp only [LOp.val] at HOK2
            clear hey hc8 hqm hat f6 c0
            go_wp2_with fail
            refine (HOK2 _).mono ?_
            rintro e w8 ⟨rfl,hw8⟩
            have hbb : Below wo.heap.size wo w8:=by rw [hw8]; exact hbm.alloc hs2 _
            clear hw8
            rcases hy : opOk y with _ | _
            · have HY : Hid (keepOk k = false):=by show _ = _; rw [HV.out,HQ2.out,HQm.out,hy]; simp
              clear HOK2 HQm HQ2
              go_wp2_with fail
              go_ret
              exact ⟨ret_bool HY.out.symm,hB4.trans (hbb.mono hB4.size)⟩
            · have HY : Hid (x.all opOk = (x.drop (m + 1)).all opOk):=by show _ = _; rw [HQm.out,hy]; simp
              clear HOK2 HQm
              go_wp2_with fail
              go_roundg (on - (m + 1))
              case measure=>have:=hkm.out; omega
              case rel=>exact ⟨m + 1,by omega,rfl,by go_num,HY.out,hbb⟩
          · have HN : Hid (x.all opOk = true):=by
              show _ = _
              rw [hqm.out,List.drop_of_length_le (by have:=holen.out; omega)]; rfl
            have HY : Hid (k.shelf.all (fun l=>decide (l.length ≤ 120) && l.all opOk) = (k.shelf.drop (j + 1)).all (fun l=>decide (l.length ≤ 120) && l.all opOk)):=by show _ = _; rw [HQ2.out,HN.out]; simp
            obtain rfl : m = on:=by omega
            clear f6 c0 HQ2
            go_wp2_with fail
            go_roundg (n3 - (j + 1))
            case measure=>have:=hk.out; omega
            case rel=>exact ⟨j + 1,by omega,rfl,by go_num,HY.out,hb.trans (hbm.mono hs1)⟩
      · have HN : Hid (keepOk k = ((viewR k).2.1 == 0)):=by
          show _ = _
          rw [HV.out,hq.out,List.drop_of_length_le (by have:=HH.out.shelf.len; omega)]; simp
        obtain rfl : j = n3:=by omega
        have HK:=hidMk (HH.out.below hB4 hU)
        clear hq HV
        go_wp2_with fail
        refine (specView q s a n c _ a1 n1 c1 a2 n2 c2 a3 j c3 k L U _ hS HOK.out HFS.out HFL.out (by have:=hB4.size; omega) HK.out).mono ?_
        rintro e w9 ⟨ta,tn,tc,rfl,hO9,hb9⟩
        have hB9:=hB4.trans (hb9.mono hB4.size)
        clear hO9 hb9 H4 f0 f1 f2 f3 f4 f5 f6
        go_wp2_with fail
        go_ret
        exact ⟨ret_bool HN.out.symm,hB9.alloc hB9.size _⟩
  · have h' : (0 : Int) < (n1 : Int):=by omega
    have hsb : (s == 0) = false:=by simpa using hs0
    replace HV : Hid (keepOk k = (k.shelf.all (fun l=>decide (l.length ≤ 120) && l.all opOk) && ((viewR k).2.1 == 0))):=by show _ = _; rw [HV.out,decide_eq_true h,hsb]; simp
    go_wp2_with fail
    clear h' f0 f1 f2 f3 f4 f5 f6
    go_loopg [3] n3 (fun g i wr=>∃ j : Nat,j ≤ n3 ∧ Hid (g = n3 - j) ∧ i = .int .i64 j ∧ Hid (k.shelf.all (fun l=>decide (l.length ≤ 120) && l.all opOk) = (k.shelf.drop j).all (fun l=>decide (l.length ≤ 120) && l.all opOk)) ∧ Below w3.heap.size w3 wr)
    case atStart=>exact ⟨0,Nat.zero_le _,by show _ = _; omega,rfl,by show _ = _; simp,Below.refl _ _⟩
    case round =>
      obtain ⟨j,hj,hk,rfl,hq,hb⟩:=hrel
      have hs1:=hb.size
      have hB3s:=hB3.size
      have H4:=HH3.out.next hb
      have hB4:=H4.below
      obtain ⟨f0,f1,f2,f3,f4,f5,f6⟩:=H4.box.c7
      by_cases hlt : j < n3
      · obtain ⟨b9,off,ha,hL,hbU,hc⟩:=HH.out.shelf.at_ (by omega)
        subst ha
        obtain ⟨x,vs,he,hc,hE⟩:=hc j hlt
        obtain ⟨oa,on,oc,rfl,hO⟩:=hE
        have c0:=hc 0 _ rfl
        simp only [Nat.add_zero,Nat.mul_one] at c0
        rw [← hB4.cell (by simp; omega)] at c0
        have hlt' : (j : Int) < (n3 : Int):=by omega
        have HQ : Hid (k.shelf.all (fun l=>decide (l.length ≤ 120) && l.all opOk) = ((decide (on ≤ 120) && x.all opOk) && (k.shelf.drop (j + 1)).all (fun l=>decide (l.length ≤ 120) && l.all opOk))):=by show _ = _; rw [hq.out,drop_cons he,List.all_cons,hO.len]
        have HO:=hidMk (hO.below hB4 hU)
        have hon:=hO.bd
        have holen:=hidMk hO.len
        unfold maxLen at hon
        clear he hc hq hO
        by_cases h120 : 120 < on
        · have h120' : (120 : Int) < (on : Int):=by omega
          have HY : Hid (keepOk k = false):=by show _ = _; rw [HV.out,HQ.out,decide_eq_false (by omega)]; simp
          clear HQ f0 f1 f2 f3 f4 f5
          go_wp2_with fail
          go_ret
          exact ⟨ret_bool HY.out.symm,hB4⟩
        have h120' : ¬ (120 : Int) < (on : Int):=by omega
        have HQ2 : Hid (k.shelf.all (fun l=>decide (l.length ≤ 120) && l.all opOk) = (x.all opOk && (k.shelf.drop (j + 1)).all (fun l=>decide (l.length ≤ 120) && l.all opOk))):=by show _ = _; rw [HQ.out,decide_eq_true (by omega)]; simp
        clear HQ f0 f1 f2 f3 f4 f5
        go_wp2_with fail
        have hb9 : b9 < wr.heap.size:=by omega
        have hw9 : w.heap.size < wr.heap.size:=H4.hi
        rename World=>wo
        go_loopg [4] on (fun g i wr=>∃ m : Nat,m ≤ on ∧ Hid (g = on - m) ∧ i = .int .i64 m ∧ Hid (x.all opOk = (x.drop m).all opOk) ∧ Below wo.heap.size wo wr)
        case atStart=>exact ⟨0,Nat.zero_le _,by show _ = _; omega,rfl,by show _ = _; simp,Below.refl _ _⟩
        case round =>
          obtain ⟨m,hm,hkm,rfl,hqm,hbm⟩:=hrel
          have hs2:=hbm.size
          have f6':=(hbm.cell (p:=⟨w.heap.size,6,none⟩) hw9).trans f6
          have c0':=(hbm.cell (p:=⟨b9,off + j,none⟩) hb9).trans c0
          by_cases hltm : m < on
          · obtain ⟨b8,off8,ha8,hL8,hbU8,hc8⟩:=HO.out.at_ (by omega)
            subst ha8
            obtain ⟨y,hey,hsz,hat⟩:=hc8 m hltm
            obtain ⟨d0,d1,d2,d3,d4,d5,d6⟩:=hat.of_block (hbm.block b8 (by omega))
            have hltm' : (m : Int) < (on : Int):=by omega
            have HQm : Hid (x.all opOk = (opOk y && (x.drop (m + 1)).all opOk)):=by show _ = _; rw [hqm.out,drop_cons hey,List.all_cons]
            have HOK2:=fun w=>opOk_any y w hsz.name hsz.name2 hsz.text
            simp only [LOp.val] at HOK2
            clear hey hc8 hqm hat f6 c0
            go_wp2_with fail
            refine (HOK2 _).mono ?_
            rintro e w8 ⟨rfl,hw8⟩
            have hbb : Below wo.heap.size wo w8:=by rw [hw8]; exact hbm.alloc hs2 _
            clear hw8
            rcases hy : opOk y with _ | _
            · have HY : Hid (keepOk k = false):=by show _ = _; rw [HV.out,HQ2.out,HQm.out,hy]; simp
              clear HOK2 HQm HQ2
              go_wp2_with fail
              go_ret
              exact ⟨ret_bool HY.out.symm,hB4.trans (hbb.mono hB4.size)⟩
            · have HY : Hid (x.all opOk = (x.drop (m + 1)).all opOk):=by show _ = _; rw [HQm.out,hy]; simp
              clear HOK2 HQm
              go_wp2_with fail
              go_roundg (on - (m + 1))
              case measure=>have:=hkm.out; omega
              case rel=>exact ⟨m + 1,by omega,rfl,by go_num,HY.out,hbb⟩
          · have HN : Hid (x.all opOk = true):=by
              show _ = _
              rw [hqm.out,List.drop_of_length_le (by have:=holen.out; omega)]; rfl
            have HY : Hid (k.shelf.all (fun l=>decide (l.length ≤ 120) && l.all opOk) = (k.shelf.drop (j + 1)).all (fun l=>decide (l.length ≤ 120) && l.all opOk)):=by show _ = _; rw [HQ2.out,HN.out]; simp
            obtain rfl : m = on:=by omega
            clear f6 c0 HQ2
            go_wp2_with fail
            go_roundg (n3 - (j + 1))
            case measure=>have:=hk.out; omega
            case rel=>exact ⟨j + 1,by omega,rfl,by go_num,HY.out,hb.trans (hbm.mono hs1)⟩
      · have HN : Hid (keepOk k = ((viewR k).2.1 == 0)):=by
          show _ = _
          rw [HV.out,hq.out,List.drop_of_length_le (by have:=HH.out.shelf.len; omega)]; simp
        obtain rfl : j = n3:=by omega
        have HK:=hidMk (HH.out.below hB4 hU)
        clear hq HV
        go_wp2_with fail
        refine (specView q s a n c _ a1 n1 c1 a2 n2 c2 a3 j c3 k L U _ hS HOK.out HFS.out HFL.out (by have:=hB4.size; omega) HK.out).mono ?_
        rintro e w9 ⟨ta,tn,tc,rfl,hO9,hb9⟩
        have hB9:=hB4.trans (hb9.mono hB4.size)
        clear hO9 hb9 H4 f0 f1 f2 f3 f4 f5 f6
        go_wp2_with fail
        go_ret
        exact ⟨ret_bool HN.out.symm,hB9.alloc hB9.size _⟩
end
section
open Go.RowKit Go.ChangeShapes Go.WideShapes
theorem specMsgOkE (q s : Int) (ba : Option Addr) (bn bc : Nat) (oa : Option Addr) (on oc : Nat) (ta : Option Addr) (tn tc : Nat) (x : LMsg) (L U : Nat) (w : World) (hS : Sizes x.tree 1048576) (hU : U ≤ w.heap.size) (H : MsgAt w L U q s ba bn oa on ta tn x.log x.tree) :
    Calls Tryz.prog 100 #[.agg #[.int .i64 x.kind,.int .i64 x.who,.int .i64 x.seq,.int .i64 q,.int .i64 s,.slice ba bn bc,.slice oa on oc,.int .i64 x.code,.slice ta tn tc]] w fun e w'=>e = .returned (.bool (msgOkM x)) ∧ Below w.heap.size w w' :=
  specMsgOk _ _ _ _ _ _ _ _ _ _ _ _ _ _ _ x.log x.tree L U w hS hU H
set_option maxHeartbeats 16000000 in
set_option maxRecDepth 20000 in
theorem specWorldOk (a0 : Option Addr) (n0 c0 : Nat) (a1 : Option Addr) (n1 c1 : Nat) (a2 : Option Addr) (n2 c2 : Nat) (a3 : Option Addr) (n3 c3 : Nat) (a4 : Option Addr) (n4 c4 : Nat) (a5 : Option Addr) (n5 c5 : Nat) (x : LWorld) (L U : Nat) (w : World) (hs : WorldSm x) (hU : U ≤ w.heap.size) (H : WorldAt w L U a0 n0 a1 n1 a2 n2 a3 n3 a4 n4 a5 n5 x) :
    Calls Tryz.prog 40 #[.agg #[.slice a0 n0 c0,.slice a1 n1 c1,.slice a2 n2 c2,.slice a3 n3 c3,.slice a4 n4 c4,.slice a5 n5 c5]] w fun e w'=>e = .returned (.bool (worldOk x)) ∧ Below w.heap.size w w':=by
  have HB0:=hidMk (HeldB.new w #[.slice a0 n0 c0,.slice a1 n1 c1,.slice a2 n2 c2,.slice a3 n3 c3,.slice a4 n4 c4,.slice a5 n5 c5] 56)
  have HH:=hidMk H
  clear H
  go_enter Tryz.func40,Tryz.ntmps40
  go_wp2_with fail
  have hA:=HB0.out.below
  refine (specShopOk _ _ _ _ _ _ _ _ L U L U _ hs.tree (by have:=hA.size; omega) (by have:=hA.size; omega) (HH.out.tree.below hA hU) (HH.out.dones.below hA hU)).mono ?_
  rintro e w1 ⟨rfl,hb1⟩
  have H1:=HB0.out.next hb1
  clear HB0 hA hb1
  rcases hc : shopOk x.tree x.dones with _ | _
  · have HX : Hid (worldOk x = false):=by show _ = _; unfold worldOk; rw [hc]; rfl
    have hB:=H1.below
    clear hc H1
    go_wp2_with fail
    go_ret
    exact ⟨ret_bool HX.out.symm,hB⟩
  have HV : Hid (worldOk x = ((decide (x.keeps.length = 3) && keepsFrom 0 x.keeps) && (decide (x.net.length ≤ 24) && x.net.all msgOkM) && (decide (x.past.length ≤ 60) && x.past.all logOk) && (decide (x.told.length ≤ 60) && x.told.all toldB))):=by show _ = _; unfold worldOk; rw [hc]; simp
  clear hc
  obtain ⟨_,_,f2,f3,f4,f5⟩:=H1.box.c6
  have hB1:=H1.below
  have HB:=hidMk H1
  clear H1
  have hl2:=hidMk HH.out.keeps.len
  have hl3:=hidMk HH.out.net.len
  have hl4:=hidMk HH.out.past.len
  have hl5:=hidMk HH.out.told.len
  have hbd2:=HH.out.keeps.bd
  have hbd3:=HH.out.net.bd
  have hbd4:=HH.out.past.bd
  have hbd5:=HH.out.told.bd
  unfold maxLen at hbd2 hbd3 hbd4 hbd5
  by_cases g2 : n2 = 3
  case neg =>
    have g2' : ((n2 : Int) != 3) = true:=by simp; omega
    have HX : Hid (worldOk x = false):=by show _ = _; rw [HV.out,← hl2.out,decide_eq_false g2]; simp
    go_wp2_with fail
    go_ret
    exact ⟨ret_bool HX.out.symm,hB1⟩
  have g2' : ((n2 : Int) != 3) = false:=by simp; omega
  by_cases g3 : 24 < n3
  · have g3' : (24 : Int) < (n3 : Int):=by omega
    have HX : Hid (worldOk x = false):=by show _ = _; rw [HV.out,← hl3.out,decide_eq_false (p:=n3 ≤ 24) (by omega)]; simp
    have G2:=hidMk g2
    clear g2
    go_wp2_with fail
    go_ret
    exact ⟨ret_bool HX.out.symm,hB1⟩
  have g3' : ¬ (24 : Int) < (n3 : Int):=by omega
  by_cases g4 : 60 < n4
  · have g4' : (60 : Int) < (n4 : Int):=by omega
    have HX : Hid (worldOk x = false):=by show _ = _; rw [HV.out,← hl4.out,decide_eq_false (p:=n4 ≤ 60) (by omega)]; simp
    have G2:=hidMk g2
    clear g2
    go_wp2_with fail
    go_ret
    exact ⟨ret_bool HX.out.symm,hB1⟩
  have g4' : ¬ (60 : Int) < (n4 : Int):=by omega
  by_cases g5 : 60 < n5
  · have g5' : (60 : Int) < (n5 : Int):=by omega
    have HX : Hid (worldOk x = false):=by show _ = _; rw [HV.out,← hl5.out,decide_eq_false (p:=n5 ≤ 60) (by omega)]; simp
    have G2:=hidMk g2
    clear g2
    go_wp2_with fail
    go_ret
    exact ⟨ret_bool HX.out.symm,hB1⟩
  have g5' : ¬ (60 : Int) < (n5 : Int):=by omega
  replace HV : Hid (worldOk x = (keepsFrom 0 x.keeps && x.net.all msgOkM && x.past.all logOk && x.told.all toldB)):=by
    show _ = _
    rw [HV.out,← hl2.out,← hl3.out,← hl4.out,← hl5.out,decide_eq_true g2,decide_eq_true (p:=n3 ≤ 24) (by omega),decide_eq_true (p:=n4 ≤ 60) (by omega),decide_eq_true (p:=n5 ≤ 60) (by omega)]; simp
  have G2:=hidMk g2
  have hB1s:=hB1.size
  have hU3 : U ≤ w1.heap.size:=by omega
  have HS2:=HH.out.keeps.below eltKeep hB1 hU
  have HS3:=HH.out.net.below eltMsg hB1 hU
  have HS4:=HH.out.past.below eltLog hB1 hU
  have HS5:=HH.out.told.below eltTold hB1 hU
  have hBW:=hB1
  clear g2 HH hB1
  go_wp2_with fail
  go_loopg [3] n2 (fun g i wr=>∃ j : Nat,j ≤ n2 ∧ Hid (g = n2 - j) ∧ i = .int .i64 j ∧ Hid (keepsFrom 0 x.keeps = keepsFrom j (x.keeps.drop j)) ∧ Below w1.heap.size w1 wr)
  case atStart=>exact ⟨0,Nat.zero_le _,by show _ = _; omega,rfl,by show _ = _; simp,Below.refl _ _⟩
  case round =>
    obtain ⟨j,hj,hk,rfl,hq,hb⟩:=hrel
    have hs1:=hb.size
    have BX:=HB.out.next hb
    obtain ⟨_,_,f2,f3,f4,f5⟩:=BX.box.c6
    clear BX
    by_cases hlt : j < n2
    · obtain ⟨b9,off,ha,hL,hbU,hc⟩:=HS2.at_ (by omega)
      subst ha
      obtain ⟨y,vs,he,hc,hE⟩:=hc j hlt
      obtain ⟨q,s,ea1,en1,ec1,eb1,ea2,en2,ec2,ea3,en3,ec3,ea4,en4,ec4,rfl,hK⟩:=hE
      have c0:=hc 0 _ rfl
      have c1:=hc 1 _ rfl
      have c2:=hc 2 _ rfl
      have c3:=hc 3 _ rfl
      have c4:=hc 4 _ rfl
      have c5:=hc 5 _ rfl
      have c6:=hc 6 _ rfl
      simp only [Nat.add_zero] at c0
      rw [← hb.cell (by simp; omega)] at c0 c1 c2 c3 c4 c5 c6
      have hsy:=hs.keeps y (List.mem_of_getElem? he)
      have hlt' : (j : Int) < (n2 : Int):=by omega
      have HQ : Hid (keepsFrom 0 x.keeps = ((q == (j : Int)) && keepOk y && keepsFrom (j + 1) (x.keeps.drop (j + 1)))):=by show _ = _; rw [hq.out,keepsFrom_step he,← hK.q]
      have HK:=hidMk (hK.below hb (by omega))
      clear hK
      clear he hc hq
      rcases hw : (q == (j : Int)) with _ | _
      · have hw' : (q != (j : Int)) = true:=by simp [bne,hw]
        have HY : Hid (worldOk x = false):=by show _ = _; rw [HV.out,HQ.out,hw]; simp
        clear HQ
        go_wp2_with fail
        go_ret
        exact ⟨ret_bool HY.out.symm,hBW.trans (hb.mono hBW.size)⟩
      have hw' : (q != (j : Int)) = false:=by simp [bne,hw]
      replace HQ : Hid (keepsFrom 0 x.keeps = (keepOk y && keepsFrom (j + 1) (x.keeps.drop (j + 1)))):=by show _ = _; rw [HQ.out,hw]; simp
      clear hw
      go_wp2_with fail
      refine (specKeepOk _ _ _ _ _ _ _ _ _ _ _ _ _ _ _ y L U _ hsy.base (by omega) HK.out).mono ?_
      rintro e w9 ⟨rfl,hb9⟩
      have hbb:=hb.trans (hb9.mono hs1)
      clear hb9
      rcases hx : keepOk y with _ | _
      · have HY : Hid (worldOk x = false):=by show _ = _; rw [HV.out,HQ.out,hx]; simp
        clear HQ
        go_wp2_with fail
        go_ret
        exact ⟨ret_bool HY.out.symm,hBW.trans (hbb.mono hBW.size)⟩
      · have HY : Hid (keepsFrom 0 x.keeps = keepsFrom (j + 1) (x.keeps.drop (j + 1))):=by show _ = _; rw [HQ.out,hx]; simp
        clear HQ
        go_wp2_with fail
        go_roundg (n2 - (j + 1))
        case measure=>have:=hk.out; omega
        case rel=>exact ⟨j + 1,by omega,rfl,by go_num,HY.out,hbb⟩
    · have HN : Hid (keepsFrom 0 x.keeps = true):=by
        show _ = _
        rw [hq.out,List.drop_of_length_le (by have:=hl2.out; omega)]; rfl
      replace HV : Hid (worldOk x = (x.net.all msgOkM && x.past.all logOk && x.told.all toldB)):=by show _ = _; rw [HV.out,HN.out]; simp
      obtain rfl : j = n2:=by omega
      clear hq HN
      go_wp2_with fail
      have hBW2:=hBW.trans (hb.mono hBW.size)
      clear hBW
      have hBW:=hBW2
      clear hBW2
      have B0:=HB.out.next hb
      clear HB
      have HB:=hidMk B0
      clear B0 f2 f3 f4 f5 hk hlt hj HS2
      replace HS3:=HS3.below eltMsg hb (by omega)
      replace HS4:=HS4.below eltLog hb (by omega)
      replace HS5:=HS5.below eltTold hb (by omega)
      have hU3w:=Nat.le_trans hU3 hs1
      clear hU3 hs1 hb
      have hU3:=hU3w
      clear hU3w
      rename World=>w2
      go_loopg [4] n3 (fun g i wr=>∃ j : Nat,j ≤ n3 ∧ Hid (g = n3 - j) ∧ i = .int .i64 j ∧ Hid (x.net.all msgOkM = (x.net.drop j).all msgOkM) ∧ Below w2.heap.size w2 wr)
      case atStart=>exact ⟨0,Nat.zero_le _,by show _ = _; omega,rfl,by show _ = _; simp,Below.refl _ _⟩
      case round =>
        obtain ⟨j,hj,hk,rfl,hq,hb⟩:=hrel
        have hs1:=hb.size
        have BX:=HB.out.next hb
        obtain ⟨_,_,f2,f3,f4,f5⟩:=BX.box.c6
        clear BX
        by_cases hlt : j < n3
        · obtain ⟨b9,off,ha,hL,hbU,hc⟩:=HS3.at_ (by omega)
          subst ha
          obtain ⟨y,vs,he,hc,hE⟩:=hc j hlt
          obtain ⟨q,s,ba,bn,bc,oa,on,oc,ta,tn,tc,rfl,hcp,hK⟩:=hE
          have c0:=hc 0 _ rfl
          have c1:=hc 1 _ rfl
          have c2:=hc 2 _ rfl
          have c3:=hc 3 _ rfl
          have c4:=hc 4 _ rfl
          have c5:=hc 5 _ rfl
          have c6:=hc 6 _ rfl
          have c7:=hc 7 _ rfl
          have c8:=hc 8 _ rfl
          simp only [Nat.add_zero] at c0
          rw [← hb.cell (by simp; omega)] at c0 c1 c2 c3 c4 c5 c6 c7 c8
          have hsy:=hs.net y (List.mem_of_getElem? he)
          have hlt' : (j : Int) < (n3 : Int):=by omega
          have HQ : Hid (x.net.all msgOkM = (msgOkM y && (x.net.drop (j + 1)).all msgOkM)):=by show _ = _; rw [hq.out,drop_cons he,List.all_cons]
          have HK:=hidMk (hK.below hb (by omega))
          clear hK
          clear he hc hq
          go_wp2_with fail
          refine (specMsgOkE _ _ _ _ _ _ _ _ _ _ _ y L U _ hsy.tree (by omega) HK.out).mono ?_
          rintro e w9 ⟨rfl,hb9⟩
          have hbb:=hb.trans (hb9.mono hs1)
          clear hb9
          rcases hx : msgOkM y with _ | _
          · have HY : Hid (worldOk x = false):=by show _ = _; rw [HV.out,HQ.out,hx]; simp
            clear HQ
            go_wp2_with fail
            go_ret
            exact ⟨ret_bool HY.out.symm,hBW.trans (hbb.mono hBW.size)⟩
          · have HY : Hid (x.net.all msgOkM = (x.net.drop (j + 1)).all msgOkM):=by show _ = _; rw [HQ.out,hx]; simp
            clear HQ
            go_wp2_with fail
            go_roundg (n3 - (j + 1))
            case measure=>have:=hk.out; omega
            case rel=>exact ⟨j + 1,by omega,rfl,by go_num,HY.out,hbb⟩
        · have HN : Hid (x.net.all msgOkM = true):=by
            show _ = _
            rw [hq.out,List.drop_of_length_le (by have:=hl3.out; omega)]; rfl
          replace HV : Hid (worldOk x = (x.past.all logOk && x.told.all toldB)):=by show _ = _; rw [HV.out,HN.out]; simp
          obtain rfl : j = n3:=by omega
          clear hq HN
          go_wp2_with fail
          have hBW3:=hBW.trans (hb.mono hBW.size)
          clear hBW
          have hBW:=hBW3
          clear hBW3
          have B0:=HB.out.next hb
          clear HB
          have HB:=hidMk B0
          clear B0 f2 f3 f4 f5 hk hlt hj HS3
          replace HS4:=HS4.below eltLog hb (by omega)
          replace HS5:=HS5.below eltTold hb (by omega)
          have hU3w:=Nat.le_trans hU3 hs1
          clear hU3 hs1 hb
          have hU3:=hU3w
          clear hU3w
          rename World=>w3
          go_loopg [5] n4 (fun g i wr=>∃ j : Nat,j ≤ n4 ∧ Hid (g = n4 - j) ∧ i = .int .i64 j ∧ Hid (x.past.all logOk = (x.past.drop j).all logOk) ∧ Below w3.heap.size w3 wr)
          case atStart=>exact ⟨0,Nat.zero_le _,by show _ = _; omega,rfl,by show _ = _; simp,Below.refl _ _⟩
          case round =>
            obtain ⟨j,hj,hk,rfl,hq,hb⟩:=hrel
            have hs1:=hb.size
            have BX:=HB.out.next hb
            obtain ⟨_,_,f2,f3,f4,f5⟩:=BX.box.c6
            clear BX
            by_cases hlt : j < n4
            · obtain ⟨b9,off,ha,hL,hbU,hc⟩:=HS4.at_ (by omega)
              subst ha
              obtain ⟨y,vs,he,hc,hE⟩:=hc j hlt
              obtain ⟨q,s,ea1,en1,ec1,ea2,en2,ec2,rfl,hcp,hK⟩:=hE
              have c0:=hc 0 _ rfl
              have c1:=hc 1 _ rfl
              have c2:=hc 2 _ rfl
              have c3:=hc 3 _ rfl
              simp only [Nat.add_zero] at c0
              rw [← hb.cell (by simp; omega)] at c0 c1 c2 c3
              have hlt' : (j : Int) < (n4 : Int):=by omega
              have HQ : Hid (x.past.all logOk = (logOk y && (x.past.drop (j + 1)).all logOk)):=by show _ = _; rw [hq.out,drop_cons he,List.all_cons]
              have HK:=hidMk (hK.below hb (by omega))
              clear hK
              clear he hc hq
              go_wp2_with fail
              refine (specLogOk _ _ _ _ _ _ _ _ y L U _ (by omega) HK.out).mono ?_
              rintro e w9 ⟨rfl,hb9⟩
              have hbb:=hb.trans (hb9.mono hs1)
              clear hb9
              rcases hx : logOk y with _ | _
              · have HY : Hid (worldOk x = false):=by show _ = _; rw [HV.out,HQ.out,hx]; simp
                clear HQ
                go_wp2_with fail
                go_ret
                exact ⟨ret_bool HY.out.symm,hBW.trans (hbb.mono hBW.size)⟩
              · have HY : Hid (x.past.all logOk = (x.past.drop (j + 1)).all logOk):=by show _ = _; rw [HQ.out,hx]; simp
                clear HQ
                go_wp2_with fail
                go_roundg (n4 - (j + 1))
                case measure=>have:=hk.out; omega
                case rel=>exact ⟨j + 1,by omega,rfl,by go_num,HY.out,hbb⟩
            · have HN : Hid (x.past.all logOk = true):=by
                show _ = _
                rw [hq.out,List.drop_of_length_le (by have:=hl4.out; omega)]; rfl
              replace HV : Hid (worldOk x = (x.told.all toldB)):=by show _ = _; rw [HV.out,HN.out]; simp
              obtain rfl : j = n4:=by omega
              clear hq HN
              go_wp2_with fail
              have hBW4:=hBW.trans (hb.mono hBW.size)
              clear hBW
              have hBW:=hBW4
              clear hBW4
              have B0:=HB.out.next hb
              clear HB
              have HB:=hidMk B0
              clear B0 f2 f3 f4 f5 hk hlt hj HS4
              replace HS5:=HS5.below eltTold hb (by omega)
              have hU3w:=Nat.le_trans hU3 hs1
              clear hU3 hs1 hb
              have hU3:=hU3w
              clear hU3w
              rename World=>w4
              go_loopg [6] n5 (fun g i wr=>∃ j : Nat,j ≤ n5 ∧ Hid (g = n5 - j) ∧ i = .int .i64 j ∧ Hid (x.told.all toldB = (x.told.drop j).all toldB) ∧ Below w4.heap.size w4 wr)
              case atStart=>exact ⟨0,Nat.zero_le _,by show _ = _; omega,rfl,by show _ = _; simp,Below.refl _ _⟩
              case round =>
                obtain ⟨j,hj,hk,rfl,hq,hb⟩:=hrel
                have hs1:=hb.size
                have BX:=HB.out.next hb
                obtain ⟨_,_,f2,f3,f4,f5⟩:=BX.box.c6
                clear BX
                by_cases hlt : j < n5
                · obtain ⟨b9,off,ha,hL,hbU,hc⟩:=HS5.at_ (by omega)
                  subst ha
                  obtain ⟨y,vs,he,hc,hE⟩:=hc j hlt
                  obtain rfl : vs = _:=hE
                  have c0:=hc 0 _ rfl
                  have c1:=hc 1 _ rfl
                  have c2:=hc 2 _ rfl
                  simp only [Nat.add_zero] at c0
                  rw [← hb.cell (by simp; omega)] at c0 c1 c2
                  have hlt' : (j : Int) < (n5 : Int):=by omega
                  have HQ : Hid (x.told.all toldB = (toldB y && (x.told.drop (j + 1)).all toldB)):=by show _ = _; rw [hq.out,drop_cons he,List.all_cons]
                  clear he hc hq
                  have hbb : ∀ o,Below w4.heap.size w4 (wr.alloc o):=fun o=>hb.alloc hs1 o
                  have hcase : (toldB y = false ∧ (y.who < 0 ∨ (0 ≤ y.who ∧ 3 ≤ y.who) ∨ (0 ≤ y.who ∧ y.who < 3 ∧ y.seq < 1) ∨ (0 ≤ y.who ∧ y.who < 3 ∧ 1 ≤ y.seq ∧ 1000 < y.seq) ∨ (0 ≤ y.who ∧ y.who < 3 ∧ 1 ≤ y.seq ∧ y.seq ≤ 1000 ∧ y.code < 0) ∨ (0 ≤ y.who ∧ y.who < 3 ∧ 1 ≤ y.seq ∧ y.seq ≤ 1000 ∧ 0 ≤ y.code ∧ 2 < y.code))) ∨ (toldB y = true ∧ 0 ≤ y.who ∧ y.who < 3 ∧ 1 ≤ y.seq ∧ y.seq ≤ 1000 ∧ 0 ≤ y.code ∧ y.code ≤ 2):=by
                    unfold toldB clientB codeB
                    by_cases p1 : 0 ≤ y.who <;> by_cases p2 : y.who < 3 <;> by_cases p3 : 1 ≤ y.seq <;> by_cases p4 : y.seq ≤ 1000 <;> by_cases p5 : 0 ≤ y.code <;> by_cases p6 : y.code ≤ 2 <;> simp [p1,p2,p3,p4,p5,p6] <;> omega
                  rcases hcase with ⟨hx,hd⟩ | ⟨hx,p1,p2,p3,p4,p5,p6⟩
                  · have HY : Hid (worldOk x = false):=by show _ = _; rw [HV.out,HQ.out,hx]; simp
                    clear HQ hx
                    rcases hd with p | ⟨p1,p2⟩ | ⟨p1,p2,p3⟩ | ⟨p1,p2,p3,p4⟩ | ⟨p1,p2,p3,p4,p5⟩ | ⟨p1,p2,p3,p4,p5,p6⟩
                    all_goals
                      go_wp2_with fail
                      go_ret
                      exact ⟨ret_bool HY.out.symm,hBW.trans ((hbb _).mono hBW.size)⟩
                  · have HY : Hid (x.told.all toldB = (x.told.drop (j + 1)).all toldB):=by show _ = _; rw [HQ.out,hx]; simp
                    clear HQ hx
                    go_wp2_with fail
                    go_roundg (n5 - (j + 1))
                    case measure=>have:=hk.out; omega
                    case rel=>exact ⟨j + 1,by omega,rfl,by go_num,HY.out,hbb _⟩
                · have HN : Hid (x.told.all toldB = true):=by
                    show _ = _
                    rw [hq.out,List.drop_of_length_le (by have:=hl5.out; omega)]; rfl
                  have HN2 : Hid (worldOk x = true):=by show _ = _; rw [HV.out,HN.out]
                  go_wp2_with fail
                  go_ret
                  exact ⟨ret_bool HN2.out.symm,hBW.trans (hb.mono hBW.size)⟩
end
section
open Go.RowKit Go.ChangeShapes Go.WideShapes
end
section
open Go.RowKit Go.ChangeShapes Go.WideShapes
end
section
theorem fLaid : laidOutB Tryz.prog = true:=by kernel_rfl
theorem fMaps : mapsRowed Tryz.prog = true:=by kernel_rfl
theorem fStops : (Tryz.prog.stops == []) = true:=by kernel_rfl
theorem fKnobs : (Tryz.prog.stopKnobs == []) = true:=by kernel_rfl
theorem fKeys : (false == Tryz.prog.plainKeys) = true:=by kernel_rfl
theorem fHeard : Tryz.prog.stopsHeard = true:=by kernel_rfl
def chars (l : List Nat) : List Char:=l.map Char.ofNat
def w0 : List Nat:=[104,97,114,110,101,115,115]
def w1 : List Nat:=[102,52,53,57,56,52,101,49,49,55,100,54,97,52,56,53,49,102,51,49,102,97,57,52,54,50,56,97,97,50,48,100,98,102,97,57,57,98,50,53,49,48,55,100,101,53,51,54,101,55,57,53,99,98,48,49,101,52,97,98,102,48,51,102]
def w2 : List Nat:=[99,117,116]
def w3 : List Nat:=[97,116,32,108,111,111,112,46,101,120,97,109,112,108,101,47,115,104,105,101,108,105,110,103,47,108,97,119,115,46,70,110,69,120,97,99,116,84,111,108,100,70,111,108,100,32,108,111,111,112,46,101,120,97,109,112,108,101,47,115,104,105,101,108,105,110,103,47,108,97,119,115,46,70,110,69,120,97,99,116,84,111,108,100,84,114,101,101,32,108,111,111,112,46,101,120,97,109,112,108,101,47,115,104,105,101,108,105,110,103,47,108,97,119,115,46,70,110,69,120,97,99,116,84,111,108,100,79,110,99,101,32,108,111,111,112,46,101,120,97,109,112,108,101,47,115,104,105,101,108,105,110,103,47,108,97,119,115,46,70,110,69,120,97,99,116,84,111,108,100,84,114,117,101,32,108,111,111,112,46,101,120,97,109,112,108,101,47,115,104,105,101,108,105,110,103,47,108,97,119,115,46,70,110,69,120,97,99,116,75,101,101,112,79,107,32,108,111,111,112,46,101,120,97,109,112,108,101,47,115,104,105,101,108,105,110,103,47,108,97,119,115,46,70,110,69,120,97,99,116,75,101,101,112,86,105,101,119,32,108,111,111,112,46,101,120,97,109,112,108,101,47,115,104,105,101,108,105,110,103,47,108,97,119,115,46,70,110,69,120,97,99,116,75,101,101,112,67,108,101,97,114,32,108,111,111,112,46,101,120,97,109,112,108,101,47,115,104,105,101,108,105,110,103,47,108,97,119,115,46,70,110,69,120,97,99,116,87,111,114,108,100,79,107]
theorem signs_word : ∀ (l r : List Char),(l.all fun x=>x.toNat != 32) = true → wordsSigns (l ++ Char.ofNat 32 :: r) = l :: wordsSigns r
  | [],r,_=>rfl
  | x :: l,r,h=>by
    simp only [List.all_cons,Bool.and_eq_true,bne_iff_ne,ne_eq] at h
    have ih:=signs_word l r h.2
    have hx : x ≠ Char.ofNat 32:=fun e=>h.1 (by rw [e]; rfl)
    rw [List.cons_append,wordsSigns.eq_3 x _ (fun e=>hx e),ih]
theorem head_chars : Tryz.prog.initOrder.toList = chars w0 ++ Char.ofNat 32 :: (chars w1 ++ Char.ofNat 32 :: (chars w2 ++ Char.ofNat 32 :: chars w3)):=by
  have h : (String.ofList (chars w0 ++ Char.ofNat 32 :: (chars w1 ++ Char.ofNat 32 :: (chars w2 ++ Char.ofNat 32 :: chars w3)))).toList = chars w0 ++ Char.ofNat 32 :: (chars w1 ++ Char.ofNat 32 :: (chars w2 ++ Char.ofNat 32 :: chars w3)):=String.toList_ofList
  exact (congrArg String.toList (show Tryz.prog.initOrder = String.ofList (chars w0 ++ Char.ofNat 32 :: (chars w1 ++ Char.ofNat 32 :: (chars w2 ++ Char.ofNat 32 :: chars w3))) by kernel_rfl)).trans h
theorem head_words : wordsSigns Tryz.prog.initOrder.toList = chars w0 :: chars w1 :: chars w2 :: wordsSigns (chars w3):=by
  rw [head_chars,signs_word _ _ (by kernel_rfl),signs_word _ _ (by kernel_rfl),signs_word _ _ (by kernel_rfl)]
theorem behind_main (h s : List Char) (r : List (List Char)) (e : ((h == "harness".toList || h == "ownmain".toList) && isSumSigns s) = true) : behindMainWord (h :: s :: r) = r := by
  unfold behindMainWord
  simp only [e,if_true]
theorem head_behind : ∃ ws,behindMainWord (wordsSigns Tryz.prog.initOrder.toList) = chars w2 :: ws :=
  ⟨_,by rw [head_words]; exact behind_main _ _ _ (by kernel_rfl)⟩
theorem lifts_of (c : List Char) (ws : List (List Char)) : ∀ (os : List String),(os.all fun o=>!(c == o.toList)) = true → stripLifts os (c :: ws) = ([],c :: ws)
  | [],_=>rfl
  | o :: os,h=>by
    simp only [List.all_cons,Bool.and_eq_true,Bool.not_eq_true'] at h
    unfold stripLifts
    rw [if_neg (by rw [h.1]; simp)]
    exact lifts_of c ws os h.2
theorem fLater : Tryz.prog.laysLater = false:=by kernel_rfl
theorem fReflect : Tryz.prog.bearsReflect = false:=by kernel_rfl
theorem fDoor : Tryz.prog.doorFits [] = true:=by kernel_rfl
theorem lifts_head {P : Program} {c : List Char} {ws : List (List Char)} (hw : behindMainWord (wordsSigns P.initOrder.toList) = c :: ws) (hl : (liftWords.all fun o=>!(c == o.toList)) = true) : P.headLifts = []:=by
  unfold Program.headLifts
  rw [hw,lifts_of c ws _ hl]
  simp only [ite_self]
theorem enter_of {P : Program} {c : List Char} {ws : List (List Char)} (hw : behindMainWord (wordsSigns P.initOrder.toList) = c :: ws) (hl : (liftWords.all fun o=>!(c == o.toList)) = true)
    (hc : (some c == some "cut".toList) = true) (h1 : P.laysLater = false) (h2 : P.bearsReflect = false) (h3 : P.doorFits [] = true) : P.mayEnter = true := by
  unfold Program.mayEnter
  rw [hw]
  simp only [lifts_of c ws _ hl,h1,h2,h3,List.head?_cons,hc,List.contains_nil,Bool.not_false,Bool.or_true,Bool.and_true]
theorem final_of {P : Program} {c : List Char} {ws : List (List Char)} (hw : behindMainWord (wordsSigns P.initOrder.toList) = c :: ws) (hl : (liftWords.all fun o=>!(c == o.toList)) = true)
    (hc : (some c == some "carried".toList) = false) : P.liftsFinal = false := by
  unfold Program.liftsFinal
  rw [lifts_head hw hl,hw]
  simp only [List.head?_cons,hc,Bool.false_and,List.contains_nil,Bool.or_false]
theorem make_of {P : Program} {c : List Char} {ws : List (List Char)} (hw : behindMainWord (wordsSigns P.initOrder.toList) = c :: ws)
    (h1 : (c == "gc".toList || c == "spec".toList) = false) (h2 : (c == "cut".toList) = true) : P.make = some .cut := by
  unfold Program.make
  rw [hw]
  simp only [h1,h2,Bool.true_or,if_true,Bool.false_eq_true,if_false]
theorem fEnter : Tryz.prog.mayEnter = true:=by
  obtain ⟨ws,hw⟩:=head_behind
  exact enter_of hw (by kernel_rfl) (by kernel_rfl) fLater fReflect fDoor
theorem fFinal : (Rows.fnExactKeepOkRow.lifted == Tryz.prog.liftsFinal) = true:=by
  obtain ⟨ws,hw⟩:=head_behind
  rw [final_of hw (by kernel_rfl) (by kernel_rfl)]; rfl
theorem fMake : (Tryz.prog.make == some Rows.fnExactKeepOkRow.make) = true:=by
  obtain ⟨ws,hw⟩:=head_behind
  rw [make_of hw (by kernel_rfl) (by kernel_rfl)]; rfl
end
end Go.Proofs.YtloopeipheklpaaGreatDoor
