/- Lemmas that the proofs of this seat share: MarkX, SlimX, ExactDoA, ExactDoB, AllA, LogQ, AllD, ActCode, ActTurn, ActFit, AllP, KeepP, MsgB2, LogC. -/
import Derived.Test.YtloopeipheklpaaGreatDoorW21
import Derived.Test.YtloopeipheklpaaGreatDoorW01
import Derived.Test.YtloopeipheklpaaGreatDoorW04
import Derived.Deep.RegionWith
import Derived.RowKitTokens
import Derived.Test.YtloopeipheklpaaGreatDoorW17
import Derived.Test.YtloopeipheklpaaGreatDoorW08
import Derived.Test.YtloopeipheklpaaGreatDoorW18
import Derived.Test.YtloopeipheklpaaGreatDoorW14
import Derived.Test.YtloopeipheklpaaGreatDoorW09
import Derived.Test.YtloopeipheklpaaGreatDoorW11
import Derived.Deep.RegionHeld3
import Derived.Test.YtloopeipheklpaaGreatDoorW05
namespace Go.Proofs.YtloopeipheklpaaGreatDoor
section
open Go.RowKit
end
section
open Go.RowKit
end
section
open Go.RowKit
section
variable {ops : Array Oper} {ac : Act} {K : Act → World → Prop} {Q : Exit → Act → World → Prop} {E : Prop} {ty : TypeId} {ps : String} {af : Array Edge}
theorem st_alloc31 (W : World) (d : Nat)
    (h : ∀ q W',q = W.heap.size → Below W.heap.size W W' → W'.rowIs q 26 1 (zrow #[.slice none 0 0]) → K (ac.put (some d) (.pointer (some ⟨q,0,none⟩))) W') :
    if Region.wanted { dst:=some d,op:=.alloc 26,type:=ty,pos:=ps,after:=af,guard:=none } (yielded ops ac.tmps) = true then Oper.wp Tryz.prog { dst:=some d,op:=.alloc 26,type:=ty,pos:=ps,after:=af,guard:=none } ac W K Q else E:=by
  rw [if_pos (by simp [Region.wanted])]
  have:=h W.heap.size (W.alloc (.cells #[.slice none 0 0] 26)) rfl ((Below.refl _ _).alloc (Nat.le_refl _) _) (zrow_new W _ 26)
  unfold Oper.wp
  go_simp
  exact this
theorem st_store31 (W : World) (tp tv : Nat) (q : Nat) (a : Option Addr) (n c : Nat) (hp : ac.tmps[tp]?.getD undef = .pointer (some ⟨q,0,none⟩)) (hv : ac.tmps[tv]?.getD undef = .agg #[.slice a n c]) (hr : W.rowIs q 26 1 (zrow #[.slice none 0 0]))
    (h : ∀ W',But q W W' → W'.cell? ⟨q,0,none⟩ = some (.slice a n c) → Hid (W' = W.setCell ⟨q,0,none⟩ (.slice a n c)) → K ac W') :
    if Region.wanted { dst:=none,op:=.store 26 (.tmp tp) (.tmp tv),type:=ty,pos:=ps,after:=af,guard:=none } (yielded ops ac.tmps) = true then Oper.wp Tryz.prog { dst:=none,op:=.store 26 (.tmp tp) (.tmp tv),type:=ty,pos:=ps,after:=af,guard:=none } ac W K Q else E:=by
  rw [if_pos (by simp [Region.wanted])]
  have c0 : W.cell? ⟨q,0,none⟩ = some (.slice none 0 0):=by rw [hr.cell (by omega)]; rfl
  have z0:=hr.frozen 0
  have r2:=hr.set 0 (.slice a n c)
  have:=h (W.setCell ⟨q,0,none⟩ (.slice a n c)) ((But.refl q W).set _ _) (by rw [r2.cell (by omega)]; rfl) rfl
  clear h hr r2
  unfold Oper.wp
  go_simp
  exact this
end
end
section
open Go.RowKit
end
section
open Go.RowKit
def allGo (os0 : List LObj) : List LObj → List LOp → Nat → List LObj × Int × Nat
  | os,[],i=>(os,0,i)
  | os,o :: r,i=>if (actDo os o).2 = 0 then allGo os0 (actDo os o).1 r (i + 1) else (os0,(actDo os o).2,i)
def allR (os : List LObj) (ops : List LOp) : List LObj × Int × Nat:=if specOk os = true ∧ formsB ops = true then allGo os os ops 0 else ([],8,0)
theorem allGo_end (os0 os : List LObj) {ops : List LOp} {j : Nat} (h : ops.length ≤ j) : allGo os0 os (ops.drop j) j = (os,0,j):=by
  rw [List.drop_of_length_le h]; rfl
theorem allGo_step (os0 os : List LObj) {ops : List LOp} {j : Nat} {o : LOp} (h : ops[j]? = some o) : allGo os0 os (ops.drop j) j = if (actDo os o).2 = 0 then allGo os0 (actDo os o).1 (ops.drop (j + 1)) (j + 1) else (os0,(actDo os o).2,j):=by
  rw [drop_cons h]; rfl
def AllEnd (w : World) (r : List LObj × Int × Nat) (e : Ending) (w' : World) : Prop :=
  ((r.1 = [] ∧ e = .returned (.tuple #[.agg #[.slice none 0 0],.int .i64 r.2.1,.int .i64 (r.2.2 : Nat)])) ∨ ∃ b c vs,e = .returned (.tuple #[.agg #[.slice (some ⟨b,0,none⟩) r.1.length c],.int .i64 r.2.1,.int .i64 (r.2.2 : Nat)]) ∧ OwnT w' w.heap.size b c r.1 vs) ∧ Below w.heap.size w w'
theorem forms_op {ops : List LOp} (h : formsB ops = true) {j : Nat} {o : LOp} (ho : ops[j]? = some o) : opOk o = true:=by
  unfold formsB at h
  rw [Bool.and_eq_true] at h
  exact List.all_eq_true.1 h.2 o (List.mem_of_getElem? ho)
theorem ok_bd {os : List LObj} (hs : specOk os = true) : Bd os 1000000:=fun x hx=>by
  obtain ⟨i,hi,rfl⟩:=List.getElem_of_mem hx
  have h9 : os[i]? = some os[i]:=List.getElem?_eq_getElem hi
  have:=ok_ver hs h9
  have:=ok_kids hs h9
  exact ⟨by omega,by omega,by omega⟩
theorem OwnT.far {W : World} {B b c q : Nat} {X : TypeId} {os : List LObj} {vs : Nat → Value} {f : Nat → Value} (h : OwnT W B b c os vs) (hX : X ≠ 165 ∧ X ≠ 247) (hq : W.rowIs q X 1 f) : q ≠ b ∧ ∀ i,i < os.length → (vs i).ownBlock ≠ some q:=by
  obtain ⟨cc,hqq,-⟩:=hq
  obtain ⟨cur,hr,-⟩:=h.row
  refine ⟨fun e=>?_,fun i hi e=>?_⟩
  · subst e; rw [hr] at hqq
    have:=Option.some.inj hqq
    injection this with _ h2
    exact hX.1 h2.symm
  · have ho:=(h.at_ i (os[i]'hi) (List.getElem?_eq_getElem hi)).2.2.2.2.2.1
    rcases ho.2 with ⟨hn,_⟩ | ⟨g,cap,cur2,hv,hb,hgg,_⟩
    · rw [hn] at e; cases e
    · rw [hv] at e
      simp [Value.ownBlock] at e
      subst e
      rw [hgg] at hqq
      have:=Option.some.inj hqq
      injection this with _ h2
      exact hX.2 h2.symm
structure LZ (w W : World) (T : Nat) (X : TypeId) (a : Option Addr) (n c b1 c1 : Nat) : Prop where
  below : Below w.heap.size w W
  t : W.cell? ⟨w.heap.size,0,none⟩ = some (.slice a n c)
  r : ∃ f,W.rowIs (w.heap.size + 1) 26 1 f
  x : W.cell? ⟨T,0,none⟩ = some (.slice (some ⟨b1,0,none⟩) n c1)
  xr : ∃ f,W.rowIs T X 1 f
  lo : w.heap.size + 1 < T
  lt : T < W.heap.size
theorem LZ.of {w W W' : World} {T : Nat} {X : TypeId} {a : Option Addr} {n c b1 c1 : Nat} (h : LZ w W T X a n c b1 c1) (hb : Below (w.heap.size + 1 + 1) W W') (hT : W'.heap[T]? = W.heap[T]?) : LZ w W' T X a n c b1 c1:=by
  obtain ⟨f,hf⟩:=h.r
  obtain ⟨g,hg⟩:=h.xr
  exact ⟨h.below.trans (hb.mono (by omega)),by rw [hb.cell (by simp; omega)]; exact h.t,⟨f,hf.of_block (hb.block _ (by omega))⟩,by rw [World.cell?_of_block (w:=W) hT]; exact h.x,⟨g,hg.of_block hT⟩,h.lo,by have:=hb.size; have:=h.lt; omega⟩
theorem LZ.next {w W W' : World} {T : Nat} {X : TypeId} {a : Option Addr} {n c b1 c1 : Nat} (h : LZ w W T X a n c b1 c1) (hb : Below W.heap.size W W') : LZ w W' T X a n c b1 c1 :=
  h.of (hb.mono (by have:=h.lo; have:=h.lt; omega)) (hb.block _ h.lt)
theorem LZ.but {w W W' : World} {T : Nat} {X : TypeId} {a : Option Addr} {n c b1 c1 q : Nat} (h : LZ w W T X a n c b1 c1) (hb : But q W W') (hq : T < q) : LZ w W' T X a n c b1 c1 :=
  h.of (hb.below.mono (by have:=h.lo; omega)) (hb.below.block _ hq)
theorem LZ.call {w W W' : World} {T : Nat} {X : TypeId} {a : Option Addr} {n c b1 c1 : Nat} {os : List LObj} {vs : Nat → Value} (h : LZ w W T X a n c b1 c1) (hX : X ≠ 165 ∧ X ≠ 247) (hn : os.length = n) (ht : OwnT W (w.heap.size + 1 + 1) b1 c1 os vs) (hb : Below (w.heap.size + 1 + 1) W W') (hk : Kt W W' b1 n vs) : LZ w W' T X a n c b1 c1:=by
  obtain ⟨g,hg⟩:=h.xr
  obtain ⟨n1,n2⟩:=ht.far hX hg
  exact h.of hb (hk T h.lt n1 fun i hi=>n2 i (by omega))
theorem LZ.put {w W : World} {T : Nat} {X : TypeId} {a : Option Addr} {n c b1 c1 : Nat} (h : LZ w W T X a n c b1 c1) (_ : X ≠ 165) : LZ w (W.setCell ⟨T,0,none⟩ (.slice (some ⟨b1,0,none⟩) n c1)) T X a n c b1 c1:=by
  obtain ⟨f,hf⟩:=h.r
  obtain ⟨g,hg⟩:=h.xr
  have hb : ∀ q,q ≠ T → (W.setCell ⟨T,0,none⟩ (.slice (some ⟨b1,0,none⟩) n c1)).heap[q]? = W.heap[q]?:=fun q hq=>Below.heap_setCell W ⟨T,0,none⟩ _ q hq
  exact ⟨h.below.setCell (by show _ ≤ T; have:=h.lo; omega) _,by rw [World.cell?_of_block (w:=W) (hb _ (by show w.heap.size ≠ T; have:=h.lo; omega))]; exact h.t,⟨f,hf.of_block (hb _ (by have:=h.lo; omega))⟩,World.cell?_setCell_same _ _ _ h.x,⟨_,hg.set 0 _⟩,h.lo,by simpa using h.lt⟩
structure YB (W : World) (q n b1 c1 : Nat) : Prop where
  box : W.cell? ⟨q,0,none⟩ = some (.slice (some ⟨b1,0,none⟩) n c1)
  lt : q < W.heap.size
end
section
open Go.RowKit
end
section
open Go.RowKit
theorem allGo_ok (os0 : List LObj) (h0 : specOk os0 = true) : ∀ (ops : List LOp) (os : List LObj) (i : Nat),specOk os = true → (∀ o ∈ ops,opOk o = true) → specOk (allGo os0 os ops i).1 = true
  | [],os,i,hs,_=>hs
  | o :: r,os,i,hs,ho=>by
    unfold allGo
    split
    · next h=>exact allGo_ok os0 h0 r _ _ (act_ok hs (ho o (by simp)) h) fun x hx=>ho x (by simp [hx])
    · exact h0
theorem allR_ok (os : List LObj) (ops : List LOp) : (allR os ops).1 = [] ∨ specOk (allR os ops).1 = true:=by
  unfold allR
  split
  · next h =>
    refine .inr (allGo_ok os h.1 ops os 0 h.1 fun o ho=>?_)
    obtain ⟨j,hj,rfl⟩:=List.getElem_of_mem ho
    exact forms_op h.2 (List.getElem?_eq_getElem hj)
  · exact .inl rfl
end
section
end
section
end
section
end
section
end
section
open Go.RowKit Go.ChangeShapes Go.WideShapes
def shelfB (s : List (List LOp)) : Bool:=decide (s.length ≤ 4) && s.all (fun l=>decide (l.length ≤ 120) && l.all opOk)
def midR (k : LKeep) : List LObj × Int × Nat:=allGo k.base k.base k.sent 0
def viewR (k : LKeep) : List LObj × Int × Nat:=if (midR k).2.1 = 0 then allGo (midR k).1 (midR k).1 k.list 0 else midR k
def clientB (q : Int) : Bool:=decide (0 ≤ q) && decide (q < 3)
def sentB (s : Int) (b : Bool) (n : Nat) : Bool:=(b == decide (0 < n)) && ((decide (1 ≤ s) && decide (s ≤ 1000)) || ((s == 0) && !b))
def keepB (k : LKeep) : Bool:=clientB k.who && sentB k.seq k.waits k.sent.length && shelfB k.shelf && specOk k.base && formsB k.sent && formsB k.list
def keepOk (k : LKeep) : Bool:=keepB k && ((viewR k).2.1 == 0)
def viewB (k : LKeep) : Bool:=((allR k.base k.sent).2.1 == 0) && ((allR (allR k.base k.sent).1 k.list).2.1 == 0)
theorem forms_all {ops : List LOp} (h : formsB ops = true) : ∀ o ∈ ops,opOk o = true:=by
  unfold formsB at h
  rw [Bool.and_eq_true] at h
  exact List.all_eq_true.1 h.2
theorem mid_ok {k : LKeep} (hs : specOk k.base = true) (hf : formsB k.sent = true) : specOk (midR k).1 = true:=allGo_ok k.base hs k.sent k.base 0 hs (forms_all hf)
theorem keepOk_impl (k : LKeep) : keepOk k = (clientB k.who && sentB k.seq k.waits k.sent.length && shelfB k.shelf && viewB k):=by
  unfold keepOk keepB viewB viewR
  rcases h1 : clientB k.who <;> rcases h2 : sentB k.seq k.waits k.sent.length <;> rcases h3 : shelfB k.shelf <;> simp only [Bool.false_and,Bool.and_false,Bool.true_and]
  rcases hs : specOk k.base with _ | _
  · simp [allR,hs]
  rcases hf : formsB k.sent with _ | _
  · simp [allR,hf]
  have e : allR k.base k.sent = midR k:=by unfold allR midR; rw [if_pos ⟨hs,hf⟩]
  rw [e]
  by_cases hc : (midR k).2.1 = 0
  · have hm:=mid_ok hs hf
    rcases hl : formsB k.list with _ | _
    · simp [allR,hl]
    · have e2 : allR (midR k).1 k.list = allGo (midR k).1 (midR k).1 k.list 0:=by unfold allR; rw [if_pos ⟨hm,hl⟩]
      simp [hc,e2]
  · have hz : ((midR k).2.1 == 0) = false:=by simpa using hc
    rw [if_neg hc]
    simp only [hz,Bool.and_false,Bool.false_and]
theorem AllEnd.objsK {w w' : World} {r : List LObj × Int × Nat} {e : Ending} (h : AllEnd w r e w') : ∃ a n c,e = .returned (.tuple #[.agg #[.slice a n c],.int .i64 r.2.1,.int .i64 (r.2.2 : Nat)]) ∧ ObjsAt w' w.heap.size w'.heap.size a n r.1 ∧ Below w.heap.size w w':=by
  obtain ⟨h,hb⟩:=h
  rcases h with ⟨h0,he⟩ | ⟨b,c,vs,he,ho⟩
  · exact ⟨none,0,0,he,by rw [h0]; exact ⟨rfl,by simp,fun h=>absurd rfl h⟩,hb⟩
  · exact ⟨_,_,c,he,ho.to_objs,hb⟩
theorem okSizes {os : List LObj} (hs : specOk os = true) : Sizes os 1048576:=fun o ho=>by have:=(ok_bd hs o ho).2.2; omega
theorem allR_sizes (os : List LObj) (ops : List LOp) : Sizes (allR os ops).1 1048576:=by
  rcases allR_ok os ops with h | h
  · rw [h]; intro o ho; cases ho
  · exact okSizes h
structure HeldB (w wx : World) (q : Nat) (t : TypeId) (vs : List Value) : Prop where
  below : Below w.heap.size w wx
  box : BoxI wx q t vs
  lo : w.heap.size ≤ q
theorem HeldB.next {w wx wy : World} {q : Nat} {t : TypeId} {vs : List Value} (h : HeldB w wx q t vs) (hb : Below wx.heap.size wx wy) : HeldB w wy q t vs:=⟨h.below.trans (hb.mono h.below.size),h.box.next hb h.box.lt,h.lo⟩
theorem HeldB.drew {w wx : World} {q : Nat} {t : TypeId} {vs : List Value} (h : HeldB w wx q t vs) : HeldB w wx.drew q t vs:=h.next (Below.refl _ _).drew
theorem HeldB.hi {w wx : World} {q : Nat} {t : TypeId} {vs : List Value} (h : HeldB w wx q t vs) : q < wx.heap.size:=h.box.lt
theorem HeldB.new (w : World) (A : Array Value) (t : TypeId) : HeldB w (w.alloc (.cells A t)) w.heap.size t A.toList:=⟨(Below.refl _ _).alloc (Nat.le_refl _) _,BoxI.new rfl,Nat.le_refl _⟩
end
section
open Go.RowKit
theorem baseOf_parts (x : LBase) (k : Nat) : ((x.id != (k : Int)) = false ∧ 0 ≤ x.ver ∧ x.ver ≤ 1000000 ∧ baseOf x k = true) ∨ ((x.id != (k : Int)) = true ∧ baseOf x k = false) ∨ ((x.id != (k : Int)) = false ∧ x.ver < 0 ∧ baseOf x k = false) ∨ ((x.id != (k : Int)) = false ∧ 0 ≤ x.ver ∧ 1000000 < x.ver ∧ baseOf x k = false):=by
  cases h0 : (x.id == (k : Int))
  · exact .inr (.inl ⟨by simp [bne,h0],by simp [baseOf,h0]⟩)
  · have h0' : (x.id != (k : Int)) = false:=by simp [bne,h0]
    by_cases h1 : 0 ≤ x.ver
    · by_cases h2 : x.ver ≤ 1000000
      · exact .inl ⟨h0',h1,h2,by simp [baseOf,h0,h1,h2]⟩
      · exact .inr (.inr (.inr ⟨h0',h1,by omega,by simp [baseOf]; omega⟩))
    · exact .inr (.inr (.inl ⟨h0',by omega,by simp [baseOf]; omega⟩))
set_option maxHeartbeats 4000000 in
set_option maxRecDepth 20000 in
theorem specLogOk (q s : Int) (a : Option Addr) (n c : Nat) (a' : Option Addr) (n' c' : Nat) (l : LLog) (L U : Nat) (w : World) (hU : U ≤ w.heap.size) (H : LogAt w L U q s a n a' n' l) :
    Calls Tryz.prog 44 #[.agg #[.int .i64 q,.int .i64 s,.slice a n c,.slice a' n' c']] w fun e w'=>e = .returned (.bool (logOk l)) ∧ Below w.heap.size w w':=by
  have HV : Hid (logOk l = (whoB q s && formsB l.list && basesFor l.bases (logIds l.list))):=by show _ = _; unfold logOk; rw [H.q,H.s]
  have HB:=H.b
  have HO:=H.o
  have hbd:=HB.bd
  unfold maxLen at hbd
  clear H
  have hA : ∀ o1 : Obj,Below w.heap.size w (w.alloc o1):=fun o1=>(Below.refl _ _).alloc (Nat.le_refl _) _
  by_cases q0 : q < 0
  · go_enter Tryz.func44,Tryz.ntmps44
    go_wp2_with fail
    go_ret
    exact ⟨ret_bool (by rw [HV.out]; simp [whoB]; omega),hA _⟩
  by_cases q3 : 3 ≤ q
  · go_enter Tryz.func44,Tryz.ntmps44
    go_wp2_with fail
    go_ret
    exact ⟨ret_bool (by rw [HV.out]; simp [whoB]; omega),hA _⟩
  by_cases s1 : s < 1
  · go_enter Tryz.func44,Tryz.ntmps44
    go_wp2_with fail
    go_ret
    exact ⟨ret_bool (by rw [HV.out]; simp [whoB]; omega),hA _⟩
  by_cases s2 : 1000 < s
  · go_enter Tryz.func44,Tryz.ntmps44
    go_wp2_with fail
    go_ret
    exact ⟨ret_bool (by rw [HV.out]; simp [whoB]; omega),hA _⟩
  have HW : Hid (whoB q s = true):=by show _ = _; simp [whoB]; omega
  go_enter Tryz.func44,Tryz.ntmps44
  go_wp2_with fail
  refine (forms_any _ _ _ _ L U _ (by simp; omega) (HO.below (hA _) hU)).mono ?_
  rintro e w1 ⟨rfl,hb1⟩
  have h1 : Below w.heap.size w w1:=(hA _).trans (hb1.mono (by simp))
  have c2 : w1.cell? ⟨w.heap.size,2,none⟩ = some (.slice a n c):=by rw [hb1.cell (by simp)]; simp [go_sem]
  have c3 : w1.cell? ⟨w.heap.size,3,none⟩ = some (.slice a' n' c'):=by rw [hb1.cell (by simp)]; simp [go_sem]
  have hz1 : w.heap.size < w1.heap.size:=by have:=hb1.size; simp at this; omega
  clear hb1
  rcases t1 : formsB l.list with _ | _
  · go_wp2_with fail
    go_ret
    exact ⟨ret_bool (by rw [HV.out,t1]; simp),h1⟩
  go_wp2_with fail
  refine (specLogIds _ _ _ _ L U _ (by have:=h1.size; omega) (HO.below h1 hU)).mono ?_
  rintro e w2 ⟨⟨v2,rfl,hv2⟩,hb2⟩
  obtain ⟨a2,k2,rfl,hI⟩:=hv2.out.at_
  have h2 : Below w.heap.size w w2:=h1.trans (hb2.mono h1.size)
  have d2 : w2.cell? ⟨w.heap.size,2,none⟩ = some (.slice a n c):=by rw [hb2.cell (by simpa using hz1)]; exact c2
  have hz2:=hb2.size
  obtain ⟨ids,hids⟩ : ∃ ids,ids = logIds l.list:=⟨_,rfl⟩
  have hle:=logIds_le l.list
  rw [← hids] at hI hle
  have HV2 : Hid (logOk l = basesFor l.bases ids):=by show _ = _; rw [HV.out,HW.out,t1,hids]; simp
  have HIL : Hid (∃ m,m = ids.length):=⟨_,rfl⟩
  rw [← hids]
  clear hids hv2 hb2 c2 c3
  obtain ⟨m,hm⟩:=HIL.out
  rw [← hm] at hI hle ⊢
  by_cases hnn : m = n
  case neg =>
    have hne : ((m : Int) != n) = true:=by simp; omega
    have HN : Hid (basesFor l.bases ids = false):=basesFor_len (by rw [← HB.len,← hI.1]; exact fun h=>hnn h.symm)
    go_wp2_with fail
    go_ret
    exact ⟨ret_bool (by rw [HV2.out,HN.out]),h2⟩
  subst hnn
  go_wp2_with fail
  go_loopg [4] m (fun g i wr=>∃ j : Nat,j ≤ m ∧ Hid (g = m - j) ∧ i = .int .i64 j ∧ Hid (∀ i,i < j → ∀ x y,l.bases[i]? = some x → ids[i]? = some y → baseOf x y = true) ∧ ∃ q,wr = w2.drewN q)
  case atStart=>exact ⟨0,Nat.zero_le _,rfl,rfl,fun i hi=>by omega,0,rfl⟩
  case round =>
    obtain ⟨j,hj,hk,rfl,hq,qq,rfl⟩:=hrel
    by_cases hlt : j < m
    · obtain ⟨b,off,ha,hL,hbU,hc⟩:=HB.at_ (by omega)
      subst ha
      obtain ⟨x,he,c0,c1⟩:=hc j hlt
      obtain ⟨g,k,rfl,hg1,hg2,he2,d0⟩:=hI.2 j hlt
      rw [← h2.cell (by simp; omega)] at c0 c1
      have HE : Hid (l.bases[j]? = some x ∧ ids[j]? = some k):=⟨he,he2⟩
      have hlt' : (j : Int) < (m : Int):=by omega
      clear he he2 hc
      rcases baseOf_parts x k with ⟨t0,t1,t2,ht⟩ | ⟨t0,ht⟩ | ⟨t0,t1,ht⟩ | ⟨t0,t1,t2,ht⟩
      · have HT : Hid (baseOf x k = true):=ht
        clear ht
        go_wp2_with fail
        go_quiet (fail)
        go_wp2_with fail
        go_roundg (m - (j + 1))
        case measure=>have:=hk.out; omega
        case rel =>
          refine ⟨j + 1,by omega,rfl,by go_num,fun i hi x' y' hx hy=>?_,_,rfl⟩
          by_cases e : i = j
          · subst e
            rw [HE.out.1] at hx
            rw [HE.out.2] at hy
            cases hx
            cases hy
            exact HT.out
          · exact hq.out i (by omega) x' y' hx hy
      all_goals
        have HN : Hid (basesFor l.bases ids = false):=basesFor_no HE.out.1 HE.out.2 ht
        clear ht
        go_wp2_with fail
        go_quiet (fail)
        go_wp2_with fail
        go_ret
        exact ⟨ret_bool (by rw [HV2.out,HN.out]),by rw [World.drewN_drewN]; exact h2.trans ((Below.drewN _ _).mono h2.size)⟩
    · have HN : Hid (basesFor l.bases ids = true):=basesFor_yes (by rw [← HB.len,← hI.1]) (fun i x y hx hy=>hq.out i (by have:=(List.getElem?_eq_some_iff.1 hx).1; have:=HB.len; omega) x y hx hy)
      go_wp2_with fail
      go_ret
      exact ⟨ret_bool (by rw [HV2.out,HN.out]),h2.trans ((Below.drewN _ _).mono h2.size)⟩
end
section
open Go.RowKit
def noneL (l : LLog) : Bool:=(l.who == 0) && (l.seq == 0) && l.bases.isEmpty && l.list.isEmpty
def nothing : LLog:=⟨0,0,[],[]⟩
theorem listEq_nil {α : Type} (f : α → α → Bool) (l : List α) : listEq f l [] = l.isEmpty:=by cases l <;> rfl
theorem logEq_nothing (l : LLog) : logEq l nothing = noneL l:=by simp [logEq,noneL,nothing,listEq_nil]
def logPart (b : Bool) (who seq : Int) (l : LLog) : Bool:=if b = true then logOk l && ((l.who == who) && (l.seq == seq)) else noneL l
def codePart (b : Bool) (c : Int) : Bool:=if b = true then decide (0 ≤ c) && decide (c ≤ 2) else c == 0
def treePart (b : Bool) (os : List LObj) : Bool:=if b = true then specOk os else os.isEmpty
def mpartsB (lb cb tb : Bool) (who seq code : Int) (l : LLog) (os : List LObj) : Bool:=logPart lb who seq l && codePart cb code && treePart tb os
def kindB (k : Int) : Bool:=decide (1 ≤ k) && decide (k ≤ 4)
def msgOk (k who seq code : Int) (l : LLog) (os : List LObj) : Bool:=kindB k && (whoB who seq && mpartsB (k == 3) (k == 4) (k == 2 || k == 4) who seq code l os)
theorem ownerOf_any (k who seq q s : Int) (ba : Option Addr) (bn bc : Nat) (oa : Option Addr) (on oc : Nat) (code : Int) (ta : Option Addr) (tn tc : Nat) (w : World) :
    Calls Tryz.prog 163 #[.agg #[.int .i64 k,.int .i64 who,.int .i64 seq,.int .i64 q,.int .i64 s,.slice ba bn bc,.slice oa on oc,.int .i64 code,.slice ta tn tc]] w fun e w'=>e = .returned (.agg #[.int .i64 who,.int .i64 seq]) ∧ Below w.heap.size w w':=by
  go_enter Tryz.func163,Tryz.ntmps163
  go_wp2
  exact bodyPost_ret (v:=.agg #[.int .i64 who,.int .i64 seq]) (by simp [results,Tryz.results163,go_sem]) rfl ⟨rfl,by
    repeat (first | exact Below.refl _ _ | refine Below.setCell ?_ (by simp <;> omega) _ | refine Below.alloc ?_ (by simp <;> omega) _)⟩
theorem mw1 (w : World) : Calls Tryz.prog 162 #[.int .i64 1] w fun e w'=>e = .returned (.string ⟨#[102,101,116,99,104]⟩) ∧ w' = w:=by
  go_enter Tryz.func162,Tryz.ntmps162
  go_wp2
  go_ret
  exact ⟨rfl,rfl⟩
theorem mw2 (w : World) : Calls Tryz.prog 162 #[.int .i64 2] w fun e w'=>e = .returned (.string ⟨#[116,114,101,101]⟩) ∧ w' = w:=by
  go_enter Tryz.func162,Tryz.ntmps162
  go_wp2
  go_ret
  exact ⟨rfl,rfl⟩
theorem mw3 (w : World) : Calls Tryz.prog 162 #[.int .i64 3] w fun e w'=>e = .returned (.string ⟨#[108,111,103]⟩) ∧ w' = w:=by
  go_enter Tryz.func162,Tryz.ntmps162
  go_wp2
  go_ret
  exact ⟨rfl,rfl⟩
theorem mw4 (w : World) : Calls Tryz.prog 162 #[.int .i64 4] w fun e w'=>e = .returned (.string ⟨#[118,101,114,100,105,99,116]⟩) ∧ w' = w:=by
  go_enter Tryz.func162,Tryz.ntmps162
  go_wp2
  go_ret
  exact ⟨rfl,rfl⟩
theorem mw0 {k : Int} (h1 : (k == 1) = false) (h2 : (k == 2) = false) (h3 : (k == 3) = false) (h4 : (k == 4) = false) (w : World) : Calls Tryz.prog 162 #[.int .i64 k] w fun e w'=>e = .returned (.string ⟨#[]⟩) ∧ w' = w:=by
  go_enter Tryz.func162,Tryz.ntmps162
  go_wp2
  go_ret
  exact ⟨rfl,rfl⟩
theorem vw0 (w : World) : Calls Tryz.prog 170 #[.int .i64 0] w fun e w'=>e = .returned (.string ⟨#[100,111,110,101]⟩) ∧ w' = w:=by
  go_enter Tryz.func170,Tryz.ntmps170
  go_wp2
  go_ret
  exact ⟨rfl,rfl⟩
theorem vw1 (w : World) : Calls Tryz.prog 170 #[.int .i64 1] w fun e w'=>e = .returned (.string ⟨#[99,108,97,115,104]⟩) ∧ w' = w:=by
  go_enter Tryz.func170,Tryz.ntmps170
  go_wp2
  go_ret
  exact ⟨rfl,rfl⟩
theorem vw2 (w : World) : Calls Tryz.prog 170 #[.int .i64 2] w fun e w'=>e = .returned (.string ⟨#[111,108,100]⟩) ∧ w' = w:=by
  go_enter Tryz.func170,Tryz.ntmps170
  go_wp2
  go_ret
  exact ⟨rfl,rfl⟩
theorem vwn {k : Int} (h1 : (k == 0) = false) (h2 : (k == 1) = false) (h3 : (k == 2) = false) (w : World) : Calls Tryz.prog 170 #[.int .i64 k] w fun e w'=>e = .returned (.string ⟨#[]⟩) ∧ w' = w:=by
  go_enter Tryz.func170,Tryz.ntmps170
  go_wp2
  go_ret
  exact ⟨rfl,rfl⟩
def PartsEnd (k : Int) (w : World) (e : Ending) (w' : World) : Prop:=e = .returned (.agg #[.bool (k == 3),.bool (k == 4),.bool (k == 2 || k == 4)]) ∧ Below w.heap.size w w'
theorem parts_any (k : Int) (w : World) : Calls Tryz.prog 164 #[.int .i64 k] w fun e w'=>PartsEnd k w e w':=by
  by_cases h4 : k = 4
  · subst h4
    go_enter Tryz.func164,Tryz.ntmps164
    go_wp2
    exact bodyPost_ret (v:=.agg #[.bool false,.bool true,.bool true]) (by simp [results,Tryz.results164,go_sem]) rfl ⟨rfl,by
      repeat (first | exact Below.refl _ _ | refine Below.setCell ?_ (by simp <;> omega) _ | refine Below.alloc ?_ (by simp <;> omega) _)⟩
  by_cases h2 : k = 2
  · subst h2
    go_enter Tryz.func164,Tryz.ntmps164
    go_wp2
    exact bodyPost_ret (v:=.agg #[.bool false,.bool false,.bool true]) (by simp [results,Tryz.results164,go_sem]) rfl ⟨rfl,by
      repeat (first | exact Below.refl _ _ | refine Below.setCell ?_ (by simp <;> omega) _ | refine Below.alloc ?_ (by simp <;> omega) _)⟩
  by_cases h3 : k = 3
  · subst h3
    go_enter Tryz.func164,Tryz.ntmps164
    go_wp2
    exact bodyPost_ret (v:=.agg #[.bool true,.bool false,.bool false]) (by simp [results,Tryz.results164,go_sem]) rfl ⟨rfl,by
      repeat (first | exact Below.refl _ _ | refine Below.setCell ?_ (by simp <;> omega) _ | refine Below.alloc ?_ (by simp <;> omega) _)⟩
  · have t4 : (k == 4) = false:=by simp [h4]
    have t2 : (k == 2) = false:=by simp [h2]
    have t3 : (k == 3) = false:=by simp [h3]
    go_enter Tryz.func164,Tryz.ntmps164
    go_wp2
    refine bodyPost_ret (v:=.agg #[.bool false,.bool false,.bool false]) (by simp [results,Tryz.results164,go_sem]) rfl ⟨?_,by
      repeat (first | exact Below.refl _ _ | refine Below.setCell ?_ (by simp <;> omega) _ | refine Below.alloc ?_ (by simp <;> omega) _)⟩
    rw [t4,t2,t3]; rfl
theorem codeOk_any (lb cb tb : Bool) (c : Int) (w : World) : Calls Tryz.prog 203 #[.agg #[.bool lb,.bool cb,.bool tb],.int .i64 c] w fun e w'=>e = .returned (.bool (codePart cb c)) ∧ Below w.heap.size w w':=by
  have hA : ∀ o1 : Obj,Below w.heap.size w (w.alloc o1):=fun o1=>(Below.refl _ _).alloc (Nat.le_refl _) _
  cases cb
  · go_enter Tryz.func203,Tryz.ntmps203
    go_wp2_with fail
    go_ret
    exact ⟨rfl,hA _⟩
  · by_cases h0 : c = 0
    · subst h0
      go_enter Tryz.func203,Tryz.ntmps203
      go_wp2_with (go_at_call 170; refine (vw0 _).mono ?_; rintro e w' ⟨rfl,rfl⟩)
      go_ret
      exact ⟨rfl,hA _⟩
    by_cases h1 : c = 1
    · subst h1
      go_enter Tryz.func203,Tryz.ntmps203
      go_wp2_with (go_at_call 170; refine (vw1 _).mono ?_; rintro e w' ⟨rfl,rfl⟩)
      go_ret
      exact ⟨rfl,hA _⟩
    by_cases h2 : c = 2
    · subst h2
      go_enter Tryz.func203,Tryz.ntmps203
      go_wp2_with (go_at_call 170; refine (vw2 _).mono ?_; rintro e w' ⟨rfl,rfl⟩)
      go_ret
      exact ⟨rfl,hA _⟩
    · have HN : Hid (codePart true c = false):=by show _ = _; simp [codePart]; omega
      have HW:=vwn (k:=c) (by simp [h0]) (by simp [h1]) (by simp [h2])
      clear h0 h1 h2
      go_enter Tryz.func203,Tryz.ntmps203
      go_wp2_with (go_at_call 170; refine (HW _).mono ?_; rintro e w' ⟨rfl,rfl⟩)
      go_ret
      exact ⟨ret_bool (by rw [HN.out]),hA _⟩
theorem treeOk_any (lb cb tb : Bool) (a : Option Addr) (n c : Nat) (os : List LObj) (L U : Nat) (w : World) (hU : U ≤ w.heap.size) (H : ObjsAt w L U a n os) :
    Calls Tryz.prog 204 #[.agg #[.bool lb,.bool cb,.bool tb],.agg #[.slice a n c]] w fun e w'=>e = .returned (.bool (treePart tb os)) ∧ Below w.heap.size w w':=by
  have hA : ∀ o1 o2 : Obj,Below w.heap.size w ((w.alloc o1).alloc o2):=fun o1 o2=>((Below.refl _ _).alloc (Nat.le_refl _) _).alloc (by simp) _
  have HLN : Hid (n = os.length):=H.len
  have hbd:=H.bd
  unfold maxLen at hbd
  cases tb
  · by_cases h0 : n = 0
    · subst h0
      have HV : Hid (treePart false os = true):=by show _ = _; simp [treePart]; exact List.length_eq_zero_iff.1 HLN.out.symm
      go_enter Tryz.func204,Tryz.ntmps204
      go_wp2_with fail
      go_ret
      exact ⟨ret_bool (by rw [HV.out]),hA _ _⟩
    · have HV : Hid (treePart false os = false):=by show _ = _; simp [treePart]; exact fun h=>h0 (by rw [HLN.out,h]; rfl)
      have t0 : ((n : Int) == 0) = false:=by simp; omega
      clear h0
      go_enter Tryz.func204,Tryz.ntmps204
      go_wp2_with fail
      go_ret
      exact ⟨ret_bool (by rw [HV.out]),hA _ _⟩
  · go_enter Tryz.func204,Tryz.ntmps204
    go_wp2_with fail
    refine (implTreeOk _ _ _ os L U _ (by simp <;> omega) (H.below (hA _ _) hU)).mono ?_
    rintro x w1 ⟨rfl,hb1⟩
    go_wp2_with fail
    go_ret
    exact ⟨rfl,(hA _ _).trans (hb1.mono (by simp <;> omega))⟩
theorem LogAt.nothing (w : World) (L U : Nat) : LogAt w L U 0 0 none 0 none 0 nothing:=⟨rfl,rfl,⟨rfl,by simp,fun h=>absurd rfl h⟩,⟨rfl,by simp,fun h=>absurd rfl h⟩⟩
theorem specNone_any (q s : Int) (ba : Option Addr) (bn bc : Nat) (oa : Option Addr) (on oc : Nat) (l : LLog) (L U : Nat) (w : World) (H : LogAt w L U q s ba bn oa on l) :
    Calls Tryz.prog 157 #[.agg #[.int .i64 q,.int .i64 s,.slice ba bn bc,.slice oa on oc]] w fun e w'=>e = .returned (.bool (noneL l)) ∧ Below w.heap.size w w':=by
  have hA : ∀ o1 : Obj,Below w.heap.size w (w.alloc o1):=fun o1=>(Below.refl _ _).alloc (Nat.le_refl _) _
  have HV : Hid (noneL l = ((q == 0) && (s == 0) && (bn == 0) && (on == 0))):=by
    show _ = _
    unfold noneL
    rw [H.q,H.s]
    have e1 : l.bases.isEmpty = (bn == 0):=by rw [H.b.len]; cases l.bases <;> rfl
    have e2 : l.list.isEmpty = (on == 0):=by rw [H.o.len]; cases l.list <;> rfl
    rw [e1,e2]
  have hbd:=H.b.bd
  have hbd':=H.o.bd
  unfold maxLen at hbd hbd'
  clear H
  rcases t1 : (q == 0) with _ | _
  · go_enter Tryz.func157,Tryz.ntmps157
    go_wp2_with fail
    go_ret
    exact ⟨ret_bool (by rw [HV.out,t1]; rfl),hA _⟩
  rcases t2 : (s == 0) with _ | _
  · go_enter Tryz.func157,Tryz.ntmps157
    go_wp2_with fail
    go_ret
    exact ⟨ret_bool (by rw [HV.out,t1,t2]; rfl),hA _⟩
  by_cases h3 : bn = 0
  case neg =>
    have t3 : ((bn : Int) == 0) = false:=by simp; omega
    have t3' : Hid ((bn == 0) = false):=by show _ = _; simp [h3]
    clear h3
    go_enter Tryz.func157,Tryz.ntmps157
    go_wp2_with fail
    go_ret
    exact ⟨ret_bool (by rw [HV.out,t1,t2,t3'.out]; rfl),hA _⟩
  subst h3
  by_cases h4 : on = 0
  case neg =>
    have t4 : ((on : Int) == 0) = false:=by simp; omega
    have t4' : Hid ((on == 0) = false):=by show _ = _; simp [h4]
    clear h4
    go_enter Tryz.func157,Tryz.ntmps157
    go_wp2_with fail
    go_ret
    exact ⟨ret_bool (by rw [HV.out,t1,t2,t4'.out]; rfl),hA _⟩
  subst h4
  go_enter Tryz.func157,Tryz.ntmps157
  go_wp2_with fail
  go_ret
  exact ⟨ret_bool (by rw [HV.out,t1,t2]; rfl),hA _⟩
end
section
open Go.RowKit
end
end Go.Proofs.YtloopeipheklpaaGreatDoor
