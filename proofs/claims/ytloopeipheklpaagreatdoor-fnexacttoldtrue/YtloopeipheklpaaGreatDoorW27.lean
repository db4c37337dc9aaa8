/- Lemmas that the proofs of this seat share: MapW, MapV, TrueI. -/
import Derived.Test.YtloopeipheklpaaGreatDoorW01
import Derived.Test.YtloopeipheklpaaGreatDoorW14
import Derived.Test.YtloopeipheklpaaGreatDoorW26
import Derived.WideKeyEntry
import Derived.DeepKeys4
import Derived.MapViews
import Derived.Maps.Keyed
import Derived.MapKept
import Derived.MapFrom
import Derived.Maps.Range
import Derived.Laws.IdiomMaps
import Derived.Deep.RegionHeld
import Derived.OrdersHeld
import Derived.Test.YtloopeipheklpaaGreatDoorW05
import Derived.Carry
import Derived.ChangeMaps5
namespace Go.Proofs.YtloopeipheklpaaGreatDoor
section
open Go.RowKit Go.ChangeShapes Go.WideShapes
open Go.MapKept (Stamped)
open Go.ChangeMaps (setBlock)
set_option maxRecDepth 100000 in
theorem mkRow : (146 : TypeId) < Tryz.prog.types.size:=of_decide_eq_true (by kernel_rfl)
set_option maxRecDepth 100000 in
theorem mkDeep : Tryz.prog.keyTypeAt (Tryz.prog.types.size + 1) 146 = true:=by kernel_rfl
theorem mkCells : Tryz.prog.cellsOf 146 = 2:=by kernel_rfl
set_option maxRecDepth 100000 in
theorem mkWide : (match Tryz.prog.underlying 146 with | some (.array _ _) | some (.struct _)=>true | _=>false) = true:=by kernel_rfl
set_option maxRecDepth 100000 in
theorem mkLaw : Go.WideMaps.KeyLaw Tryz.prog 146:=deep_law_laid fLaid (m:=2) (by omega) mkRow (by kernel_rfl) mkWide
set_option maxRecDepth 100000 in
theorem mkFormed {c0 c1 : Value} : (Value.agg #[c0,c1]).formed Tryz.prog 146 = true:=by simp [Value.formed,Tryz.underlying146,mkCells]
def ownV (q s : Int) : Value:=.agg #[.int .i64 q,.int .i64 s]
def Fits (q : Int) : Prop:=(Lit.int .i64 q).wf = true
set_option maxRecDepth 100000 in
theorem key_lit {q s : Int} (hq : Fits q) (hs : Fits s) : ∃ kl,keyOf Tryz.prog 146 (ownV q s) = some kl:=by
  have c3 : Tryz.prog.cellsOf 3 = 1:=by kernel_rfl
  have h:=trod_struct2_mk (H:=Unit) (enc:=fun _=>()) (w:=default) (base:=0) (spare:=fun _=>true) (held:=false) (n:=1) (cs:=[.int .i64 q,.int .i64 s]) Tryz.underlying146 (by simp [mkCells]) (by simp [c3]; exact trod_int_mk 0 Tryz.underlying3 hq) (by simp [c3]; exact trod_int_mk 0 Tryz.underlying3 hs)
  exact ⟨_,(keyOf_asKey mkDeep mkWide (v:=ownV q s) mkFormed ⟨_,h⟩).1⟩
structure MapC (es : Array MapEntry) (clock : Nat) (p : List LLog) (j : Nat) : Prop where
  st : Stamped es clock
  ks : ∀ x ∈ es.toList,∃ q s,x.key = ownV q s ∧ Fits q ∧ Fits s
  vs : ∀ x ∈ es.toList,∃ n : Nat,x.val = .int .i64 n ∧ 1 ≤ n ∧ n ≤ j
  has : ∀ q s,(∃ x ∈ es.toList,x.key = ownV q s) ↔ ∃ k l,k < j ∧ p[k]? = some l ∧ l.who = q ∧ l.seq = s
def Keys (es : Array MapEntry) : Prop:=∀ x ∈ es.toList,∃ l,keyOf Tryz.prog 146 x.key = some l
theorem MapC.keys {es : Array MapEntry} {clock : Nat} {p : List LLog} {j : Nat} (h : MapC es clock p j) : Keys es:=fun x hx=>by
  obtain ⟨q,s,e,hq,hs⟩:=h.ks x hx
  rw [e]; exact key_lit hq hs
theorem look_any {W : World} {b : Nat} {es : Array MapEntry} {clock : Nat} {q s : Int} (hb : W.heap[b]? = some (.map es clock)) (hk : Keys es) (hq : Fits q) (hs : Fits s) :
    ((Instr.lookup 120 (.map (some b)) (ownV q s) false).run Tryz.prog W = .ok (.int .i64 0) W ∧ ∀ x ∈ es.toList,x.key ≠ ownV q s) ∨ ∃ (i : Nat) (e : MapEntry),es.toList[i]? = some e ∧ e.key = ownV q s ∧ (Instr.lookup 120 (.map (some b)) (ownV q s) false).run Tryz.prog W = .ok e.val W:=by
  obtain ⟨kl,hkey⟩:=key_lit hq hs
  rcases mkLaw.find W hkey es.toList hk with ⟨h1,h2⟩ | ⟨i,e,h1,h2,h3⟩
  · exact .inl ⟨by simp [Instr.lookup,run_underlying Tryz.underlying120,MapKept.run_getObj_map hb,mkLaw.check W es.isEmpty hkey,h1,Result.andThen],h2⟩
  · exact .inr ⟨i,e,h2,h3,by simp [Instr.lookup,run_underlying Tryz.underlying120,MapKept.run_getObj_map hb,mkLaw.check W es.isEmpty hkey,h1,Result.andThen]⟩
structure MapE (es es1 : Array MapEntry) (clock1 : Nat) (key : Value) (i : Nat) (e0 : MapEntry) (n : Nat) : Prop where
  st : Stamped es1 clock1
  at_ : es1.toList[i]? = some e0
  key : e0.key = key
  val : e0.val = .int .i64 n
  old : ∀ x ∈ es1.toList,x = e0 ∨ x ∈ es.toList
  sub : ∀ x ∈ es.toList,∃ y ∈ es1.toList,y.key = x.key
theorem entry_any {W : World} {b : Nat} {es : Array MapEntry} {clock : Nat} {p : List LLog} {j : Nat} {q s : Int} (hb : W.heap[b]? = some (.map es clock)) (hC : MapC es clock p j) (hq : Fits q) (hs : Fits s) :
    ∃ es1 clock1 i e0 n,MapE es es1 clock1 (ownV q s) i e0 n ∧ n ≤ j ∧ (Instr.lookup 120 (.map (some b)) (ownV q s) false).run Tryz.prog W = .ok (.int .i64 (n : Int)) W ∧
      (Instr.mapEntry 120 (.map (some b)) (ownV q s)).run Tryz.prog W = .ok (.tuple #[.int .i64 (n : Int),goInt e0.born]) (setBlock W b (.map es1 clock1)):=by
  obtain ⟨kl,hkey⟩:=key_lit hq hs
  rcases mkLaw.find W hkey es.toList hC.keys with ⟨h1,h2⟩ | ⟨i,e,h1,h2,h3⟩
  · refine ⟨es.push ⟨ownV q s,.int .i64 0,clock⟩,clock + 1,es.size,⟨ownV q s,.int .i64 0,clock⟩,0,⟨MapKept.stamped_push hC.st h2,by simp,rfl,rfl,fun x hx=>?_,fun x hx=>⟨x,by simp [hx],rfl⟩⟩,Nat.zero_le _,?_,?_⟩
    · simp only [Array.toList_push,List.mem_append,List.mem_singleton] at hx
      rcases hx with hx | hx
      · exact .inr hx
      · exact .inl hx
    · simp [Instr.lookup,run_underlying Tryz.underlying120,MapKept.run_getObj_map hb,mkLaw.check W es.isEmpty hkey,h1,Result.andThen]
    · simp [Instr.mapEntry,run_underlying Tryz.underlying120,MapKept.run_getObj_map hb,mkLaw.check W false hkey,h1,MapKept.run_setObj_map _ hb,Result.andThen,setBlock]
  · have he:=List.mem_of_getElem? h2
    obtain ⟨n,hv,hn1,hn2⟩:=hC.vs e he
    have hi : es[i]? = some e:=by rw [← Array.getElem?_toList]; exact h2
    have hmod : (es.modify i fun e=>{ e with key:=ownV q s }) = es:=by
      apply Array.ext_getElem?
      intro k
      rw [Array.getElem?_modify]
      split
      · rename_i hk; subst hk; rw [hi]; simp [← h3]
      · rfl
    refine ⟨es,clock,i,e,n,⟨hC.st,h2,h3,hv,fun x hx=>.inr hx,fun x hx=>⟨x,hx,rfl⟩⟩,hn2,?_,?_⟩
    · simp [Instr.lookup,run_underlying Tryz.underlying120,MapKept.run_getObj_map hb,mkLaw.check W es.isEmpty hkey,h1,Result.andThen,hv]
    · simp [Instr.mapEntry,run_underlying Tryz.underlying120,MapKept.run_getObj_map hb,mkLaw.check W false hkey,h1,hi,h3,mkLaw.stays W hkey,MapKept.run_setObj_map _ hb,Result.andThen,setBlock,hv,hmod]
theorem look_entry {W : World} {b : Nat} {es es1 : Array MapEntry} {clock clock1 : Nat} {p : List LLog} {j : Nat} {q s : Int} {i : Nat} {e0 : MapEntry} {n : Nat} (hb : W.heap[b]? = some (.map es1 clock1)) (hC : MapC es clock p j) (hE : MapE es es1 clock1 (ownV q s) i e0 n) (hq : Fits q) (hs : Fits s) :
    (Instr.lookup 120 (.map (some b)) (ownV q s) false).run Tryz.prog W = .ok (.int .i64 (n : Int)) W:=by
  have hk : Keys es1:=fun x hx=>by
    rcases hE.old x hx with rfl | h
    · rw [hE.key]; exact key_lit hq hs
    · exact hC.keys x h
  rcases look_any hb hk hq hs with ⟨_,h2⟩ | ⟨i2,e2,h1,h2,h3⟩
  · exact absurd hE.key (h2 e0 (List.mem_of_getElem? hE.at_))
  · rw [h3]
    have : i2 = i:=by
      have hl1:=(List.getElem?_eq_some_iff.1 h1).1
      have hl2:=(List.getElem?_eq_some_iff.1 hE.at_).1
      have hnd:=hE.st.2.2
      refine (List.getElem_inj (xs:=es1.toList.map (fun x : MapEntry=>x.key)) (h₀:=by simpa using hl1) (h₁:=by simpa using hl2) hnd).1 ?_
      simp only [List.getElem_map]
      rw [(List.getElem?_eq_some_iff.1 h1).2,(List.getElem?_eq_some_iff.1 hE.at_).2,h2,hE.key]
    subst this
    rw [hE.at_] at h1
    cases h1
    rw [hE.val]
theorem store_any {W : World} {b : Nat} {es es1 : Array MapEntry} {clock1 : Nat} {key : Value} {i : Nat} {e0 : MapEntry} {n : Nat} (hb : W.heap[b]? = some (.map es1 clock1)) (hE : MapE es es1 clock1 key i e0 n) (v : Value) :
    (Instr.entryStore 120 (.map (some b)) (.int .i64 (e0.born : Int)) v).run Tryz.prog W = .ok () (setBlock W b (.map (es1.modify i fun e=>{ e with val:=v }) clock1)):=by
  have h:=Go.WideElems.findIdx_born hE.st.2.1 hE.at_
  simp [Instr.entryStore,MapKept.run_getObj_map hb,Go.WideElems.findIdx_arr,h,MapKept.run_setObj_map _ hb,Result.andThen,setBlock,asInt,asIntOf]
theorem MapC.step {es es1 : Array MapEntry} {clock clock1 : Nat} {p : List LLog} {j : Nat} {l : LLog} {i : Nat} {e0 : MapEntry} {n : Nat} (hC : MapC es clock p j) (hE : MapE es es1 clock1 (ownV l.who l.seq) i e0 n) (hl : p[j]? = some l) (hq : Fits l.who) (hs : Fits l.seq) (hn : n ≤ j) :
    MapC (es1.modify i fun e=>{ e with val:=.int .i64 ((n : Int) + 1) }) clock1 p (j + 1):=by
  have hkeys : (es1.modify i fun e=>{ e with val:=.int .i64 ((n : Int) + 1) }).toList.map (·.key) = es1.toList.map (·.key):=MapKept.modify_keys i _ (fun e _=>rfl)
  have hmem : ∀ x ∈ (es1.modify i fun e=>{ e with val:=.int .i64 ((n : Int) + 1) }).toList,(x.key = ownV l.who l.seq ∧ x.val = .int .i64 ((n + 1 : Nat) : Int)) ∨ (x ∈ es.toList) ∨ (x = e0 ∧ x.key = ownV l.who l.seq):=by
    intro x hx
    rcases MapFrom.mem_modify hx with hx | ⟨e,he,rfl⟩
    · rcases hE.old x hx with rfl | h
      · exact .inr (.inr ⟨rfl,hE.key⟩)
      · exact .inr (.inl h)
    · have : es1.toList[i]? = some e:=by rw [Array.getElem?_toList]; exact he
      rw [hE.at_] at this
      cases this
      exact .inl ⟨hE.key,by simp⟩
  have hfe : ({ e0 with val:=.int .i64 ((n : Int) + 1) } : MapEntry) ∈ (es1.modify i fun e=>{ e with val:=.int .i64 ((n : Int) + 1) }).toList:=by
    refine List.mem_of_getElem? (i:=i) ?_
    rw [Array.getElem?_toList,Array.getElem?_modify,if_pos rfl,← Array.getElem?_toList,hE.at_]
    rfl
  have hst : Stamped (es1.modify i fun e=>{ e with val:=.int .i64 ((n : Int) + 1) }) clock1:=MapKept.stamped_modify hE.st i _ (fun e _=>rfl) (fun e _ _=>rfl)
  have hpw:=((MapKept.stamped_iff _ _).1 hst).2.2
  have hnew : ∀ x ∈ (es1.modify i fun e=>{ e with val:=.int .i64 ((n : Int) + 1) }).toList,x = { e0 with val:=.int .i64 ((n : Int) + 1) } ∨ x ∈ es.toList:=by
    intro x hx
    by_cases hk : x.key = ownV l.who l.seq
    · exact .inl (Go.entry_eq_of_key hpw hx hfe (by rw [hk]; exact hE.key.symm))
    · rcases hmem x hx with h | h | h
      · exact absurd h.1 hk
      · exact .inr h
      · exact absurd h.2 hk
  refine ⟨hst,fun x hx=>?_,fun x hx=>?_,fun q s=>?_⟩
  · rcases hnew x hx with rfl | h
    · exact ⟨l.who,l.seq,hE.key,hq,hs⟩
    · exact hC.ks x h
  · rcases hnew x hx with rfl | h
    · exact ⟨n + 1,by simp,by omega,by omega⟩
    · obtain ⟨m,h1,h2,h3⟩:=hC.vs x h
      exact ⟨m,h1,h2,by omega⟩
  · have hks : (∃ x ∈ (es1.modify i fun e=>{ e with val:=.int .i64 ((n : Int) + 1) }).toList,x.key = ownV q s) ↔ ∃ x ∈ es1.toList,x.key = ownV q s:=by
      have h1 : ownV q s ∈ (es1.modify i fun e=>{ e with val:=.int .i64 ((n : Int) + 1) }).toList.map (·.key) ↔ ownV q s ∈ es1.toList.map (·.key):=by rw [hkeys]
      simpa using h1
    rw [hks]
    constructor
    · rintro ⟨x,hx,hk⟩
      rcases hE.old x hx with rfl | h
      · rw [hE.key] at hk
        simp only [ownV,Value.agg.injEq] at hk
        have h2 : l.who = q ∧ l.seq = s:=by simpa using hk
        exact ⟨j,l,by omega,hl,h2.1,h2.2⟩
      · obtain ⟨k,a,h1,h2⟩:=(hC.has q s).1 ⟨x,h,hk⟩
        exact ⟨k,a,by omega,h2⟩
    · rintro ⟨k,a,h1,h2,h3,h4⟩
      by_cases e : k = j
      · subst e
        rw [hl] at h2
        cases h2
        exact ⟨e0,List.mem_of_getElem? hE.at_,by rw [hE.key,h3,h4]⟩
      · obtain ⟨x,hx,hk⟩:=(hC.has q s).2 ⟨k,a,by omega,h2,h3,h4⟩
        obtain ⟨y,hy,hyk⟩:=hE.sub x hx
        exact ⟨y,hy,by rw [hyk,hk]⟩
end
section
open Go.RowKit Go.ChangeShapes Go.WideShapes
open Go.MapKept (Stamped)
open Go.ChangeMaps (setBlock heap_setBlock_same heap_setBlock_other)
theorem below_setBlock {B b : Nat} {w W : World} {es : Array MapEntry} {clock : Nat} (h : Below B w W) (hb : W.heap[b]? = some (.map es clock)) (hB : B ≤ b) (o : Obj) : Below B w (setBlock W b o) :=
  ⟨h.os,h.tape,h.output,by simpa [setBlock] using h.size,fun k hk=>by rw [heap_setBlock_other hb o (by omega)]; exact h.block k hk⟩
theorem box_setBlock {W : World} {b p : Nat} {es : Array MapEntry} {clock : Nat} {t : TypeId} {vs : List Value} (h : BoxI W p t vs) (hb : W.heap[b]? = some (.map es clock)) (o : Obj) (hp : p ≠ b) : BoxI (setBlock W b o) p t vs:=World.rowIs.of_block h (heap_setBlock_other hb o hp)
theorem run_fieldB (q s : Int) (a : Option Addr) (n c : Nat) (a' : Option Addr) (n' c' : Nat) (w : World) : (Instr.field 174 (.agg #[.int .i64 q,.int .i64 s,.slice a n c,.slice a' n' c']) 0).run Tryz.prog w = .ok (ownV q s) w:=by
  simp [Instr.field,run_underlying Tryz.underlying174,go_sem,asAgg,ownV]
def MapEnd (xs : List LLog) (n : Nat) (w : World) (e : Ending) (w' : World) : Prop:=∃ b es clock,e = .returned (.map (some b)) ∧ w'.heap[b]? = some (.map es clock) ∧ MapC es clock xs n ∧ w.heap.size ≤ b ∧ Below w.heap.size w w'
set_option maxHeartbeats 8000000 in
theorem countOwners_any (a : Option Addr) (n c : Nat) (xs : List LLog) (L U : Nat) (w : World) (hU : U ≤ w.heap.size) (H : RowsAt 4 LogE w L U a n xs) (hf : ∀ l ∈ xs,Fits l.who ∧ Fits l.seq) :
    Calls Tryz.prog 73 #[.slice a n c] w fun e w'=>MapEnd xs n w e w':=by
  have hmm:=@run_makeMap Tryz.prog
  have hbd:=H.bd
  unfold maxLen at hbd
  have hlen:=hidMk H.len
  have M0 : Hid ((w.alloc (.map #[] 0)).heap[w.heap.size]? = some (.map #[] 0)):=by
    show _ = _
    unfold World.alloc
    exact Array.getElem?_push_size
  have C0 : Hid (MapC #[] 0 xs 0):=⟨MapKept.stamped_empty 0,fun x hx=>by simp at hx,fun x hx=>by simp at hx,fun q s=>⟨fun ⟨x,hx,_⟩=>by simp at hx,fun ⟨k,l,hk,_⟩=>by omega⟩⟩
  have hA : Below w.heap.size w (w.alloc (.map #[] 0)):=(Below.refl _ _).alloc (Nat.le_refl _) _
  go_enter Tryz.func73,Tryz.ntmps73
  go_wp2_with fail
  go_loopg [9] n (fun g i wr=>∃ j : Nat,j ≤ n ∧ Hid (g = n - j) ∧ i = .int .i64 j ∧ (∃ es clock,Hid (wr.heap[w.heap.size]? = some (.map es clock)) ∧ Hid (MapC es clock xs j)) ∧ Below w.heap.size w wr)
  case atStart=>exact ⟨0,Nat.zero_le _,by show _ = _; omega,rfl,⟨_,_,M0.out,C0.out⟩,hA⟩
  case round =>
    obtain ⟨j,hj,hk,rfl,⟨es,clock,HM,HC⟩,hb⟩:=hrel
    have hs1:=hb.size
    by_cases hlt : j < n
    · obtain ⟨b,off,ha,hL,hbU,hc⟩:=H.at_ (by omega)
      subst ha
      obtain ⟨x,vs,he,hc,hE⟩:=hc j hlt
      obtain ⟨q,s,a1,n1,c1',a2,n2,c2',rfl,hcp,hK⟩:=hE
      have c0:=hc 0 _ rfl
      have c1:=hc 1 _ rfl
      have c2:=hc 2 _ rfl
      have c3:=hc 3 _ rfl
      simp only [Nat.add_zero] at c0
      rw [← hb.cell (by simp; omega)] at c0 c1 c2 c3
      have hlt' : (j : Int) < (n : Int):=by omega
      have hfx:=hf x (List.mem_of_getElem? he)
      have HFq : Hid (Fits q):=by rw [hK.q]; exact hfx.1
      have HFs : Hid (Fits s):=by rw [hK.s]; exact hfx.2
      have HE:=hidMk he
      have HQ:=hidMk hK.q
      have HQs:=hidMk hK.s
      have hmb : w.heap.size < wr.heap.size:=(Array.getElem?_eq_some_iff.1 HM.out).1
      clear he hc hK hfx hmm
      have HB0:=hidMk (BoxI.new (W:=wr) (A:=#[.int .i64 q,.int .i64 s,.slice a1 n1 c1',.slice a2 n2 c2']) (t:=85) rfl)
      have HM1 : Hid ((wr.alloc (.cells #[.int .i64 q,.int .i64 s,.slice a1 n1 c1',.slice a2 n2 c2'] 85)).heap[w.heap.size]? = some (.map es clock)):=by
        show _ = _
        rw [((Below.refl wr.heap.size wr).alloc (Nat.le_refl _) _).block _ hmb]; exact HM.out
      have hbA:=hb.alloc hs1 (.cells #[.int .i64 q,.int .i64 s,.slice a1 n1 c1',.slice a2 n2 c2'] 85)
      go_upto_region 5 with fail
      generalize (wr.alloc (.cells #[.int .i64 q,.int .i64 s,.slice a1 n1 c1',.slice a2 n2 c2'] 85)) = W at HB0 HM1 hbA ⊢
      have hpW:=HB0.out.lt
      refine wp_region_held_drew (S:=fun W'=>BoxI W' wr.heap.size 85 [.int .i64 q,.int .i64 s,.slice a1 n1 c1',.slice a2 n2 c2']) (by kernel_rfl) ?_ (fun hHeld=>?_)
      · exact World.rowIs.drew HB0.out
      refine listH (l2:=#[false,false,false,false,false,false,false,false,false]) (by kernel_rfl) ?_
      refine takeH (i:=0) (oi:=_) (v:=?v0) 13 #[true,false,false,false,false,false,false,false,false] rfl (by kernel_rfl) (by kernel_rfl) (by kernel_rfl) rfl (by kernel_rfl) (fun _ _ _ h=>h) (Or.inl ⟨by rfl,?y0⟩) (by assumption) ?r0
      case y0=>(intro w' hSw; go_simp; try with_reducible rfl)
      simp only [Act.put,sT,sS,sZ]
      refine takeH (i:=1) (oi:=_) (v:=?v1) 14 #[true,true,false,false,false,false,false,false,false] rfl (by kernel_rfl) (by kernel_rfl) (by kernel_rfl) rfl (by kernel_rfl) (fun _ _ _ h=>h) (Or.inl ⟨by rfl,?y1⟩) (by assumption) ?r1
      case y1=>(intro w' hSw; have e0:=hSw.get 0 _ rfl; have e1:=hSw.get 1 _ rfl; have e2:=hSw.get 2 _ rfl; have e3:=hSw.get 3 _ rfl; go_simp; try with_reducible rfl)
      simp only [Act.put,sT,sS,sZ]
      refine wpAnyH_ready (rs:=[2]) (by kernel_rfl) (by simp) ?_
      refine AllReadyH.cons (o:=_) rfl (fun K hK=>?_) AllReadyH.nil
      go_simp
      refine (bundleOf_any q s a1 n1 c1' a2 n2 c2' _).mono ?_
      rintro e w2 ⟨rfl,hb2⟩
      have B2:=World.rowIs.of_block (World.rowIs.drew HB0.out) (hb2.block _ (by simpa using hpW))
      have HM2 : Hid (w2.heap[w.heap.size]? = some (.map es clock)):=by
        show _ = _
        rw [hb2.block _ (by have:=hbA.size; simp; omega)]; exact HM1.out
      have hB2 : Below w.heap.size w w2:=(hbA.trans ((Below.refl W.heap.size W).drew.mono hbA.size)).trans (hb2.mono (by simpa using hbA.size))
      clear hb2
      go_wp2_with fail
      refine hK.out _ _ ?_ (fun hHeld=>?_)
      · exact B2
      clear hK K
      try simp only [Act.put]
      refine listH (l2:=#[true,true,true,false,false,false,false,false,false]) (by kernel_rfl) ?_
      refine takeH (i:=3) (oi:=_) (v:=?v3) 16 #[true,true,true,true,false,false,false,false,false] rfl (by kernel_rfl) (by kernel_rfl) (by kernel_rfl) rfl (by kernel_rfl) (fun _ _ _ h=>h) (Or.inl ⟨by rfl,?y3⟩) (by assumption) ?r3
      case y3=>(intro w' hSw; go_simp; rw [run_fieldB]; rfl)
      simp only [Act.put,sT,sS,sZ]
      obtain ⟨es1,clock1,i0,e0,nn,hCE,hnj,hL4,hM4⟩:=entry_any HM2.out HC.out HFq.out HFs.out
      have hb3 : (setBlock w2 w.heap.size (.map es1 clock1)).heap[w.heap.size]? = some (.map es1 clock1):=heap_setBlock_same HM2.out _
      have HL3:=look_entry hb3 HC.out hCE HFq.out HFs.out
      have HS3:=store_any hb3 hCE (.int .i64 ((nn : Int) + 1))
      have B3:=box_setBlock B2 HM2.out (.map es1 clock1) (by omega)
      have hB3:=below_setBlock hB2 HM2.out (Nat.le_refl _) (.map es1 clock1)
      have hwrap : IntKind.i64.wrap ((nn : Int) + 1) = (nn : Int) + 1:=by simp only [IntKind.wrap_i64]; omega
      have HCE:=hidMk hCE
      clear hCE
      have B4:=box_setBlock B3 hb3 (.map (es1.modify i0 fun e=>{ e with val:=.int .i64 ((nn : Int) + 1) }) clock1) (by omega)
      have HSTEP:=hidMk (MapC.step (l:=x) HC.out (by rw [← HQ.out,← HQs.out]; exact HCE.out) HE.out (by rw [← HQ.out]; exact HFq.out) (by rw [← HQs.out]; exact HFs.out) hnj)
      refine wpAnyH_ready (rs:=[4,6]) (by kernel_rfl) (by simp) ?_
      refine AllReadyH.cons (o:=_) rfl (fun K hK=>?_) (AllReadyH.cons (o:=_) rfl (fun K hK=>?_) AllReadyH.nil)
      · go_simp
        refine hK.out _ _ ?_ (fun hHeld=>?_)
        · exact B2
        clear hK K
        try simp only [Act.put]
        refine listH (l2:=#[true,true,true,true,true,false,false,false,false]) (by kernel_rfl) ?_
        refine takeH (i:=5) (oi:=_) (v:=.int .i64 ((nn : Int) + 1)) 18 #[true,true,true,true,true,true,false,false,false] rfl (by kernel_rfl) (by kernel_rfl) (by kernel_rfl) rfl (by kernel_rfl) (fun _ _ _ h=>h) (Or.inl ⟨by rfl,?ya5⟩) (by assumption) ?ra5
        case ya5=>(intro w' hSw; go_simp)
        simp only [Act.put,sT,sS,sZ]
        refine wpAnyH_ready (rs:=[6]) (by kernel_rfl) (by simp) ?_
        refine AllReadyH.cons (o:=_) rfl (fun K hK=>?_) AllReadyH.nil
        go_simp
        refine hK.out _ _ ?_ (fun hHeld=>?_)
        · exact B3
        clear hK K
        try simp only [Act.put]
        refine listH (l2:=#[true,true,true,true,true,true,true,false,false]) (by kernel_rfl) ?_
        refine takeH (i:=7) (oi:=_) (v:=?va7) 20 #[true,true,true,true,true,true,true,true,false] rfl (by kernel_rfl) (by kernel_rfl) (by kernel_rfl) rfl (by kernel_rfl) (fun _ _ _ h=>h) (Or.inl ⟨by rfl,?ya7⟩) (by assumption) ?ra7
        case ya7=>(intro w' hSw; go_simp; try with_reducible rfl)
        simp only [Act.put,sT,sS,sZ]
        refine wpAnyH_ready (rs:=[8]) (by kernel_rfl) (by simp) ?_
        refine AllReadyH.cons (o:=_) rfl (fun K hK=>?_) AllReadyH.nil
        go_simp
        refine hK.out _ _ ?_ (fun hHeld=>?_)
        · exact B4
        clear hK K
        try simp only [Act.put]
        refine listH (l2:=#[true,true,true,true,true,true,true,true,true]) (by kernel_rfl) ?_
        refine wpAnyH_done (by kernel_rfl) ?_ _
        go_wp2_with fail
        go_roundg (n - (j + 1))
        case measure=>have:=hk.out; omega
        case rel=>exact ⟨j + 1,by omega,rfl,by go_num,⟨_,_,heap_setBlock_same hb3 _,HSTEP.out⟩,below_setBlock hB3 hb3 (Nat.le_refl _) _⟩
      · go_simp
        refine hK.out _ _ ?_ (fun hHeld=>?_)
        · exact B3
        clear hK K
        try simp only [Act.put]
        refine listH (l2:=#[true,true,true,true,false,false,true,false,false]) (by kernel_rfl) ?_
        refine takeH (i:=7) (oi:=_) (v:=?vb7) 20 #[true,true,true,true,false,false,true,true,false] rfl (by kernel_rfl) (by kernel_rfl) (by kernel_rfl) rfl (by kernel_rfl) (fun _ _ _ h=>h) (Or.inl ⟨by rfl,?yb7⟩) (by assumption) ?rb7
        case yb7=>(intro w' hSw; go_simp; try with_reducible rfl)
        simp only [Act.put,sT,sS,sZ]
        refine wpAnyH_ready (rs:=[4]) (by kernel_rfl) (by simp) ?_
        refine AllReadyH.cons (o:=_) rfl (fun K hK=>?_) AllReadyH.nil
        go_simp
        refine hK.out _ _ ?_ (fun hHeld=>?_)
        · exact B3
        clear hK K
        try simp only [Act.put]
        refine listH (l2:=#[true,true,true,true,true,false,true,true,false]) (by kernel_rfl) ?_
        refine takeH (i:=5) (oi:=_) (v:=.int .i64 ((nn : Int) + 1)) 18 #[true,true,true,true,true,true,true,true,false] rfl (by kernel_rfl) (by kernel_rfl) (by kernel_rfl) rfl (by kernel_rfl) (fun _ _ _ h=>h) (Or.inl ⟨by rfl,?yb5⟩) (by assumption) ?rb5
        case yb5=>(intro w' hSw; go_simp)
        simp only [Act.put,sT,sS,sZ]
        refine wpAnyH_ready (rs:=[8]) (by kernel_rfl) (by simp) ?_
        refine AllReadyH.cons (o:=_) rfl (fun K hK=>?_) AllReadyH.nil
        go_simp
        refine hK.out _ _ ?_ (fun hHeld=>?_)
        · exact B4
        clear hK K
        try simp only [Act.put]
        refine listH (l2:=#[true,true,true,true,true,true,true,true,true]) (by kernel_rfl) ?_
        refine wpAnyH_done (by kernel_rfl) ?_ _
        go_wp2_with fail
        go_roundg (n - (j + 1))
        case measure=>have:=hk.out; omega
        case rel=>exact ⟨j + 1,by omega,rfl,by go_num,⟨_,_,heap_setBlock_same hb3 _,HSTEP.out⟩,below_setBlock hB3 hb3 (Nat.le_refl _) _⟩
    · obtain rfl : j = n:=by omega
      go_wp2_with fail
      go_ret
      exact ⟨w.heap.size,es,clock,rfl,HM.out,HC.out,Nat.le_refl _,hb⟩
def hasLog (xs : List LLog) (q s : Int) : Bool:=xs.any fun l=>(l.who == q) && (l.seq == s)
theorem hasLog_iff {xs : List LLog} {q s : Int} : hasLog xs q s = true ↔ ∃ k l,k < xs.length ∧ xs[k]? = some l ∧ l.who = q ∧ l.seq = s:=by
  unfold hasLog
  rw [List.any_eq_true]
  constructor
  · rintro ⟨l,hl,h⟩
    obtain ⟨k,hk⟩:=List.getElem?_of_mem hl
    simp only [Bool.and_eq_true,beq_iff_eq] at h
    exact ⟨k,l,(List.getElem?_eq_some_iff.1 hk).1,hk,h⟩
  · rintro ⟨k,l,_,hl,h⟩
    exact ⟨l,List.mem_of_getElem? hl,by simpa using h⟩
theorem hasLog_any {W : World} {b : Nat} {es : Array MapEntry} {clock : Nat} (xs : List LLog) (n : Nat) (q s : Int) (hn : n = xs.length) (hb : W.heap[b]? = some (.map es clock)) (hC : MapC es clock xs n) (hq : Fits q) (hs : Fits s) :
    Calls Tryz.prog 74 #[.map (some b),.int .i64 q,.int .i64 s] W fun e w'=>e = .returned (.bool (hasLog xs q s)) ∧ w' = W:=by
  subst hn
  rcases look_any hb hC.keys hq hs with ⟨h1,h2⟩ | ⟨i,e,h1,h2,h3⟩
  · have hf : hasLog xs q s = false:=by
      rcases h : hasLog xs q s with _ | _
      · rfl
      · obtain ⟨x,hx,hk⟩:=(hC.has q s).2 (hasLog_iff.1 h)
        exact absurd hk (h2 x hx)
    have HF:=hidMk hf
    have h1' : (Instr.lookup 120 (.map (some b)) (.agg #[.int .i64 q,.int .i64 s]) false).run Tryz.prog W = .ok (.int .i64 0) W:=h1
    clear hf h2 h1
    go_enter Tryz.func74,Tryz.ntmps74
    go_wp2
    go_ret
    exact ⟨ret_bool HF.out.symm,rfl⟩
  · obtain ⟨m,hv,hm1,hm2⟩:=hC.vs e (List.mem_of_getElem? h1)
    have hf : hasLog xs q s = true:=hasLog_iff.2 ((hC.has q s).1 ⟨e,List.mem_of_getElem? h1,h2⟩)
    have HF:=hidMk hf
    have h1' : (Instr.lookup 120 (.map (some b)) (.agg #[.int .i64 q,.int .i64 s]) false).run Tryz.prog W = .ok (.int .i64 (m : Int)) W:=by rw [← hv]; exact h3
    have hm3 : (0 : Int) < (m : Int):=by omega
    clear hf h2 h1 h3
    go_enter Tryz.func74,Tryz.ntmps74
    go_wp2
    go_ret
    exact ⟨ret_bool (by rw [HF.out]; simp; omega),rfl⟩
set_option maxHeartbeats 2000000 in
theorem specToldHas (a : Option Addr) (n c : Nat) (xs : List LLog) (q s : Int) (L U : Nat) (w : World) (hU : U ≤ w.heap.size) (H : RowsAt 4 LogE w L U a n xs) :
    Calls Tryz.prog 72 #[.slice a n c,.int .i64 q,.int .i64 s] w fun e w'=>e = .returned (.bool (hasLog xs q s)) ∧ Below w.heap.size w w':=by
  have hbd:=H.bd
  unfold maxLen at hbd
  have hlen:=hidMk H.len
  go_enter Tryz.func72,Tryz.ntmps72
  go_wp2_with fail
  go_loopg [7] n (fun g i wr=>∃ j : Nat,j ≤ n ∧ Hid (g = n - j) ∧ i = .int .i64 j ∧ Hid (hasLog xs q s = (xs.drop j).any fun l=>(l.who == q) && (l.seq == s)) ∧ Below w.heap.size w wr)
  case atStart=>exact ⟨0,Nat.zero_le _,by show _ = _; omega,rfl,by show _ = _; simp [hasLog],Below.refl _ _⟩
  case round =>
    obtain ⟨j,hj,hk,rfl,hq,hb⟩:=hrel
    by_cases hlt : j < n
    · obtain ⟨b,off,ha,hL,hbU,hc⟩:=H.at_ (by omega)
      subst ha
      obtain ⟨x,vs,he,hc,hE⟩:=hc j hlt
      obtain ⟨q2,s2,a1,n1,c1',a2,n2,c2',rfl,hcp,hK⟩:=hE
      have c0:=hc 0 _ rfl
      have c1:=hc 1 _ rfl
      simp only [Nat.add_zero] at c0
      rw [← hb.cell (by simp; omega)] at c0 c1
      have hlt' : (j : Int) < (n : Int):=by omega
      have HQ : Hid (hasLog xs q s = ((q2 == q) && (s2 == s) || (xs.drop (j + 1)).any fun l=>(l.who == q) && (l.seq == s))):=by show _ = _; rw [hq.out,drop_cons he,List.any_cons,← hK.q,← hK.s]
      clear he hc hK hq
      rcases h1 : (q2 == q) with _ | _
      · have HY : Hid (hasLog xs q s = (xs.drop (j + 1)).any fun l=>(l.who == q) && (l.seq == s)):=by show _ = _; rw [HQ.out,h1]; rfl
        clear HQ
        go_wp2_with fail
        go_roundg (n - (j + 1))
        case measure=>have:=hk.out; omega
        case rel=>exact ⟨j + 1,by omega,rfl,by go_num,HY.out,hb⟩
      rcases h2 : (s2 == s) with _ | _
      · have HY : Hid (hasLog xs q s = (xs.drop (j + 1)).any fun l=>(l.who == q) && (l.seq == s)):=by show _ = _; rw [HQ.out,h1,h2]; rfl
        clear HQ
        go_wp2_with fail
        go_roundg (n - (j + 1))
        case measure=>have:=hk.out; omega
        case rel=>exact ⟨j + 1,by omega,rfl,by go_num,HY.out,hb⟩
      · have HY : Hid (hasLog xs q s = true):=by show _ = _; rw [HQ.out,h1,h2]; rfl
        clear HQ
        go_wp2_with fail
        go_ret
        exact ⟨ret_bool HY.out.symm,hb⟩
    · have HN : Hid (hasLog xs q s = false):=by
        show _ = _
        rw [hq.out,List.drop_of_length_le (by have:=hlen.out; omega)]; rfl
      go_wp2_with fail
      go_ret
      exact ⟨ret_bool HN.out.symm,hb⟩
end
section
open Go.RowKit Go.ChangeShapes Go.WideShapes
def trueB (p : List LLog) (t : LTold) : Bool:=hasLog p t.who t.seq == (t.code == 0)
def toldTrue (x : LWorld) : Bool:=x.told.all (trueB x.past) && worldOk x
theorem fits_of {q : Int} (h : -9223372036854775808 ≤ q) (h2 : q ≤ 9223372036854775807) : Fits q:=by
  show (Lit.int .i64 q).wf = true
  have e1 : IntKind.i64.min = -9223372036854775808:=by rfl
  have e2 : IntKind.i64.max = 9223372036854775807:=by rfl
  simp [Lit.wf,e1,e2]
  omega
theorem past_fits {x : LWorld} (h : worldOk x = true) : ∀ l ∈ x.past,Fits l.who ∧ Fits l.seq:=by
  intro l hl
  unfold worldOk at h
  simp only [Bool.and_eq_true] at h
  have h1:=List.all_eq_true.1 h.1.2.2 l hl
  unfold logOk whoB at h1
  simp only [Bool.and_eq_true,decide_eq_true_eq] at h1
  exact ⟨fits_of (by omega) (by omega),fits_of (by omega) (by omega)⟩
theorem told_fits {x : LWorld} (h : worldOk x = true) : ∀ l ∈ x.told,Fits l.who ∧ Fits l.seq:=by
  intro l hl
  unfold worldOk at h
  simp only [Bool.and_eq_true] at h
  have h1:=List.all_eq_true.1 h.2.2 l hl
  unfold toldB clientB at h1
  simp only [Bool.and_eq_true,decide_eq_true_eq] at h1
  exact ⟨fits_of (by omega) (by omega),fits_of (by omega) (by omega)⟩
set_option maxHeartbeats 8000000 in
set_option maxRecDepth 20000 in
theorem implToldTrue (sn : Nat → Addr) (S0 : Nat) (a0 : Option Addr) (n0 c0 : Nat) (a1 : Option Addr) (n1 c1 : Nat) (a2 : Option Addr) (n2 c2 : Nat) (a3 : Option Addr) (n3 c3 : Nat) (a4 : Option Addr) (n4 c4 : Nat) (a5 : Option Addr) (n5 c5 : Nat) (x : LWorld) (L U : Nat) (w : World) (hS0 : S0 ≤ w.heap.size) (HS : Sents w S0 sn) (hs : WorldSm x) (hU : U ≤ w.heap.size) (H : WorldAt w L U a0 n0 a1 n1 a2 n2 a3 n3 a4 n4 a5 n5 x) :
    Calls Tryz.prog 28 #[.agg #[.slice a0 n0 c0,.slice a1 n1 c1,.slice a2 n2 c2,.slice a3 n3 c3,.slice a4 n4 c4,.slice a5 n5 c5]] w fun e w'=>e = .returned (.bool (toldTrue x)) ∧ Below w.heap.size w w':=by
  have HB0:=hidMk (HeldB.new w #[.slice a0 n0 c0,.slice a1 n1 c1,.slice a2 n2 c2,.slice a3 n3 c3,.slice a4 n4 c4,.slice a5 n5 c5] 56)
  have HH:=hidMk H
  have HSh:=hidMk HS
  clear H HS
  go_enter Tryz.func28,Tryz.ntmps28
  go_wp2_with fail
  have hA:=HB0.out.below
  refine (implWorldOk sn S0 _ _ _ _ _ _ _ _ _ _ _ _ _ _ _ _ _ _ x L U _ (by have:=hA.size; omega) (HSh.out.below hA hS0) hs (by have:=hA.size; omega) (HH.out.below hA hU)).mono ?_
  rintro e w1 ⟨rfl,hb1⟩
  have H1:=HB0.out.next hb1
  clear HB0 hA hb1
  rcases hc : worldOk x with _ | _
  · have HX : Hid (toldTrue x = false):=by show _ = _; unfold toldTrue; rw [hc]; simp
    have hB:=H1.below
    clear hc H1
    go_wp2_with fail
    go_ret
    exact ⟨ret_bool HX.out.symm,hB⟩
  have HV : Hid (toldTrue x = x.told.all (trueB x.past)):=by show _ = _; unfold toldTrue; rw [hc]; simp
  have HOK:=hidMk hc
  clear hc
  obtain ⟨_,_,_,f3,f4,f5⟩:=H1.box.c6
  have hB1:=H1.below
  have HP1:=hidMk H1
  have HP:=hidMk HH.out.past
  have HT:=hidMk HH.out.told
  have HPL:=hidMk HP.out.len
  have HTL:=hidMk HT.out.len
  have hbd:=HT.out.bd
  unfold maxLen at hbd
  have hBs:=hB1.size
  clear H1 HH
  go_wp2_with fail
  refine (countOwners_any _ _ _ x.past L U _ (by omega) (HP.out.below eltLog hB1 hU) (past_fits HOK.out)).mono ?_
  rintro e w2 ⟨b3,es,clock,rfl,hm2,hC2,hlo,hb2⟩
  have H2:=HP1.out.next hb2
  have hB2:=H2.below
  have HM:=hidMk hm2
  have HC:=hidMk hC2
  have hB2s:=hB2.size
  have hm3 : b3 < w2.heap.size:=(Array.getElem?_eq_some_iff.1 hm2).1
  obtain ⟨_,_,_,_,_,f5'⟩:=H2.box.c6
  clear hm2 hC2 f3 f4 f5 HP1 H2 hb2
  go_wp2_with fail
  go_loopg [15] n5 (fun g i wr=>∃ j : Nat,j ≤ n5 ∧ Hid (g = n5 - j) ∧ i = .int .i64 j ∧ Hid (x.told.all (trueB x.past) = (x.told.drop j).all (trueB x.past)) ∧ Below w2.heap.size w2 wr)
  case atStart=>exact ⟨0,Nat.zero_le _,by show _ = _; omega,rfl,by show _ = _; simp,Below.refl _ _⟩
  case round =>
    obtain ⟨j,hj,hk,rfl,hq,hb⟩:=hrel
    have hs1:=hb.size
    have hbw:=hB2.trans (hb.mono hB2s)
    by_cases hlt : j < n5
    · obtain ⟨b9,off,ha,hL,hbU,hc⟩:=HT.out.at_ (by omega)
      subst ha
      obtain ⟨y,vs,he,hc,rfl⟩:=hc j hlt
      have c0:=hc 0 _ rfl
      have c1:=hc 1 _ rfl
      have c2:=hc 2 _ rfl
      simp only [Nat.add_zero] at c0
      rw [← hbw.cell (by simp; omega)] at c0 c1 c2
      have hlt' : (j : Int) < (n5 : Int):=by omega
      have HQ : Hid (x.told.all (trueB x.past) = (trueB x.past y && (x.told.drop (j + 1)).all (trueB x.past))):=by show _ = _; rw [hq.out,drop_cons he,List.all_cons]
      have HFy:=hidMk (told_fits HOK.out y (List.mem_of_getElem? he))
      have HB9:=hidMk (BoxI.new (W:=wr) (A:=#[.int .i64 y.who,.int .i64 y.seq,.int .i64 y.code]) (t:=118) rfl)
      have HM9 : Hid ((wr.alloc (.cells #[.int .i64 y.who,.int .i64 y.seq,.int .i64 y.code] 118)).heap[b3]? = some (.map es clock)):=by
        show _ = _
        rw [((Below.refl wr.heap.size wr).alloc (Nat.le_refl _) _).block _ (by omega),hb.block _ hm3]; exact HM.out
      have hbA:=hb.alloc hs1 (.cells #[.int .i64 y.who,.int .i64 y.seq,.int .i64 y.code] 118)
      clear he hc hq
      go_upto_region 7 with fail
      generalize (wr.alloc (.cells #[.int .i64 y.who,.int .i64 y.seq,.int .i64 y.code] 118)) = W at HB9 HM9 hbA ⊢
      refine wp_region_held_drew (S:=(fun W=>BoxI W wr.heap.size 118 [.int .i64 y.who,.int .i64 y.seq,.int .i64 y.code] ∧ W.heap[b3]? = some (.map es clock))) (by kernel_rfl) ?_ (fun hHeld=>?_)
      · exact ⟨World.rowIs.drew HB9.out,HM9.out⟩
      refine listH (l2:=#[false,false,false,false,false,false,false,false,false,false]) (by kernel_rfl) ?_
      refine takeH (i:=0) (oi:=_) (v:=?vs1x0) 19 #[true,false,false,false,false,false,false,false,false,false] rfl (by kernel_rfl) (by kernel_rfl) (by kernel_rfl) rfl (by kernel_rfl) (fun _ _ _ h=>h) (Or.inl ⟨by rfl,?ys1x0⟩) (by assumption) ?rs1x0
      case ys1x0=>(intro w' hSw; (try dsimp only at hSw); have x0:=hSw.1.get 0 _ rfl; have x1:=hSw.1.get 1 _ rfl; have x2:=hSw.1.get 2 _ rfl; go_simp; try with_reducible rfl)
      simp only [Act.put,sT,sS,sZ]
      refine takeH (i:=1) (oi:=_) (v:=?vs1x1) 20 #[true,true,false,false,false,false,false,false,false,false] rfl (by kernel_rfl) (by kernel_rfl) (by kernel_rfl) rfl (by kernel_rfl) (fun _ _ _ h=>h) (Or.inl ⟨by rfl,?ys1x1⟩) (by assumption) ?rs1x1
      case ys1x1=>(intro w' hSw; (try dsimp only at hSw); have x0:=hSw.1.get 0 _ rfl; have x1:=hSw.1.get 1 _ rfl; have x2:=hSw.1.get 2 _ rfl; go_simp; try with_reducible rfl)
      simp only [Act.put,sT,sS,sZ]
      refine takeH (i:=2) (oi:=_) (v:=?vs1x2) 21 #[true,true,true,false,false,false,false,false,false,false] rfl (by kernel_rfl) (by kernel_rfl) (by kernel_rfl) rfl (by kernel_rfl) (fun _ _ _ h=>h) (Or.inl ⟨by rfl,?ys1x2⟩) (by assumption) ?rs1x2
      case ys1x2=>(intro w' hSw; (try dsimp only at hSw); have x0:=hSw.1.get 0 _ rfl; have x1:=hSw.1.get 1 _ rfl; have x2:=hSw.1.get 2 _ rfl; go_simp; try with_reducible rfl)
      simp only [Act.put,sT,sS,sZ]
      refine takeH (i:=3) (oi:=_) (v:=?vs1x3) 22 #[true,true,true,true,false,false,false,false,false,false] rfl (by kernel_rfl) (by kernel_rfl) (by kernel_rfl) rfl (by kernel_rfl) (fun _ _ _ h=>h) (Or.inl ⟨by rfl,?ys1x3⟩) (by assumption) ?rs1x3
      case ys1x3=>(intro w' hSw; (try dsimp only at hSw); have x0:=hSw.1.get 0 _ rfl; have x1:=hSw.1.get 1 _ rfl; have x2:=hSw.1.get 2 _ rfl; go_simp; try with_reducible rfl)
      simp only [Act.put,sT,sS,sZ]
      refine takeH (i:=4) (oi:=_) (v:=?vs1x4) 23 #[true,true,true,true,true,false,false,false,false,false] rfl (by kernel_rfl) (by kernel_rfl) (by kernel_rfl) rfl (by kernel_rfl) (fun _ _ _ h=>h) (Or.inl ⟨by rfl,?ys1x4⟩) (by assumption) ?rs1x4
      case ys1x4=>(intro w' hSw; (try dsimp only at hSw); have x0:=hSw.1.get 0 _ rfl; have x1:=hSw.1.get 1 _ rfl; have x2:=hSw.1.get 2 _ rfl; go_simp; try with_reducible rfl)
      simp only [Act.put,sT,sS,sZ]
      refine takeH (i:=6) (oi:=_) (v:=?vs1x6) 25 #[true,true,true,true,true,false,true,false,false,false] rfl (by kernel_rfl) (by kernel_rfl) (by kernel_rfl) rfl (by kernel_rfl) (fun _ _ _ h=>h) (Or.inl ⟨by rfl,?ys1x6⟩) (by assumption) ?rs1x6
      case ys1x6=>(intro w' hSw; (try dsimp only at hSw); have x0:=hSw.1.get 0 _ rfl; have x1:=hSw.1.get 1 _ rfl; have x2:=hSw.1.get 2 _ rfl; go_simp; try with_reducible rfl)
      simp only [Act.put,sT,sS,sZ]
      refine takeH (i:=7) (oi:=_) (v:=?vs1x7) 26 #[true,true,true,true,true,false,true,true,false,false] rfl (by kernel_rfl) (by kernel_rfl) (by kernel_rfl) rfl (by kernel_rfl) (fun _ _ _ h=>h) (Or.inl ⟨by rfl,?ys1x7⟩) (by assumption) ?rs1x7
      case ys1x7=>(intro w' hSw; (try dsimp only at hSw); have x0:=hSw.1.get 0 _ rfl; have x1:=hSw.1.get 1 _ rfl; have x2:=hSw.1.get 2 _ rfl; go_simp; try with_reducible rfl)
      simp only [Act.put,sT,sS,sZ]
      refine takeH (i:=8) (oi:=_) (v:=?vs1x8) 27 #[true,true,true,true,true,false,true,true,true,false] rfl (by kernel_rfl) (by kernel_rfl) (by kernel_rfl) rfl (by kernel_rfl) (fun _ _ _ h=>h) (Or.inl ⟨by rfl,?ys1x8⟩) (by assumption) ?rs1x8
      case ys1x8=>(intro w' hSw; (try dsimp only at hSw); have x0:=hSw.1.get 0 _ rfl; have x1:=hSw.1.get 1 _ rfl; have x2:=hSw.1.get 2 _ rfl; go_simp; try with_reducible rfl)
      simp only [Act.put,sT,sS,sZ]
      refine wpAnyH_ready (rs:=[5]) (by kernel_rfl) (by simp) ?_
      refine AllReadyH.cons (o:=_) rfl (fun K hK=>?_) AllReadyH.nil
      go_simp
      refine (hasLog_any x.past n4 y.who y.seq HPL.out (by exact HM9.out) HC.out HFy.out.1 HFy.out.2).mono ?_
      rintro e w9 ⟨rfl,rfl⟩
      go_wp2_with fail
      refine hK.out _ _ ?_ (fun hHeld=>?_)
      · exact ⟨World.rowIs.drew HB9.out,HM9.out⟩
      clear hK K
      try simp only [Act.put]
      refine listH (l2:=#[true,true,true,true,true,true,true,true,true,false]) (by kernel_rfl) ?_
      refine takeH (i:=9) (oi:=_) (v:=?vs1x9) 28 #[true,true,true,true,true,true,true,true,true,true] rfl (by kernel_rfl) (by kernel_rfl) (by kernel_rfl) rfl (by kernel_rfl) (fun _ _ _ h=>h) (Or.inl ⟨by rfl,?ys1x9⟩) (by assumption) ?rs1x9
      case ys1x9=>(intro w' hSw; (try dsimp only at hSw); have x0:=hSw.1.get 0 _ rfl; have x1:=hSw.1.get 1 _ rfl; have x2:=hSw.1.get 2 _ rfl; go_simp; try with_reducible rfl)
      simp only [Act.put,sT,sS,sZ]
      refine wpAnyH_done (by kernel_rfl) ?_ _
      have hbD : Below w2.heap.size w2 W.drew:=hbA.drew
      rcases hx : trueB x.past y with _ | _
      · have hne : (!(hasLog x.past y.who y.seq == (y.code == 0))) = true:=by unfold trueB at hx; rw [hx]; rfl
        have HY : Hid (toldTrue x = false):=by show _ = _; rw [HV.out,HQ.out,hx]; rfl
        clear HQ hx
        go_wp2_with fail
        all_goals first | (rename_i hh; rw [hne] at hh; exact absurd hh (by decide)) | skip
        go_ret
        exact ⟨ret_bool HY.out.symm,hB2.trans (hbD.mono hB2s)⟩
      · have hne : (!(hasLog x.past y.who y.seq == (y.code == 0))) = false:=by unfold trueB at hx; rw [hx]; rfl
        have HY : Hid (x.told.all (trueB x.past) = (x.told.drop (j + 1)).all (trueB x.past)):=by show _ = _; rw [HQ.out,hx]; rfl
        clear HQ hx
        go_wp2_with fail
        all_goals first | (rename_i hh; rw [hne] at hh; exact absurd hh (by decide)) | skip
        go_roundg (n5 - (j + 1))
        case measure=>have:=hk.out; omega
        case rel=>exact ⟨j + 1,by omega,rfl,by go_num,HY.out,hbD⟩
    · have HN : Hid (toldTrue x = true):=by
        show _ = _
        rw [HV.out,hq.out,List.drop_of_length_le (by have:=HTL.out; omega)]; rfl
      go_wp2_with fail
      go_ret
      exact ⟨ret_bool HN.out.symm,hbw⟩
end
end Go.Proofs.YtloopeipheklpaaGreatDoor
