/- Lemmas that the proofs of this seat share: LogA, Reader, Mark, Drawers, Out, App, Rop, SlimF, SlimS, SlimS2, SlimS3, SlimS4, SlimS5, SlimI, SlimI2, SlimI3, SlimI4, SlimI5, SlimI6, SlimI7, SlimI8, SlimI9, SlimI10, SlimI11. -/
import Derived.Test.YtloopeipheklpaaGreatDoorW03
import Derived.Test.YtloopeipheklpaaGreatDoorW01
import Derived.Deep.QuietTactic
import Derived.BigQuiet
import Derived.Deep.LoopGhost
import Derived.Deep.OwnRows
import Derived.Outline
import Derived.Laws.BitsAllLaws
import Derived.Deep.DeepCutAuto
import Derived.Laws.IdiomStrings
import Derived.OwnWalk
import Derived.Deep.AppendLies
import Derived.Deep.Onto
import Derived.Deep.RegionLaw
import Derived.Deep.RegionWith
import Derived.Maps.AppendAt
import Derived.Deep.Upon
import Derived.Deep.RegionHeld
import Derived.OrdersHeld
import Derived.BigRegion
namespace Go.Proofs.YtloopeipheklpaaGreatDoor
section
open Go.RowKit Go.ChangeShapes Go.WideShapes
structure LBase where
  id : Int
  ver : Int
structure BasesAt (w : World) (L U : Nat) (a : Option Addr) (n : Nat) (bs : List LBase) : Prop where
  len : n = bs.length
  bd : n ≤ maxLen
  at_ : n ≠ 0 → ∃ b off,a = some ⟨b,off,none⟩ ∧ L ≤ b ∧ b < U ∧ ∀ i,i < n → ∃ e,bs[i]? = some e ∧ w.cell? ⟨b,off + i * 2,none⟩ = some (.int .i64 e.id) ∧ w.cell? ⟨b,off + i * 2 + 1,none⟩ = some (.int .i64 e.ver)
theorem BasesAt.below {w w' : World} {L U B : Nat} {a : Option Addr} {n : Nat} {es : List LBase} (h : BasesAt w L U a n es) (hb : Below B w w') (hU : U ≤ B) : BasesAt w' L U a n es :=
  ⟨h.len,h.bd,fun hn=>by
    obtain ⟨b,off,ha,hL,hbU,hc⟩:=h.at_ hn
    refine ⟨b,off,ha,hL,hbU,fun i hi=>?_⟩
    obtain ⟨e,he,h0,h1⟩:=hc i hi
    exact ⟨e,he,by rw [hb.cell (by simp; omega)]; exact h0,by rw [hb.cell (by simp; omega)]; exact h1⟩⟩
theorem BasesAt.wide {w : World} {L U L' U' : Nat} {a : Option Addr} {n : Nat} {es : List LBase} (h : BasesAt w L U a n es) (hL' : L' ≤ L) (hU : U ≤ U') : BasesAt w L' U' a n es :=
  ⟨h.len,h.bd,fun hn=>by
    obtain ⟨b,off,ha,hL,hbU,hc⟩:=h.at_ hn
    exact ⟨b,off,ha,by omega,by omega,hc⟩⟩
theorem BasesAt.blocks {w w' : World} {L U : Nat} {a : Option Addr} {n : Nat} {es : List LBase} (h : BasesAt w L U a n es) (hb : ∀ b,L ≤ b → b < U → w'.heap[b]? = w.heap[b]?) : BasesAt w' L U a n es :=
  ⟨h.len,h.bd,fun hn=>by
    obtain ⟨b,off,ha,hL,hbU,hc⟩:=h.at_ hn
    refine ⟨b,off,ha,hL,hbU,fun i hi=>?_⟩
    obtain ⟨e,he,h0,h1⟩:=hc i hi
    have hk:=hb b hL hbU
    exact ⟨e,he,by rw [World.cell?_of_block (w:=w) hk]; exact h0,by rw [World.cell?_of_block (w:=w) hk]; exact h1⟩⟩
theorem OpsAt.blocks {w w' : World} {L U : Nat} {a : Option Addr} {n : Nat} {ops : List LOp} (h : OpsAt w L U a n ops) (hb : ∀ b,L ≤ b → b < U → w'.heap[b]? = w.heap[b]?) : OpsAt w' L U a n ops :=
  ⟨h.len,h.bd,fun hn=>by
    obtain ⟨b,off,ha,hL,hbU,hc⟩:=h.at_ hn
    refine ⟨b,off,ha,hL,hbU,fun i hi=>?_⟩
    obtain ⟨o,ho,hs,h0⟩:=hc i hi
    exact ⟨o,ho,hs,h0.of_block (hb b hL hbU)⟩⟩
structure LLog where
  who : Int
  seq : Int
  bases : List LBase
  list : List LOp
structure LogAt (w : World) (L U : Nat) (q s : Int) (a : Option Addr) (n : Nat) (a' : Option Addr) (n' : Nat) (l : LLog) : Prop where
  q : q = l.who
  s : s = l.seq
  b : BasesAt w L U a n l.bases
  o : OpsAt w L U a' n' l.list
theorem LogAt.below {w w' : World} {L U B : Nat} {q s : Int} {a a' : Option Addr} {n n' : Nat} {l : LLog} (h : LogAt w L U q s a n a' n' l) (hb : Below B w w') (hU : U ≤ B) : LogAt w' L U q s a n a' n' l:=⟨h.q,h.s,h.b.below hb hU,h.o.below hb hU⟩
theorem LogAt.wide {w : World} {L U L' U' : Nat} {q s : Int} {a a' : Option Addr} {n n' : Nat} {l : LLog} (h : LogAt w L U q s a n a' n' l) (hL : L' ≤ L) (hU : U ≤ U') : LogAt w L' U' q s a n a' n' l:=⟨h.q,h.s,h.b.wide hL hU,h.o.wide hL hU⟩
section
variable {H : Type} {enc : TypeId × Value → H} {w : World} {spare : Nat → Bool} {held : Bool}
theorem open_bases {fuel : Nat} {v : Value} {x : DataW H × List MemPlace} (h : DataW.trod enc Tryz.prog w 0 spare held fuel 78 [v] = some x) :
    ∃ a n c es,v = .slice a n c ∧ BasesAt w 0 w.heap.size a n es:=by
  rcases Go.Deep.open_slice_pairs Tryz.underlying78 Tryz.underlying231 (by kernel_rfl) rfl rfl (by kernel_rfl) (by kernel_rfl) h with ⟨hcs,_⟩ | ⟨a,len,cap,m,n,V0,V1,D0,D1,P0,P1,hcs,_,hl,hm,hmm,_,hx⟩
  · simp at hcs
    exact ⟨none,0,0,[],hcs,rfl,by simp,fun h=>absurd rfl h⟩
  · simp at hcs
    have hlm : len ≤ m:=by rw [hmm]; split <;> omega
    obtain ⟨es,hes,hp⟩:=list_of (n:=len) (p:=fun i (e : LBase)=>V0 i = .int .i64 e.id ∧ V1 i = .int .i64 e.ver) (fun i hi=>by
      obtain ⟨_,_,h0,h1⟩:=hx i (by omega)
      obtain ⟨s,e0,_,_⟩:=DataW.trod_int Tryz.underlying3 h0
      obtain ⟨k,e1,_,_⟩:=DataW.trod_int Tryz.underlying3 h1
      simp at e0 e1
      exact ⟨⟨s,k⟩,e0,e1⟩)
    refine ⟨some a,len,cap,es,hcs,hes.symm,by omega,fun hn=>?_⟩
    obtain ⟨b,off,spot⟩:=a
    have c0:=(hx 0 (by omega)).1
    have hspot : spot = none:=by simpa [Addr.add] using World.cell?_spot c0
    subst hspot
    refine ⟨b,off,rfl,Nat.zero_le _,by have:=cell_lt c0; simpa [Addr.add] using this,fun i hi=>?_⟩
    obtain ⟨e,he,q0,q1⟩:=hp i hi
    obtain ⟨h0,h1,_,_⟩:=hx i (by omega)
    exact ⟨e,he,by rw [← q0,← addr_add]; exact h0,by rw [← q1,Nat.add_assoc,← addr_add]; exact h1⟩
end
theorem szBaseS_any (a : Option Addr) (n c : Nat) (es : List LBase) (L U : Nat) (left : Int) (w : World) (h0 : 0 ≤ left) (h1 : left ≤ 1048576) (H : BasesAt w L U a n es) :
    Calls Tryz.prog 108 #[.slice a n c,.int .i64 left] w fun e w'=>(∃ r : Int,e = .returned (.int .i64 r) ∧ (r = -1 ∨ (0 ≤ r ∧ r = left - n))) ∧ Below w.heap.size w w':=by
  have hbd:=H.bd
  unfold maxLen at hbd
  by_cases h : left - n < 0
  · go_enter Tryz.func108,Tryz.ntmps108
    go_wp2
    go_ret
    exact ⟨⟨-1,rfl,.inl rfl⟩,Below.refl _ _⟩
  · go_enter Tryz.func108,Tryz.ntmps108
    go_wp2
    go_ret
    exact ⟨⟨_,rfl,.inr ⟨by omega,rfl⟩⟩,Below.refl _ _⟩
set_option maxHeartbeats 400000 in
theorem szLog_any (q s : Int) (a : Option Addr) (n c : Nat) (a' : Option Addr) (n' c' : Nat) (l : LLog) (L U : Nat) (left : Int) (w : World) (h0 : 0 ≤ left) (h1 : left ≤ 1048576) (hU : U ≤ w.heap.size) (H : LogAt w L U q s a n a' n' l) :
    Calls Tryz.prog 42 #[.agg #[.int .i64 q,.int .i64 s,.slice a n c,.slice a' n' c'],.int .i64 left] w fun e w'=>(∃ r : Int,e = .returned (.int .i64 r) ∧ (r = -1 ∨ (0 ≤ r ∧ r = left - n - n' - totOps l.list))) ∧ Below w.heap.size w w':=by
  have HB:=H.b
  have HO:=H.o
  clear H
  go_enter Tryz.func42,Tryz.ntmps42
  go_wp2_with fail
  have hA : Below w.heap.size w (w.alloc (Obj.cells #[.int .i64 q,.int .i64 s,.slice a n c,.slice a' n' c'] 80)):=(Below.refl _ _).alloc (Nat.le_refl _) _
  refine (szBaseS_any _ _ _ _ L U _ _ h0 h1 (HB.below hA hU)).mono ?_
  rintro x w1 ⟨⟨r,rfl,hr⟩,hb⟩
  have HR : Hid (r = -1 ∨ 0 ≤ r ∧ r = left - n):=hr
  clear hr
  have hb' : Below w.heap.size w w1:=hA.trans (hb.mono (by simp))
  have c3 : w1.cell? ⟨w.heap.size,3,none⟩ = some (.slice a' n' c'):=by rw [hb.cell (by simp)]; simp [go_sem]
  have hs1:=hb'.size
  by_cases hneg : r < 0
  · go_wp2_with fail
    go_ret
    exact ⟨⟨-1,rfl,.inl rfl⟩,hb'⟩
  · go_wp2_with fail
    refine (szOpS_any _ _ _ _ L U _ _ (by omega) (by have:=HR.out; omega) (by omega) (HO.below hb' hU)).mono ?_
    rintro x w2 ⟨⟨r2,rfl,hr2⟩,hb2⟩
    have HR2 : Hid (r2 = -1 ∨ 0 ≤ r2 ∧ r2 = r - n' - totOps l.list):=hr2
    clear hr2
    have hb2' : Below w.heap.size w w2:=hb'.trans (hb2.mono hs1)
    by_cases hneg2 : r2 < 0
    · go_wp2_with fail
      go_ret
      exact ⟨⟨-1,rfl,.inl rfl⟩,hb2'⟩
    · go_wp2_with fail
      go_ret
      exact ⟨⟨r2,rfl,by have:=HR.out; have:=HR2.out; omega⟩,hb2'⟩
theorem toBase_any (i j : Int) (w : World) :
    Calls Tryz.prog 178 #[.agg #[.int .i64 i,.int .i64 j]] w fun e w'=>e = .returned (.agg #[.int .i64 i,.int .i64 j]) ∧ Below w.heap.size w w':=by
  go_enter Tryz.func178,Tryz.ntmps178
  go_wp2
  exact bodyPost_ret (v:=.agg #[.int .i64 i,.int .i64 j]) (by simp [results,Tryz.results178,go_sem]) rfl ⟨rfl,by
    repeat (first | exact Below.refl _ _ | refine Below.setCell ?_ (by simp <;> omega) _ | refine Below.alloc ?_ (by simp <;> omega) _)⟩
theorem infoB : (Tryz.prog.info? 169).map (fun i=>(i.zero.map (·.cells),i.size,i.bytes)) = some (some #[.int .i64 0,.int .i64 0],2,16):=by kernel_rfl
set_option maxHeartbeats 400000 in
theorem toBaseS_any (a : Option Addr) (n c : Nat) (es : List LBase) (L U : Nat) (w : World) (hn : n ≤ 1048576) (hU : U ≤ w.heap.size) (H : BasesAt w L U a n es) :
    Calls Tryz.prog 112 #[.slice a n c] w fun e w'=>(∃ b,e = .returned (.slice (some ⟨b,0,none⟩) n n) ∧ BasesAt w' w.heap.size w'.heap.size (some ⟨b,0,none⟩) n es) ∧ Below w.heap.size w w':=by
  have hmk:=run_make_many 83 169 _ 2 16 Tryz.underlying83 infoB n (by omega) (by omega)
  obtain ⟨f0,hf0⟩:=rowIs_many w #[.int .i64 0,.int .i64 0] (n * 2) 169
  have HF0 : Hid ((w.alloc (.cells (madeCells #[.int .i64 0,.int .i64 0] (n * 2)) 169)).rowIs w.heap.size 169 (n * 2) f0):=hf0
  clear hf0
  go_enter Tryz.func112,Tryz.ntmps112
  go_wp2
  go_loopg [4] n (fun k i wr=>∃ j : Nat,j ≤ n ∧ Hid (k = n - j) ∧ i = .int .i64 j ∧ (∃ f,Hid (wr.rowIs w.heap.size 169 (n * 2) f ∧ ∀ i,i < j → ∃ e,es[i]? = some e ∧ f (i * 2) = .int .i64 e.id ∧ f (i * 2 + 1) = .int .i64 e.ver)) ∧ Below w.heap.size w wr)
  case atStart=>exact ⟨0,Nat.zero_le _,by show _ = _; omega,rfl,⟨f0,HF0.out,fun i hi=>by omega⟩,(Below.refl _ _).alloc (Nat.le_refl _) _⟩
  case round =>
    obtain ⟨j,hj,hk,rfl,⟨f,hf⟩,hb⟩:=hrel
    by_cases hlt : j < n
    · obtain ⟨b,off,ha,hL,hbU,hc⟩:=H.at_ (by omega)
      subst ha
      obtain ⟨e,he,hc0,hc1⟩:=hc j hlt
      rw [← hb.cell (by simp; omega)] at hc0 hc1
      have HE : Hid (es[j]? = some e):=he
      clear he hc
      go_wp2_with fail
      refine (toBase_any _ _ _).mono ?_
      rintro x w1 ⟨rfl,hb1⟩
      have hrow:=hf.out.1.of_block (hb1.block w.heap.size hf.out.1.lt)
      have g0:=hrow.cell (i:=j * 2) (by omega)
      have g1:=hrow.cell (i:=j * 2 + 1) (by omega)
      have z0:=hrow.frozen (j * 2)
      have z1:=hrow.frozen (j * 2 + 1)
      have HR : Hid (w1.rowIs w.heap.size 169 (n * 2) f):=hrow
      clear hrow
      go_wp2_with fail
      go_roundg (n - (j + 1))
      case measure=>have:=hk.out; omega
      case rel =>
        refine ⟨j + 1,by omega,rfl,by go_num,⟨_,(HR.out.set (j * 2) (.int .i64 e.id)).set (j * 2 + 1) (.int .i64 e.ver),fun i hi=>?_⟩,((hb.trans (hb1.mono hb.size)).setCell (by simp) _).setCell (by simp) _⟩
        by_cases hij : i = j
        · subst hij
          exact ⟨e,HE.out,by simp,by simp⟩
        · obtain ⟨e',he',q0,q1⟩:=hf.out.2 i (by omega)
          refine ⟨e',he',?_,?_⟩
          · show (if i * 2 = j * 2 + 1 then _ else if i * 2 = j * 2 then _ else f (i * 2)) = _
            rw [if_neg (by omega),if_neg (by omega)]; exact q0
          · show (if i * 2 + 1 = j * 2 + 1 then _ else if i * 2 + 1 = j * 2 then _ else f (i * 2 + 1)) = _
            rw [if_neg (by omega),if_neg (by omega)]; exact q1
    · go_wp2_with fail
      go_ret
      refine ⟨⟨w.heap.size,rfl,H.len,H.bd,fun hn0=>⟨w.heap.size,0,rfl,Nat.le_refl _,hf.out.1.lt,fun i hi=>?_⟩⟩,hb⟩
      obtain ⟨e',he',q0,q1⟩:=hf.out.2 i (by omega)
      exact ⟨e',he',by rw [← q0,Nat.zero_add]; exact hf.out.1.cell (by omega),by rw [← q1,Nat.zero_add]; exact hf.out.1.cell (by omega)⟩
set_option maxHeartbeats 400000 in
theorem toLog_any (q s : Int) (a : Option Addr) (n c : Nat) (a' : Option Addr) (n' c' : Nat) (l : LLog) (L U : Nat) (w : World) (hn : n ≤ 1048576) (hn' : n' ≤ 1048576) (hU : U ≤ w.heap.size) (H : LogAt w L U q s a n a' n' l) :
    Calls Tryz.prog 47 #[.agg #[.int .i64 q,.int .i64 s,.slice a n c,.slice a' n' c']] w fun e w'=>(∃ b b',e = .returned (.agg #[.int .i64 q,.int .i64 s,.slice (some ⟨b,0,none⟩) n n,.slice (some ⟨b',0,none⟩) n' n']) ∧ LogAt w' w.heap.size w'.heap.size q s (some ⟨b,0,none⟩) n (some ⟨b',0,none⟩) n' l) ∧ Below w.heap.size w w':=by
  have HH:=H
  have HB:=H.b
  have HO:=H.o
  clear H
  go_enter Tryz.func47,Tryz.ntmps47
  go_wp2_with fail
  refine (toBaseS_any _ _ _ _ L U _ hn (by simp <;> omega) (HB.below ((((Below.refl _ _).alloc (Nat.le_refl _) _).alloc (by simp) _).alloc (by simp <;> omega) _) hU)).mono ?_
  rintro x w1 ⟨⟨b,rfl,hk⟩,hb⟩
  have hz : w.heap.size + 3 ≤ w1.heap.size:=by have:=hb.size; simp at this; omega
  have hb0 : Below w.heap.size w w1:=((((Below.refl _ _).alloc (Nat.le_refl _) _).alloc (by simp) _).alloc (by simp <;> omega) _).trans (hb.mono (by simp <;> omega))
  have hk1 : BasesAt w1 (w.heap.size + 3) w1.heap.size (some ⟨b,0,none⟩) n l.bases:=hk.wide (by simp) (Nat.le_refl _)
  obtain ⟨hc,hf⟩:=bcell hb
  have p3 : w1.cell? ⟨w.heap.size,3,none⟩ = some (.slice a' n' c'):=by rw [hc _ _ (by simp <;> omega)]; simp [go_sem]
  have r0 : w1.cell? ⟨w.heap.size + 1,0,none⟩ = some (.int .i64 0):=by rw [hc _ _ (by simp <;> omega)]; simp [go_sem]
  have r1 : w1.cell? ⟨w.heap.size + 1,1,none⟩ = some (.int .i64 0):=by rw [hc _ _ (by simp <;> omega)]; simp [go_sem]
  have r2 : w1.cell? ⟨w.heap.size + 1,2,none⟩ = some (.slice none 0 0):=by rw [hc _ _ (by simp <;> omega)]; simp [go_sem]
  have r3 : w1.cell? ⟨w.heap.size + 1,3,none⟩ = some (.slice none 0 0):=by rw [hc _ _ (by simp <;> omega)]; simp [go_sem]
  have q0 : w1.cell? ⟨w.heap.size + 1 + 1,0,none⟩ = some (.int .i64 q):=by rw [hc _ _ (by simp)]; simp [go_sem]
  have q1 : w1.cell? ⟨w.heap.size + 1 + 1,1,none⟩ = some (.int .i64 s):=by rw [hc _ _ (by simp)]; simp [go_sem]
  have q2 : w1.cell? ⟨w.heap.size + 1 + 1,2,none⟩ = some (.slice none 0 0):=by rw [hc _ _ (by simp)]; simp [go_sem]
  have q3 : w1.cell? ⟨w.heap.size + 1 + 1,3,none⟩ = some (.slice none 0 0):=by rw [hc _ _ (by simp)]; simp [go_sem]
  have y1 : ∀ o,w1.frozen? ⟨w.heap.size + 1,o,none⟩ = false:=fun o=>by rw [hf _ _ (by simp <;> omega)]; simp [go_sem]
  have y2 : ∀ o,w1.frozen? ⟨w.heap.size + 1 + 1,o,none⟩ = false:=fun o=>by rw [hf _ _ (by simp)]; simp [go_sem]
  clear hc hf hb hk
  go_wp2_with fail
  refine (toOpS_any _ _ _ _ L U _ hn' (by simp <;> omega) (HO.below (hb0.setCell (by simp <;> omega) _) hU)).mono ?_
  rintro x w2 ⟨⟨b',rfl,hk2⟩,hb2⟩
  obtain ⟨hc,hf⟩:=bcell hb2
  have hz2 : w1.heap.size ≤ w2.heap.size:=by have:=hb2.size; simp at this; omega
  have e0:=hc (w.heap.size + 1) 0 (by simp <;> omega)
  have e1:=hc (w.heap.size + 1) 1 (by simp <;> omega)
  have e2:=hc (w.heap.size + 1) 2 (by simp <;> omega)
  have e3:=hc (w.heap.size + 1) 3 (by simp <;> omega)
  have d0:=hc (w.heap.size + 1 + 1) 0 (by simp <;> omega)
  have d1:=hc (w.heap.size + 1 + 1) 1 (by simp <;> omega)
  have d2:=hc (w.heap.size + 1 + 1) 2 (by simp <;> omega)
  have d3:=hc (w.heap.size + 1 + 1) 3 (by simp <;> omega)
  have x1 : ∀ o,w2.frozen? ⟨w.heap.size + 1,o,none⟩ = false:=fun o=>by rw [hf _ _ (by simp <;> omega)]; simp [go_sem,y1]
  have x2 : ∀ o,w2.frozen? ⟨w.heap.size + 1 + 1,o,none⟩ = false:=fun o=>by rw [hf _ _ (by simp <;> omega)]; simp [go_sem,y2]
  simp [go_sem,r0,r1,r2,r3,q0,q1,q2,q3] at e0 e1 e2 e3 d0 d1 d2 d3
  have hb3 : Below w.heap.size w w2:=(hb0.setCell (p:=⟨w.heap.size + 1 + 1,2,none⟩) (by simp <;> omega) (.slice (some ⟨b,0,none⟩) n n)).trans (hb2.mono (by simp <;> omega))
  have hk3 : BasesAt w2 (w.heap.size + 3) w1.heap.size (some ⟨b,0,none⟩) n l.bases:=hk1.blocks fun k h1 h2=>by
    rw [hb2.block k (by simp <;> omega)]
    exact Below.heap_setCell _ _ _ k (by simp <;> omega)
  have hk4 : OpsAt w2 (w.heap.size + 3) w2.heap.size (some ⟨b',0,none⟩) n' l.list:=hk2.wide (by simp <;> omega) (Nat.le_refl _)
  clear hc hf hb2 hk1 hk2 p3 r0 r1 r2 r3 q0 q1 q2 q3 y1 y2
  go_wp2_with fail
  refine bodyPost_ret (v:=.agg #[.int .i64 q,.int .i64 s,.slice (some ⟨b,0,none⟩) n n,.slice (some ⟨b',0,none⟩) n' n']) (by simp [results,Tryz.results47,go_sem,e0,e1,e2,e3]) rfl ⟨⟨b,b',rfl,HH.q,HH.s,?_,?_⟩,?_⟩
  · refine BasesAt.wide (L:=w.heap.size + 3) (U:=w1.heap.size) ?_ (by omega) (by simp <;> omega)
    refine hk3.blocks fun k h1 h2=>?_
    iterate 5 refine (Below.heap_setCell _ _ _ k (by simp <;> omega)).trans ?_
    rfl
  · refine OpsAt.wide (L:=w.heap.size + 3) (U:=w2.heap.size) ?_ (by omega) (by simp)
    refine hk4.blocks fun k h1 h2=>?_
    iterate 5 refine (Below.heap_setCell _ _ _ k (by simp <;> omega)).trans ?_
    rfl
  · repeat (first | exact hb3 | refine Below.setCell ?_ (by simp <;> omega) _)
theorem eqBase_same (i j : Int) (w : World) :
    Calls Tryz.prog 188 #[.agg #[.int .i64 i,.int .i64 j],.agg #[.int .i64 i,.int .i64 j]] w fun e w'=>e = .returned (.bool true) ∧ Below w.heap.size w w':=by
  go_enter Tryz.func188,Tryz.ntmps188
  go_wp2
  go_ret
  exact ⟨by simp,((Below.refl _ _).alloc (Nat.le_refl _) _).alloc (by simp) _⟩
set_option maxHeartbeats 800000 in
theorem eqBaseS_same (a a' : Option Addr) (n c c' : Nat) (es : List LBase) (L U L' U' : Nat) (w : World) (hU : U ≤ w.heap.size) (hU' : U' ≤ w.heap.size) (H : BasesAt w L U a n es) (H' : BasesAt w L' U' a' n es) :
    Calls Tryz.prog 122 #[.slice a n c,.slice a' n c'] w fun e w'=>e = .returned (.bool true) ∧ Below w.heap.size w w':=by
  have hbd:=H.bd
  unfold maxLen at hbd
  go_enter Tryz.func122,Tryz.ntmps122
  go_wp2_with fail
  go_loopg [5] n (fun k i wr=>∃ j : Nat,j ≤ n ∧ Hid (k = n - j) ∧ i = .int .i64 j ∧ Below w.heap.size w wr)
  case atStart=>exact ⟨0,Nat.zero_le _,rfl,rfl,Below.refl _ _⟩
  case round =>
    obtain ⟨j,hj,hk,rfl,hb⟩:=hrel
    by_cases hlt : j < n
    · obtain ⟨b,off,ha,hL,hbU,hc⟩:=H.at_ (by omega)
      obtain ⟨b',off',ha',hL',hbU',hc'⟩:=H'.at_ (by omega)
      subst ha ha'
      obtain ⟨x,he,c0,c1⟩:=hc j hlt
      obtain ⟨y,he2,d0,d1⟩:=hc' j hlt
      obtain rfl : x = y:=by rw [he] at he2; simpa using he2
      rw [← hb.cell (by simp <;> omega)] at c0 c1 d0 d1
      have hlt' : (j : Int) < (n : Int):=by omega
      have HEQ:=eqBase_same x.id x.ver
      clear he he2 hc hc'
      go_wp2_with fail
      go_region_with (go_at_call 188; go_must (refine (HEQ _).mono ?_; rintro e w1 ⟨rfl,hb1⟩))
      all_goals
        go_wp2_with fail
        go_roundg (n - (j + 1))
        case measure=>have:=hk.out; omega
        case rel=>exact ⟨j + 1,by omega,rfl,by go_num,hb.trans ((Below.refl _ _).drew.trans (hb1.mono (by simp)) |>.mono hb.size)⟩
    · obtain rfl : j = n:=by omega
      go_wp2_with fail
      go_ret
      exact ⟨rfl,hb⟩
set_option maxHeartbeats 800000 in
theorem eqLog_same (q s : Int) (a : Option Addr) (n c : Nat) (a' : Option Addr) (n' c' : Nat) (a2 : Option Addr) (c2 : Nat) (a2' : Option Addr) (c2' : Nat) (l : LLog) (L U L' U' : Nat) (w : World) (hU : U ≤ w.heap.size) (hU' : U' ≤ w.heap.size) (H : LogAt w L U q s a n a' n' l) (H' : LogAt w L' U' q s a2 n a2' n' l) :
    Calls Tryz.prog 53 #[.agg #[.int .i64 q,.int .i64 s,.slice a n c,.slice a' n' c'],.agg #[.int .i64 q,.int .i64 s,.slice a2 n c2,.slice a2' n' c2']] w fun e w'=>e = .returned (.bool true) ∧ Below w.heap.size w w':=by
  have HB:=H.b
  have HO:=H.o
  have HB':=H'.b
  have HO':=H'.o
  clear H H'
  go_enter Tryz.func53,Tryz.ntmps53
  go_wp2_with fail
  refine (eqBaseS_same _ _ _ _ _ _ L U L' U' _ (by simp <;> omega) (by simp <;> omega) (HB.below (((Below.refl _ _).alloc (Nat.le_refl _) _).alloc (by simp) _) hU) (HB'.below (((Below.refl _ _).alloc (Nat.le_refl _) _).alloc (by simp) _) hU')).mono ?_
  rintro x w1 ⟨rfl,hb1⟩
  have hb2 : Below w.heap.size w w1:=(((Below.refl _ _).alloc (Nat.le_refl _) _).alloc (by simp) _).trans (hb1.mono (by simp <;> omega))
  have hz:=hb2.size
  have p3 : w1.cell? ⟨w.heap.size,3,none⟩ = some (.slice a' n' c'):=by rw [hb1.cell (by simp <;> omega)]; simp [go_sem]
  have p4 : w1.cell? ⟨w.heap.size + 1,3,none⟩ = some (.slice a2' n' c2'):=by rw [hb1.cell (by simp)]; simp [go_sem]
  clear hb1
  go_wp2_with fail
  refine (eqOpS_same _ _ _ _ _ _ L U L' U' _ (by omega) (by omega) (HO.below hb2 hU) (HO'.below hb2 hU')).mono ?_
  rintro x w2 ⟨rfl,hb3⟩
  go_wp2_with fail
  go_ret
  exact ⟨rfl,hb2.trans (hb3.mono hz)⟩
end
section
open Go.RowKit
end
section
open Go.RowKit
end
section
open Go.RowKit
structure But (b : Nat) (w w' : World) : Prop where
  below : Below b w w'
  block : ∀ k,k ≠ b → k < w.heap.size → w'.heap[k]? = w.heap[k]?
theorem But.refl (b : Nat) (w : World) : But b w w:=⟨Below.refl _ _,fun _ _ _=>rfl⟩
theorem But.trans {b : Nat} {w w1 w2 : World} (h : But b w w1) (k : But b w1 w2) : But b w w2 :=
  ⟨h.below.trans k.below,fun i h1 h2=>(k.block i h1 (by have:=h.below.size; omega)).trans (h.block i h1 h2)⟩
theorem But.next {b : Nat} {w w1 w2 : World} (h : But b w w1) (hb : b ≤ w1.heap.size) (k : Below w1.heap.size w1 w2) : But b w w2 :=
  h.trans ⟨k.mono hb,fun i _ h2=>k.block i h2⟩
theorem But.set {b : Nat} {w w1 : World} (h : But b w w1) (o : Nat) (v : Value) : But b w (w1.setCell ⟨b,o,none⟩ v) :=
  h.trans ⟨(Below.refl _ _).setCell (by exact Nat.le_refl _) _,fun i h1 _=>Below.heap_setCell w1 ⟨b,o,none⟩ v i h1⟩
end
section
open Go.RowKit
def OwnInts (w : World) (B : Nat) (v : Value) (l : List Nat) : Prop:=w.ownsRow B 3 1 v l.length (l.map fun i : Nat=>Value.int .i64 i)
theorem infoI : (Tryz.prog.info? 3).map (fun i=>(i.zero,i.size,i.bytes)) = some (some (.int .i64 0),1,8):=by kernel_rfl
theorem below_grown {B : Nat} {w w1 w2 : World} {row : Option Nat} (h : Below B w w1) (hg : w1.grownBy w2 row) (hr : ∀ k,row = some k → B ≤ k) (hs : B ≤ w1.heap.size) : Below B w w2 :=
  h.trans ⟨hg.os,hg.tape,hg.output,hg.size,fun k hk=>hg.block k (by omega) (fun e=>by have:=hr k e.symm; omega)⟩
theorem one_at {w : World} {u v : Value} {t : TypeId} {i : Nat} (h : [v][i]? = some u) : (w.alloc (Obj.cells #[v] t)).cell? ((⟨w.heap.size,0,none⟩ : Addr).add i) = some u:=by
  match i,h with
  | 0,h=>simp at h; subst h; simp [Addr.add]
end
section
open Go.RowKit
theorem OwnInts.get {w : World} {B : Nat} {v : Value} {l : List Nat} (h : OwnInts w B v l) (hl : l ≠ []) : ∃ g c,v = .slice (some ⟨g,0,none⟩) l.length c ∧ B ≤ g ∧ g < w.heap.size ∧ ∀ i,i < l.length → ∃ k,l[i]? = some k ∧ w.cell? ⟨g,i,none⟩ = some (.int .i64 (k : Nat)):=by
  have h0 : 0 < l.length:=List.length_pos_iff.mpr hl
  obtain ⟨g,c,rfl,hb,hlt⟩:=World.ownsRow.form h h0
  refine ⟨g,c,rfl,hb,hlt,fun i hi=>⟨l[i],by simp [hi],?_⟩⟩
  have:=World.ownsRow.cellAt h i (by simpa using hi)
  rw [this]; simp [hi]
theorem OwnInts.nil {w : World} {B : Nat} {v : Value} (h : OwnInts w B v []) : ∃ a c,v = .slice a 0 c:=by
  rcases h.2 with ⟨rfl,_⟩ | ⟨g,cap,cur,rfl,_⟩
  · exact ⟨_,_,rfl⟩
  · exact ⟨_,_,rfl⟩
end
section
open Go.RowKit
end
section
open Go.RowKit
def entCells (es : List LEnt) : List Value:=es.flatMap fun e=>[.string e.name,.int .i64 e.id]
theorem entCells_len (es : List LEnt) : (entCells es).length = es.length * 2:=by
  induction es with
  | nil=>rfl
  | cons e r ih=>simp only [entCells,List.flatMap_cons,List.length_append,List.length_cons,List.length_nil] at ih ⊢; omega
theorem entCells_app (es fs : List LEnt) : entCells (es ++ fs) = entCells es ++ entCells fs:=by simp [entCells]
theorem entCells_at : ∀ (es : List LEnt) (i : Nat) (e : LEnt),es[i]? = some e → (entCells es)[i * 2]? = some (.string e.name) ∧ (entCells es)[i * 2 + 1]? = some (.int .i64 e.id)
  | [],i,e,h=>by simp at h
  | x :: r,0,e,h=>by simp at h; subst h; simp [entCells]
  | x :: r,i + 1,e,h=>by
    have ih:=entCells_at r i e (by simpa using h)
    have e1 : entCells (x :: r) = [.string x.name,.int .i64 x.id] ++ entCells r:=rfl
    rw [e1,List.getElem?_append_right (by simp; omega),List.getElem?_append_right (by simp; omega)]
    have a1 : (i + 1) * 2 - 2 = i * 2:=by omega
    have a2 : (i + 1) * 2 + 1 - 2 = i * 2 + 1:=by omega
    simpa [a1,a2] using ih
def OwnEnts (w : World) (B : Nat) (v : Value) (es : List LEnt) : Prop:=w.ownsRow B 247 2 v es.length (entCells es)
def outL (name : ByteArray) (es : List LEnt) : List LEnt:=es.filter fun e=>!(e.name.toList == name.toList)
theorem outL_le (name : ByteArray) (es : List LEnt) : (outL name es).length ≤ es.length:=List.length_filter_le _ _
theorem info47' : (Tryz.prog.info? 247).map (fun i=>(i.zero,i.size,i.bytes)) = some (some (.agg #[.string ⟨#[]⟩,.int .i64 0]),2,24):=by kernel_rfl
theorem OwnEnts.at_ {w : World} {B : Nat} {v : Value} {es : List LEnt} (h : OwnEnts w B v es) (hn : ∀ e ∈ es,e.name.size ≤ maxLen) : ∃ a c,v = .slice a es.length c ∧ EntsAt w B w.heap.size a es.length es:=by
  by_cases h0 : es.length = 0
  · obtain rfl : es = []:=List.eq_nil_of_length_eq_zero h0
    rcases h.2 with ⟨rfl,_⟩ | ⟨g,cap,cur,rfl,_⟩
    · exact ⟨_,_,rfl,rfl,by simp [maxLen],fun hn=>absurd rfl hn⟩
    · exact ⟨_,_,rfl,rfl,by simp [maxLen],fun hn=>absurd rfl hn⟩
  · obtain ⟨g,c,rfl,hb,hlt⟩:=World.ownsRow.form h (by omega)
    have hbd : es.length ≤ maxLen:=by
      rcases h.2 with ⟨h',_⟩ | ⟨g',cap',cur,h',_,_,hnc,hcm,_⟩
      · simp at h'
      · omega
    refine ⟨_,_,rfl,rfl,hbd,fun _=>⟨g,0,rfl,hb,hlt,fun i hi=>⟨es[i],by simp [hi],hn _ (List.getElem_mem hi),?_,?_⟩⟩⟩
    · have:=World.ownsRow.cellAt h (i * 2) (by omega)
      rw [Nat.zero_add,this]
      exact (entCells_at es i es[i] (by simp [hi])).1
    · have:=World.ownsRow.cellAt h (i * 2 + 1) (by omega)
      rw [Nat.zero_add,this]
      exact (entCells_at es i es[i] (by simp [hi])).2
theorem two_at {w : World} {u v0 v1 : Value} {t : TypeId} {i : Nat} (h : [v0,v1][i]? = some u) : (w.alloc (Obj.cells #[v0,v1] t)).cell? ((⟨w.heap.size,0,none⟩ : Addr).add i) = some u:=by
  match i,h with
  | 0,h=>simp at h; subst h; simp [Addr.add]
  | 1,h=>simp at h; subst h; simp [Addr.add]
theorem outL_take_yes {name : ByteArray} {es : List LEnt} {k : Nat} {e : LEnt} (h : es[k]? = some e) (hb : (e.name.toList == name.toList) = false) : outL name (es.take (k + 1)) = outL name (es.take k) ++ [e]:=by
  simp [outL,List.take_add_one,h,List.filter_append,hb]
theorem outL_take_no {name : ByteArray} {es : List LEnt} {k : Nat} {e : LEnt} (h : es[k]? = some e) (hb : (e.name.toList == name.toList) = true) : outL name (es.take (k + 1)) = outL name (es.take k):=by
  simp [outL,List.take_add_one,h,List.filter_append,hb]
theorem keepEnts {wr w0 w1 : World} {B : Nat} {u v' : Value} {l : List LEnt} {e : LEnt} {o1 : Obj} (hown : Hid (OwnEnts wr B u l)) (hb : Below B w0 wr) (hsz : B ≤ wr.heap.size)
    (hown' : w1.ownsRow B 247 2 v' (l.length + 1) (entCells l ++ [Value.string e.name,Value.int .i64 e.id])) (hgrow : (wr.alloc o1).grownBy w1 u.ownBlock) :
    OwnEnts w1 B v' (l ++ [e]) ∧ Below B w0 w1:=by
  have hr : ∀ k,u.ownBlock = some k → B ≤ k:=fun k e=>(hown.out.lt k e).1
  have hb1 : Below B wr w1:=below_grown ((Below.refl _ _).alloc (by omega) _) hgrow hr (by simp; omega)
  exact ⟨by unfold OwnEnts; rw [entCells_app,List.length_append]; exact hown',hb.trans hb1⟩
set_option maxHeartbeats 1000000 in
set_option maxRecDepth 20000 in
theorem out_any (a : Option Addr) (n c : Nat) (es : List LEnt) (L U : Nat) (name : ByteArray) (w : World) (hn : n ≤ 1048576) (hU : U ≤ w.heap.size) (H : EntsAt w L U a n es) :
    Calls Tryz.prog 210 #[.slice a n c,.string name] w fun e w'=>(∃ v,e = .returned v ∧ Hid (OwnEnts w' w.heap.size v (outL name es))) ∧ Below w.heap.size w w':=by
  obtain ⟨i0,hi,hz0,hz1,hz2⟩:=info_parts info47'
  go_enter Tryz.func210,Tryz.ntmps210
  go_wp2_with fail
  go_loopg [5,6] n (fun k v i wr=>∃ j : Nat,j ≤ n ∧ Hid (k = n - j) ∧ i = .int .i64 j ∧ Hid (OwnEnts wr w.heap.size v (outL name (es.take j))) ∧ Below w.heap.size w wr)
  case atStart=>exact ⟨0,Nat.zero_le _,rfl,rfl,by show OwnEnts _ _ _ _; simpa [OwnEnts,outL,entCells] using World.ownsRow_lit (base:=w.heap.size) (e:=247) (size:=2) w #[] 0 (by simp) (by simp [maxLen]) rfl,(Below.refl _ _).alloc (Nat.le_refl _) _⟩
  case round =>
    obtain ⟨j,hj,hk,rfl,hown,hb⟩:=hrel
    have hsz:=hb.size
    by_cases hlt : j < n
    · obtain ⟨b,off,ha,hL,hbU,hc⟩:=H.at_ (by omega)
      subst ha
      obtain ⟨e,he,hts,hc0,hc1⟩:=hc j hlt
      rw [← hb.cell (by simp; omega)] at hc0 hc1
      have HE : Hid (es[j]? = some e):=he
      clear he hc
      rcases hq : (e.name.toList == name.toList) with _ | _
      · have HL : Hid (outL name (es.take (j + 1)) = outL name (es.take j) ++ [e]):=outL_take_yes HE.out hq
        have hle : (outL name (es.take j)).length ≤ j:=by have:=outL_le name (es.take j); simp at this; omega
        go_wp2_with (first
          | (at_builtin; refine wpList_append_own _ rfl _ _ 163 rfl w.heap.size 247 i0 _ 2 24 Tryz.underlying163 hi hz0 hz1 hz2 rfl (by decide) _ _ _ rfl (hown.out.alloc _) ⟨wr.heap.size,0,none⟩ 1 1 [.string e.name,.int .i64 e.id] rfl rfl ?c1 ?c2 ?c3 ?c4 ?c5 ?_)
          | go_in)
        case c1=>intro i u hi; exact two_at hi
        case c2=>intro u hu; simp at hu; rcases hu with rfl | rfl <;> rfl
        case c3=>unfold maxLen; omega
        case c4=>omega
        case c5=>simp; omega
        intro v' w1 hown' hgrow _
        have R:=keepEnts hown hb hsz hown' hgrow
        clear hown' hgrow hown hb
        go_wp2_with fail
        go_roundg (n - (j + 1))
        case measure=>have:=hk.out; omega
        case rel=>exact ⟨j + 1,by omega,rfl,by go_num,by show OwnEnts _ _ _ _; rw [HL.out]; exact R.1,R.2⟩
      · have HL : Hid (outL name (es.take (j + 1)) = outL name (es.take j)):=outL_take_no HE.out hq
        go_wp2_with fail
        go_roundg (n - (j + 1))
        case measure=>have:=hk.out; omega
        case rel=>exact ⟨j + 1,by omega,rfl,by go_num,by show OwnEnts _ _ _ _; rw [HL.out]; exact hown.out,hb⟩
    · obtain rfl : j = n:=by omega
      have hown':=hown.out
      rw [List.take_of_length_le (by have:=H.len; omega)] at hown'
      go_wp2_with fail
      go_ret
      exact ⟨⟨_,rfl,hown'⟩,hb⟩
end
section
open Go.RowKit
theorem entCells_one : ∀ (es : List LEnt),∀ u ∈ entCells es,u.oneCell' = true:=by
  intro es u hu
  simp only [entCells,List.mem_flatMap] at hu
  obtain ⟨e,_,h⟩:=hu
  simp at h
  rcases h with rfl | rfl <;> rfl
structure AppEnd (w w' : World) (B g g' n cap' : Nat) (l : List LEnt) : Prop where
  own : OwnEnts w' B (.slice (some ⟨g',0,none⟩) n cap') l
  grown : w.grownBy w' (some g)
  at_ : g' = g ∨ g' = w.heap.size
  lt : g' < w'.heap.size
theorem run_app_ents (w : World) (B g n cap : Nat) (l news : List LEnt) (ty : TypeId) (hn : n = l.length) (hown : OwnEnts w B (.slice (some ⟨g,0,none⟩) n cap) l) (ad : Addr) (m c : Nat) (hm : m = news.length)
    (hnews : ∀ j u,(entCells news)[j]? = some u → w.cell? (ad.add j) = some u) (hbd : n + m ≤ 4000000) (hB : B ≤ w.heap.size) :
    ∃ g' cap' w',(Builtin.append_ #[163,163] ty #[.slice (some ⟨g,0,none⟩) n cap,.slice (some ad) m c]).run Tryz.prog w = .ok (.slice (some ⟨g',0,none⟩) (n + m) cap') w' ∧ AppEnd w w' B g g' (n + m) cap' (l ++ news):=by
  obtain ⟨i0,hi,hz0,hz1,hz2⟩:=info_parts info47'
  subst hn hm
  obtain ⟨v',w',hr,h2,h3,h4,h5⟩:=run_append_own_at (P:=Tryz.prog) w B 163 ty 247 i0 _ 2 24 Tryz.underlying163 hi hz0 hz1 hz2 rfl (by decide) _ _ _ hown ad news.length c (entCells news) (entCells_len _) hnews (entCells_one _) (by unfold maxLen; omega) (by omega) hB
  have h2':=h2
  rcases h2.2 with ⟨hv,_⟩ | ⟨g',cap',cur,rfl,hb,hg,_⟩
  · have:=(h4.1 hv).1; cases this
  · refine ⟨g',cap',w',hr,⟨?_,h3,?_,(Array.getElem?_eq_some_iff.1 hg).1⟩⟩
    · unfold OwnEnts; rw [entCells_app,List.length_append]; exact h2'
    · simpa [Value.ownBlock] using h5
theorem wp_app_ents (w : World) {o : Oper} {a : Act} {K : Act → World → Prop} {Q : Exit → Act → World → Prop} (s x : Operand)
    (ho : o.op = .call { callee:=.builtin .append,args:=#[s,x],argTypes:=#[163,163] }) (B g n cap : Nat) (l news : List LEnt) (hn : n = l.length) (hown : OwnEnts w B (.slice (some ⟨g,0,none⟩) n cap) l) (ad : Addr) (m c : Nat) (hm : m = news.length)
    (hs : a.eval s = .slice (some ⟨g,0,none⟩) n cap) (hx : a.eval x = .slice (some ad) m c)
    (hnews : ∀ j u,(entCells news)[j]? = some u → w.cell? (ad.add j) = some u) (hbd : n + m ≤ 4000000) (hB : B ≤ w.heap.size)
    (h : ∀ g' cap' w',AppEnd w w' B g g' (n + m) cap' (l ++ news) → K (a.put o.dst (.slice (some ⟨g',0,none⟩) (n + m) cap')) w') : o.wp Tryz.prog a w K Q:=by
  obtain ⟨g',cap',w',hr,h2⟩:=run_app_ents w B g n cap l news o.type hn hown ad m c hm hnews hbd hB
  unfold Oper.wp execOp
  simp only [ho,resolve,invoke,builtin,Sem.run_bind,Sem.run_pure,Result.andThen_ok,List.map_toArray,List.map_cons,List.map_nil,hs,hx,hr]
  exact h g' cap' w' h2
theorem wpList_app_ents (w : World) {ops : Array Oper} {rest : List Oper} {o : Oper} {a : Act} {Q : Exit → Act → World → Prop} (hgd : o.guard = none) (s x : Operand)
    (ho : o.op = .call { callee:=.builtin .append,args:=#[s,x],argTypes:=#[163,163] }) (B g n cap : Nat) (l news : List LEnt) (hn : n = l.length) (hown : OwnEnts w B (.slice (some ⟨g,0,none⟩) n cap) l) (ad : Addr) (m c : Nat) (hm : m = news.length)
    (hs : a.eval s = .slice (some ⟨g,0,none⟩) n cap) (hx : a.eval x = .slice (some ad) m c)
    (hnews : ∀ j u,(entCells news)[j]? = some u → w.cell? (ad.add j) = some u) (hbd : n + m ≤ 4000000) (hB : B ≤ w.heap.size)
    (h : ∀ g' cap' w',AppEnd w w' B g g' (n + m) cap' (l ++ news) → wpList Tryz.prog ops Q rest (a.put o.dst (.slice (some ⟨g',0,none⟩) (n + m) cap')) w') : wpList Tryz.prog ops Q (o :: rest) a w :=
  wpList_plain hgd fun _ hK=>wp_app_ents w s x ho B g n cap l news hn hown ad m c hm hs hx hnews hbd hB fun g' cap' w' h2=>hK _ _ (h g' cap' w' h2)
theorem step_app_ents (w : World) {ops : Array Oper} {o : Oper} {a : Act} {K : Act → World → Prop} {Q : Exit → Act → World → Prop} {E : Prop} (hgd : o.guard = none) (s x : Operand)
    (ho : o.op = .call { callee:=.builtin .append,args:=#[s,x],argTypes:=#[163,163] }) (B g n cap : Nat) (l news : List LEnt) (hn : n = l.length) (hown : OwnEnts w B (.slice (some ⟨g,0,none⟩) n cap) l) (ad : Addr) (m c : Nat) (hm : m = news.length)
    (hs : a.eval s = .slice (some ⟨g,0,none⟩) n cap) (hx : a.eval x = .slice (some ad) m c)
    (hnews : ∀ j u,(entCells news)[j]? = some u → w.cell? (ad.add j) = some u) (hbd : n + m ≤ 4000000) (hB : B ≤ w.heap.size)
    (h : ∀ g' cap' w',AppEnd w w' B g g' (n + m) cap' (l ++ news) → K (a.put o.dst (.slice (some ⟨g',0,none⟩) (n + m) cap')) w') :
    if Region.wanted o (yielded ops a.tmps) = true then Oper.wp Tryz.prog o a w K Q else E:=by
  have hw : Region.wanted o (yielded ops a.tmps) = true:=by simp [Region.wanted,hgd]
  rw [if_pos hw]
  exact wp_app_ents w s x ho B g n cap l news hn hown ad m c hm hs hx hnews hbd hB h
theorem OwnEnts.grown {w w' : World} {B g n cap : Nat} {es : List LEnt} {row : Option Nat} (h : OwnEnts w B (.slice (some ⟨g,0,none⟩) n cap) es) (hg : w.grownBy w' row) (hne : some g ≠ row) : OwnEnts w' B (.slice (some ⟨g,0,none⟩) n cap) es :=
  World.ownsRow.kept h hg (.inr (by simpa [Value.ownBlock] using hne))
theorem OwnEnts.cut {w : World} {B g n cap k : Nat} {es : List LEnt} (h : OwnEnts w B (.slice (some ⟨g,0,none⟩) n cap) es) (hn : n = es.length) (hk : k ≤ n) : OwnEnts w B (.slice (some ⟨g,0,none⟩) k cap) (es.take k):=by
  subst hn
  have hl : (es.take k).length = k:=by simp; omega
  refine ⟨by rw [entCells_len],.inr ?_⟩
  rcases h.2 with ⟨h',_⟩ | ⟨g',cap',cur,h',hb,hg,hnc,hcm,hcs,htake⟩
  · simp at h'
  · simp only [Value.slice.injEq,Option.some.injEq,Addr.mk.injEq,and_true,true_and] at h'
    obtain ⟨rfl,rfl⟩:=h'
    refine ⟨g,cap,cur,by rw [hl],hb,hg,by omega,hcm,hcs,?_⟩
    have e1 : entCells es = entCells (es.take k) ++ entCells (es.drop k):=by rw [← entCells_app,List.take_append_drop]
    have e2 : cur.toList.take (k * 2) = (cur.toList.take (es.length * 2)).take (k * 2):=by rw [List.take_take]; congr 1; omega
    rw [hl,e2,htake,e1,List.take_left' (by rw [entCells_len,hl])]
theorem OwnEnts.rest {w : World} {B g n cap k : Nat} {es : List LEnt} (h : OwnEnts w B (.slice (some ⟨g,0,none⟩) n cap) es) (hn : n = es.length) (hk : k ≤ n) : ∀ j u,(entCells (es.drop k))[j]? = some u → w.cell? ((⟨g,k * 2,none⟩ : Addr).add j) = some u:=by
  intro j u hu
  subst hn
  have hl : (es.take k).length = k:=by simp; omega
  have e1 : entCells es = entCells (es.take k) ++ entCells (es.drop k):=by rw [← entCells_app,List.take_append_drop]
  have hlen : (entCells (es.take k)).length = k * 2:=by rw [entCells_len,hl]
  have h1 : (entCells es)[k * 2 + j]? = some u:=by rw [e1,List.getElem?_append_right (by omega)]; rw [hlen]; simpa using hu
  have hj : k * 2 + j < es.length * 2:=by
    have:=(List.getElem?_eq_some_iff.1 h1).1
    rwa [entCells_len] at this
  have h2:=World.ownsRow.cellAt h (k * 2 + j) hj
  have hadd : (⟨g,k * 2,none⟩ : Addr).add j = ⟨g,k * 2 + j,none⟩:=by unfold Addr.add; split <;> simp_all
  rw [hadd,h2]; exact h1
theorem OwnEnts.empty (w : World) (B : Nat) (hB : B ≤ w.heap.size) : OwnEnts (w.alloc (Obj.cells #[] 247)) B (.slice (some ⟨w.heap.size,0,none⟩) 0 0) []:=by
  simpa [OwnEnts,entCells] using World.ownsRow_lit (base:=B) (e:=247) (size:=2) w #[] 0 hB (by simp [maxLen]) rfl
end
section
open Go.RowKit
end
section
open Go.RowKit
theorem drop_cons {α : Type} {l : List α} {k : Nat} {x : α} (h : l[k]? = some x) : l.drop k = x :: l.drop (k + 1):=by
  obtain ⟨hk,rfl⟩:=List.getElem?_eq_some_iff.1 h
  exact List.drop_eq_getElem_cons hk
def formsB (ops : List LOp) : Bool:=decide (ops.length ≤ 60) && ops.all opOk
end
section
open Go.RowKit
set_option maxHeartbeats 1000000 in
theorem forms_any (a : Option Addr) (n c : Nat) (ops : List LOp) (L U : Nat) (w : World) (hU : U ≤ w.heap.size) (H : OpsAt w L U a n ops) :
    Calls Tryz.prog 79 #[.slice a n c] w fun e w'=>e = .returned (.bool (formsB ops)) ∧ Below w.heap.size w w':=by
  have hbd:=H.bd
  have hlen : Hid (n = ops.length):=H.len
  unfold maxLen at hbd
  by_cases h60 : 60 < n
  · have h60' : (60 : Int) < (n : Int):=by omega
    go_enter Tryz.func79,Tryz.ntmps79
    go_wp2_with fail
    go_ret
    exact ⟨ret_bool (by have:=hlen.out; simp [formsB]; omega),Below.refl _ _⟩
  · have h60' : ¬ (60 : Int) < (n : Int):=by omega
    go_enter Tryz.func79,Tryz.ntmps79
    go_wp2_with fail
    go_loopg [3] n (fun g k wr=>∃ j : Nat,j ≤ n ∧ Hid (g = n - j) ∧ k = .int .i64 j ∧ Hid (formsB ops = (ops.drop j).all opOk) ∧ Below w.heap.size w wr)
    case atStart=>exact ⟨0,Nat.zero_le _,rfl,rfl,by show _ = _; have:=hlen.out; simp [formsB]; omega,Below.refl _ _⟩
    case round =>
      obtain ⟨j,hj,hk,rfl,hq,hb⟩:=hrel
      by_cases hlt : j < n
      · obtain ⟨b,off,ha,hL,hbU,hc⟩:=H.at_ (by omega)
        subst ha
        obtain ⟨x,he,hsz,hat⟩:=hc j hlt
        obtain ⟨d0,d1,d2,d3,d4,d5,d6⟩:=hat.of_block (hb.block b (by omega))
        have hlt' : (j : Int) < (n : Int):=by omega
        have HQ : Hid (formsB ops = (opOk x && (ops.drop (j + 1)).all opOk)):=by show _ = _; rw [hq.out,drop_cons he,List.all_cons]
        have HOK:=fun w=>opOk_any x w hsz.name hsz.name2 hsz.text
        simp only [LOp.val] at HOK
        clear he hc hq hat H
        go_wp2_with fail
        refine (HOK _).mono ?_
        rintro e w1 ⟨rfl,rfl⟩
        rcases hx : opOk x with _ | _
        · have HY : Hid (formsB ops = false):=by show _ = _; rw [HQ.out,hx]; rfl
          clear HOK HQ
          go_wp2_with fail
          go_ret
          exact ⟨ret_bool HY.out.symm,hb.alloc hb.size _⟩
        · have HY : Hid (formsB ops = (ops.drop (j + 1)).all opOk):=by show _ = _; rw [HQ.out,hx]; rfl
          clear HOK HQ
          go_wp2_with fail
          go_roundg (n - (j + 1))
          case measure=>have:=hk.out; omega
          case rel=>exact ⟨j + 1,by omega,rfl,by go_num,HY.out,hb.alloc hb.size _⟩
      · have HN : Hid (formsB ops = true):=by
          show _ = _
          rw [hq.out,List.drop_of_length_le (by have:=hlen.out; omega)]; rfl
        go_wp2_with fail
        go_ret
        exact ⟨ret_bool HN.out.symm,hb⟩
end
section
open Go.RowKit
end
section
open Go.RowKit
end
section
open Go.RowKit
end
section
open Go.RowKit
end
section
open Go.RowKit
end
section
open Go.RowKit
set_option maxHeartbeats 1000000 in
theorem listOk_any (a : Option Addr) (n c : Nat) (ops : List LOp) (L U : Nat) (w : World) (hU : U ≤ w.heap.size) (H : OpsAt w L U a n ops) :
    Calls Tryz.prog 116 #[.slice a n c] w fun e w'=>e = .returned (.bool (formsB ops)) ∧ Below w.heap.size w w':=by
  have hbd:=H.bd
  have hlen : Hid (n = ops.length):=H.len
  unfold maxLen at hbd
  by_cases h60 : 60 < n
  · have h60' : (60 : Int) < (n : Int):=by omega
    go_enter Tryz.func116,Tryz.ntmps116
    go_wp2_with fail
    go_ret
    exact ⟨ret_bool (by have:=hlen.out; simp [formsB]; omega),Below.refl _ _⟩
  · have h60' : ¬ (60 : Int) < (n : Int):=by omega
    go_enter Tryz.func116,Tryz.ntmps116
    go_wp2_with fail
    go_loopg [10] n (fun g k wr=>∃ j : Nat,j ≤ n ∧ Hid (g = n - j) ∧ k = .int .i64 j ∧ Hid (formsB ops = (ops.drop j).all opOk) ∧ Below w.heap.size w wr)
    case atStart=>exact ⟨0,Nat.zero_le _,rfl,rfl,by show _ = _; have:=hlen.out; simp [formsB]; omega,Below.refl _ _⟩
    case round =>
      obtain ⟨j,hj,hk,rfl,hq,hb⟩:=hrel
      by_cases hlt : j < n
      · obtain ⟨b,off,ha,hL,hbU,hc⟩:=H.at_ (by omega)
        subst ha
        obtain ⟨x,he,hsz,hat⟩:=hc j hlt
        obtain ⟨d0,d1,d2,d3,d4,d5,d6⟩:=hat.of_block (hb.block b (by omega))
        have hlt' : (j : Int) < (n : Int):=by omega
        have HQ : Hid (formsB ops = (opOk x && (ops.drop (j + 1)).all opOk)):=by show _ = _; rw [hq.out,drop_cons he,List.all_cons]
        have HOK:=fun w=>implOpOk x w hsz
        simp only [LOp.val] at HOK
        clear he hc hq hat H
        go_wp2_with fail
        refine (HOK _).mono ?_
        rintro e w1 ⟨rfl,hb1⟩
        have hbb : Below w.heap.size w w1:=(hb.alloc hb.size _).trans (hb1.mono (by have:=hb.size; simp; omega))
        rcases hx : opOk x with _ | _
        · have HY : Hid (formsB ops = false):=by show _ = _; rw [HQ.out,hx]; rfl
          clear HOK HQ
          go_wp2_with fail
          go_ret
          exact ⟨ret_bool HY.out.symm,hbb⟩
        · have HY : Hid (formsB ops = (ops.drop (j + 1)).all opOk):=by show _ = _; rw [HQ.out,hx]; rfl
          clear HOK HQ
          go_wp2_with fail
          go_roundg (n - (j + 1))
          case measure=>have:=hk.out; omega
          case rel=>exact ⟨j + 1,by omega,rfl,by go_num,HY.out,hbb⟩
      · have HN : Hid (formsB ops = true):=by
          show _ = _
          rw [hq.out,List.drop_of_length_le (by have:=hlen.out; omega)]; rfl
        go_wp2_with fail
        go_ret
        exact ⟨ret_bool HN.out.symm,hb⟩
end
section
open Go.RowKit
end
section
open Go.RowKit
end
section
open Go.RowKit
end
section
open Go.RowKit
end
section
open Go.RowKit
end
section
open Go.RowKit
def A0 (o : LOp) : Array Value:=#[.int .i64 o.kind,.int .i64 o.dir,.string o.name,.int .i64 o.dir2,.string o.name2,.int .i64 o.id,.string o.text]
end
section
open Go.RowKit
theorem takeH {P : Program} {md : Region.Mode} {ops : Array Oper} {Q : Exit → Act → World → Prop} {S : World → Prop} {i : Nat} {oi : Oper} {v : Value} {fuel : Nat} {listed : Array Bool} {a : Act} {w : World} (d : Nat) (l2 : Array Bool) (hi : ops[i]? = some oi)
    (hs : Region.noSelect ops = true) (hf : Region.free md ops listed i = true) (hr : (Region.ready md ops listed).contains i = true)
    (hd : oi.dst = some d) (hl : listed.setIfInBounds i true = l2) (hQ : ∀ c a w,Q (.panic c) (a.put oi.dst v) w → Q (.panic c) a w) (hy : YieldsIf P ops S oi v a) (hS : S w)
    (h : wpAnyH P md ops Q S fuel l2 (a.put (some d) v) w) : wpAnyH P md ops Q S (fuel + 1) listed a w :=
  wpAnyH_take hi hs hf hr hQ hy hS (by rw [hl,hd]; exact h)
theorem listH {P : Program} {md : Region.Mode} {ops : Array Oper} {Q : Exit → Act → World → Prop} {S : World → Prop} {fuel : Nat} {listed l2 : Array Bool} {a : Act} {w : World} (hl : listed = l2) (h : wpAnyH P md ops Q S fuel l2 a w) : wpAnyH P md ops Q S fuel listed a w:=by
  rw [hl]; exact h
end
section
open Go.RowKit
end
section
open Go.RowKit
def zrow (z : Array Value) (i : Nat) : Value:=z[i]?.getD default
theorem zrow_new (W : World) (z : Array Value) (t : TypeId) : (W.alloc (.cells z t)).rowIs W.heap.size t z.size (zrow z):=World.rowIs_alloc W z t (zrow z) (fun i hi=>by unfold zrow; rw [Array.getElem?_eq_getElem hi]; rfl)
section
variable {ops : Array Oper} {ac : Act} {K : Act → World → Prop} {Q : Exit → Act → World → Prop} {E : Prop} {ty : TypeId} {ps : String} {af : Array Edge}
end
end
end Go.Proofs.YtloopeipheklpaaGreatDoor
