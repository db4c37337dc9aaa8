/- Lemmas that the proofs of this seat share: ShopA, Put, Turn. -/
import Derived.Test.YtloopeipheklpaaGreatDoorW05
import Derived.Deep.Strs
import Derived.Test.YtloopeipheklpaaGreatDoorW04
import Derived.BigRegion
namespace Go.Proofs.YtloopeipheklpaaGreatDoor
section
open Go.RowKit Go.ChangeShapes Go.WideShapes
structure LDone where
  who : Int
  seq : Int
  code : Int
structure DonesAt (w : World) (L U : Nat) (a : Option Addr) (n : Nat) (bs : List LDone) : Prop where
  len : n = bs.length
  bd : n ≤ maxLen
  at_ : n ≠ 0 → ∃ b off,a = some ⟨b,off,none⟩ ∧ L ≤ b ∧ b < U ∧ ∀ i,i < n → ∃ e,bs[i]? = some e ∧ w.cell? ⟨b,off + i * 3,none⟩ = some (.int .i64 e.who) ∧ w.cell? ⟨b,off + i * 3 + 1,none⟩ = some (.int .i64 e.seq) ∧ w.cell? ⟨b,off + i * 3 + 2,none⟩ = some (.int .i64 e.code)
theorem DonesAt.blocks {w w' : World} {L U : Nat} {a : Option Addr} {n : Nat} {es : List LDone} (h : DonesAt w L U a n es) (hb : ∀ b,L ≤ b → b < U → w'.heap[b]? = w.heap[b]?) : DonesAt w' L U a n es :=
  ⟨h.len,h.bd,fun hn=>by
    obtain ⟨b,off,ha,hL,hbU,hc⟩:=h.at_ hn
    refine ⟨b,off,ha,hL,hbU,fun i hi=>?_⟩
    obtain ⟨e,he,h0,h1,h2⟩:=hc i hi
    have hk:=hb b hL hbU
    exact ⟨e,he,by rw [World.cell?_of_block (w:=w) hk]; exact h0,by rw [World.cell?_of_block (w:=w) hk]; exact h1,by rw [World.cell?_of_block (w:=w) hk]; exact h2⟩⟩
theorem DonesAt.below {w w' : World} {L U B : Nat} {a : Option Addr} {n : Nat} {es : List LDone} (h : DonesAt w L U a n es) (hb : Below B w w') (hU : U ≤ B) : DonesAt w' L U a n es:=h.blocks fun b _ hbU=>hb.block b (by omega)
theorem DonesAt.wide {w : World} {L U L' U' : Nat} {a : Option Addr} {n : Nat} {es : List LDone} (h : DonesAt w L U a n es) (hL' : L' ≤ L) (hU : U ≤ U') : DonesAt w L' U' a n es :=
  ⟨h.len,h.bd,fun hn=>by
    obtain ⟨b,off,ha,hL,hbU,hc⟩:=h.at_ hn
    exact ⟨b,off,ha,by omega,by omega,hc⟩⟩
section
variable {H : Type} {enc : TypeId × Value → H} {w : World} {spare : Nat → Bool} {held : Bool}
theorem list3 {α : Type} {l : List α} (h : l.length = 3) : ∃ a b c,l = [a,b,c]:=by
  match l,h with
  | [a,b,c],_=>exact ⟨a,b,c,rfl⟩
theorem open_done_cells {fuel : Nat} {v0 v1 v2 : Value} {x : DataW H × List MemPlace} (h : DataW.trod enc Tryz.prog w 0 spare held fuel 249 [v0,v1,v2] = some x) :
    ∃ d : LDone,v0 = .int .i64 d.who ∧ v1 = .int .i64 d.seq ∧ v2 = .int .i64 d.code:=by
  have c3 : Tryz.prog.cellsOf 3 = 1:=by kernel_rfl
  obtain ⟨y0,y1,y2,n,_,_,t0,t1,t2⟩:=Go.Deep.trod_struct3 Tryz.underlying249 h
  simp [c3] at t0 t1 t2
  obtain ⟨k0,e0,_,_⟩:=DataW.trod_int Tryz.underlying3 t0
  obtain ⟨k1,e1,_,_⟩:=DataW.trod_int Tryz.underlying3 t1
  obtain ⟨k2,e2,_,_⟩:=DataW.trod_int Tryz.underlying3 t2
  simp at e0 e1 e2
  exact ⟨⟨k0,k1,k2⟩,e0,e1,e2⟩
theorem open_dones {fuel : Nat} {v : Value} {x : DataW H × List MemPlace} (h : DataW.trod enc Tryz.prog w 0 spare held fuel 39 [v] = some x) :
    ∃ a n c es,v = .slice a n c ∧ DonesAt w 0 w.heap.size a n es:=by
  have ce : Tryz.prog.cellsOf 249 = 3:=by kernel_rfl
  rcases Go.Deep.open_slice Tryz.underlying39 h with ⟨hcs,_⟩ | ⟨a,len,cap,m,n,D,Pl,hcs,_,hl,hm,hmm,_,hx⟩
  · simp at hcs
    exact ⟨none,0,0,[],hcs,rfl,by simp,fun h=>absurd rfl h⟩
  · simp at hcs
    have hlm : len ≤ m:=by rw [hmm]; split <;> omega
    obtain ⟨es,hes,hp⟩:=list_of (n:=len) (p:=fun i (o : LDone)=>w.cell? (a.add (i * 3)) = some (.int .i64 o.who) ∧ w.cell? (a.add (i * 3 + 1)) = some (.int .i64 o.seq) ∧ w.cell? (a.add (i * 3 + 2)) = some (.int .i64 o.code)) (fun i hi=>by
      obtain ⟨cs',h1,h2⟩:=hx i (by omega)
      rw [ce] at h1
      obtain ⟨_,hlen,hcell⟩:=World.cells?_some h1
      obtain ⟨v0,v1,v2,rfl⟩:=list3 hlen
      obtain ⟨o,rfl,rfl,rfl⟩:=open_done_cells h2
      have g0:=hcell 0 (by omega)
      have g1:=hcell 1 (by omega)
      have g2:=hcell 2 (by omega)
      rw [Go.Deep.add_add] at g0 g1 g2
      exact ⟨o,by simpa using g0,by simpa using g1,by simpa using g2⟩)
    refine ⟨some a,len,cap,es,hcs,hes.symm,by omega,fun hn=>?_⟩
    obtain ⟨b,off,spot⟩:=a
    obtain ⟨_,_,c0,_⟩:=hp 0 (by omega)
    have hspot : spot = none:=by simpa [Addr.add] using World.cell?_spot c0
    subst hspot
    refine ⟨b,off,rfl,Nat.zero_le _,by have:=cell_lt c0; simpa [Addr.add] using this,fun i hi=>?_⟩
    obtain ⟨o,ho,q0,q1,q2⟩:=hp i hi
    exact ⟨o,ho,by rw [← addr_add]; exact q0,by rw [Nat.add_assoc,← addr_add]; exact q1,by rw [Nat.add_assoc,← addr_add]; exact q2⟩
end
theorem szDoneS_any (a : Option Addr) (n c : Nat) (es : List LDone) (L U : Nat) (left : Int) (w : World) (h0 : 0 ≤ left) (h1 : left ≤ 1048576) (H : DonesAt w L U a n es) :
    Calls Tryz.prog 126 #[.slice a n c,.int .i64 left] w fun e w'=>(∃ r : Int,e = .returned (.int .i64 r) ∧ (r = -1 ∨ (0 ≤ r ∧ r = left - n))) ∧ Below w.heap.size w w':=by
  have hbd:=H.bd
  unfold maxLen at hbd
  by_cases h : left - n < 0
  · go_enter Tryz.func126,Tryz.ntmps126
    go_wp2
    go_ret
    exact ⟨⟨-1,rfl,.inl rfl⟩,Below.refl _ _⟩
  · go_enter Tryz.func126,Tryz.ntmps126
    go_wp2
    go_ret
    exact ⟨⟨_,rfl,.inr ⟨by omega,rfl⟩⟩,Below.refl _ _⟩
set_option maxHeartbeats 400000 in
theorem szShop_any (a : Option Addr) (n c : Nat) (os : List LObj) (a' : Option Addr) (n' c' : Nat) (ds : List LDone) (L U : Nat) (left : Int) (w : World) (h0 : 0 ≤ left) (h1 : left ≤ 1048576) (hU : U ≤ w.heap.size) (HO : ObjsAt w L U a n os) (HD : DonesAt w L U a' n' ds) :
    Calls Tryz.prog 58 #[.agg #[.slice a n c,.slice a' n' c'],.int .i64 left] w fun e w'=>(∃ r : Int,e = .returned (.int .i64 r) ∧ (r = -1 ∨ (0 ≤ r ∧ r = left - n - totT os - n'))) ∧ Below w.heap.size w w':=by
  go_enter Tryz.func58,Tryz.ntmps58
  go_wp2_with fail
  have hA : Below w.heap.size w (w.alloc (Obj.cells #[.slice a n c,.slice a' n' c'] 41)):=(Below.refl _ _).alloc (Nat.le_refl _) _
  refine (szTree_any _ _ _ _ L U _ _ h0 h1 (by simp; omega) (HO.below hA hU)).mono ?_
  rintro x w1 ⟨⟨r,rfl,hr⟩,hb⟩
  have HR : Hid (r = -1 ∨ 0 ≤ r ∧ r = left - n - totT os):=hr
  clear hr
  have hb' : Below w.heap.size w w1:=hA.trans (hb.mono (by simp))
  have c3 : w1.cell? ⟨w.heap.size,1,none⟩ = some (.slice a' n' c'):=by rw [hb.cell (by simp)]; simp [go_sem]
  have hs1:=hb'.size
  by_cases hneg : r < 0
  · go_wp2_with fail
    go_ret
    exact ⟨⟨-1,rfl,.inl rfl⟩,hb'⟩
  · go_wp2_with fail
    refine (szDoneS_any _ _ _ _ L U _ _ (by omega) (by have:=HR.out; omega) (HD.below hb' hU)).mono ?_
    rintro x w2 ⟨⟨r2,rfl,hr2⟩,hb2⟩
    have HR2 : Hid (r2 = -1 ∨ 0 ≤ r2 ∧ r2 = r - n'):=hr2
    clear hr2
    have hb2' : Below w.heap.size w w2:=hb'.trans (hb2.mono hs1)
    by_cases hneg2 : r2 < 0
    · go_wp2_with fail
      go_ret
      exact ⟨⟨-1,rfl,.inl rfl⟩,hb2'⟩
    · go_wp2_with fail
      go_ret
      exact ⟨⟨r2,rfl,by have:=HR.out; have:=HR2.out; omega⟩,hb2'⟩
theorem toDone_any (i j k : Int) (w : World) :
    Calls Tryz.prog 190 #[.agg #[.int .i64 i,.int .i64 j,.int .i64 k]] w fun e w'=>e = .returned (.agg #[.int .i64 i,.int .i64 j,.int .i64 k]) ∧ Below w.heap.size w w':=by
  go_enter Tryz.func190,Tryz.ntmps190
  go_wp2
  exact bodyPost_ret (v:=.agg #[.int .i64 i,.int .i64 j,.int .i64 k]) (by simp [results,Tryz.results190,go_sem]) rfl ⟨rfl,by
    repeat (first | exact Below.refl _ _ | refine Below.setCell ?_ (by simp <;> omega) _ | refine Below.alloc ?_ (by simp <;> omega) _)⟩
theorem infoD : (Tryz.prog.info? 215).map (fun i=>(i.zero.map (·.cells),i.size,i.bytes)) = some (some #[.int .i64 0,.int .i64 0,.int .i64 0],3,24):=by kernel_rfl
set_option maxHeartbeats 400000 in
theorem toDoneS_any (a : Option Addr) (n c : Nat) (es : List LDone) (L U : Nat) (w : World) (hn : n ≤ 1048576) (hU : U ≤ w.heap.size) (H : DonesAt w L U a n es) :
    Calls Tryz.prog 129 #[.slice a n c] w fun e w'=>(∃ b,e = .returned (.slice (some ⟨b,0,none⟩) n n) ∧ DonesAt w' w.heap.size w'.heap.size (some ⟨b,0,none⟩) n es) ∧ Below w.heap.size w w':=by
  have hmk:=run_make_many 49 215 _ 3 24 Tryz.underlying49 infoD n (by omega) (by omega)
  obtain ⟨f0,hf0⟩:=rowIs_many w #[.int .i64 0,.int .i64 0,.int .i64 0] (n * 3) 215
  have HF0 : Hid ((w.alloc (.cells (madeCells #[.int .i64 0,.int .i64 0,.int .i64 0] (n * 3)) 215)).rowIs w.heap.size 215 (n * 3) f0):=hf0
  clear hf0
  go_enter Tryz.func129,Tryz.ntmps129
  go_wp2
  go_loopg [4] n (fun k i wr=>∃ j : Nat,j ≤ n ∧ Hid (k = n - j) ∧ i = .int .i64 j ∧ (∃ f,Hid (wr.rowIs w.heap.size 215 (n * 3) f ∧ ∀ i,i < j → ∃ e,es[i]? = some e ∧ f (i * 3) = .int .i64 e.who ∧ f (i * 3 + 1) = .int .i64 e.seq ∧ f (i * 3 + 2) = .int .i64 e.code)) ∧ Below w.heap.size w wr)
  case atStart=>exact ⟨0,Nat.zero_le _,by show _ = _; omega,rfl,⟨f0,HF0.out,fun i hi=>by omega⟩,(Below.refl _ _).alloc (Nat.le_refl _) _⟩
  case round =>
    obtain ⟨j,hj,hk,rfl,⟨f,hf⟩,hb⟩:=hrel
    by_cases hlt : j < n
    · obtain ⟨b,off,ha,hL,hbU,hc⟩:=H.at_ (by omega)
      subst ha
      obtain ⟨e,he,hc0,hc1,hc2⟩:=hc j hlt
      rw [← hb.cell (by simp; omega)] at hc0 hc1 hc2
      have HE : Hid (es[j]? = some e):=he
      clear he hc
      go_wp2_with fail
      refine (toDone_any _ _ _ _).mono ?_
      rintro x w1 ⟨rfl,hb1⟩
      have hrow:=hf.out.1.of_block (hb1.block w.heap.size hf.out.1.lt)
      have g0:=hrow.cell (i:=j * 3) (by omega)
      have g1:=hrow.cell (i:=j * 3 + 1) (by omega)
      have g2:=hrow.cell (i:=j * 3 + 2) (by omega)
      have z0:=hrow.frozen (j * 3)
      have z1:=hrow.frozen (j * 3 + 1)
      have z2:=hrow.frozen (j * 3 + 2)
      have HR : Hid (w1.rowIs w.heap.size 215 (n * 3) f):=hrow
      clear hrow
      go_wp2_with fail
      go_roundg (n - (j + 1))
      case measure=>have:=hk.out; omega
      case rel =>
        refine ⟨j + 1,by omega,rfl,by go_num,⟨_,((HR.out.set (j * 3) (.int .i64 e.who)).set (j * 3 + 1) (.int .i64 e.seq)).set (j * 3 + 2) (.int .i64 e.code),fun i hi=>?_⟩,(((hb.trans (hb1.mono hb.size)).setCell (by simp) _).setCell (by simp) _).setCell (by simp) _⟩
        by_cases hij : i = j
        · subst hij
          exact ⟨e,HE.out,by simp,by simp,by simp⟩
        · obtain ⟨e',he',q0,q1,q2⟩:=hf.out.2 i (by omega)
          refine ⟨e',he',?_,?_,?_⟩
          · show (if i * 3 = j * 3 + 2 then _ else if i * 3 = j * 3 + 1 then _ else if i * 3 = j * 3 then _ else f (i * 3)) = _
            rw [if_neg (by omega),if_neg (by omega),if_neg (by omega)]; exact q0
          · show (if i * 3 + 1 = j * 3 + 2 then _ else if i * 3 + 1 = j * 3 + 1 then _ else if i * 3 + 1 = j * 3 then _ else f (i * 3 + 1)) = _
            rw [if_neg (by omega),if_neg (by omega),if_neg (by omega)]; exact q1
          · show (if i * 3 + 2 = j * 3 + 2 then _ else if i * 3 + 2 = j * 3 + 1 then _ else if i * 3 + 2 = j * 3 then _ else f (i * 3 + 2)) = _
            rw [if_neg (by omega),if_neg (by omega),if_neg (by omega)]; exact q2
    · go_wp2_with fail
      go_ret
      refine ⟨⟨w.heap.size,rfl,H.len,H.bd,fun hn0=>⟨w.heap.size,0,rfl,Nat.le_refl _,hf.out.1.lt,fun i hi=>?_⟩⟩,hb⟩
      obtain ⟨e',he',q0,q1,q2⟩:=hf.out.2 i (by omega)
      exact ⟨e',he',by rw [← q0,Nat.zero_add]; exact hf.out.1.cell (by omega),by rw [← q1,Nat.zero_add]; exact hf.out.1.cell (by omega),by rw [← q2,Nat.zero_add]; exact hf.out.1.cell (by omega)⟩
theorem EntsAt.blocks_ {w w' : World} {L U : Nat} {a : Option Addr} {n : Nat} {es : List LEnt} (h : EntsAt w L U a n es) (hb : ∀ b,L ≤ b → b < U → w'.heap[b]? = w.heap[b]?) : EntsAt w' L U a n es :=
  ⟨h.len,h.bd,fun hn=>by
    obtain ⟨b,off,ha,hL,hbU,hc⟩:=h.at_ hn
    refine ⟨b,off,ha,hL,hbU,fun i hi=>?_⟩
    obtain ⟨e,he,hs,h0,h1⟩:=hc i hi
    have hk:=hb b hL hbU
    exact ⟨e,he,hs,by rw [World.cell?_of_block (w:=w) hk]; exact h0,by rw [World.cell?_of_block (w:=w) hk]; exact h1⟩⟩
theorem ObjsAt.blocks_ {w w' : World} {L U : Nat} {a : Option Addr} {n : Nat} {os : List LObj} (h : ObjsAt w L U a n os) (hb : ∀ b,L ≤ b → b < U → w'.heap[b]? = w.heap[b]?) : ObjsAt w' L U a n os :=
  ⟨h.len,h.bd,fun hn=>by
    obtain ⟨b,off,ha,hL,hbU,hc⟩:=h.at_ hn
    refine ⟨b,off,ha,hL,hbU,fun i hi=>?_⟩
    obtain ⟨o,ka,kn,kc,he,hs,h0,h1,h2,h3,hk⟩:=hc i hi
    have hk':=hb b hL hbU
    exact ⟨o,ka,kn,kc,he,hs,by rw [World.cell?_of_block (w:=w) hk']; exact h0,by rw [World.cell?_of_block (w:=w) hk']; exact h1,by rw [World.cell?_of_block (w:=w) hk']; exact h2,by rw [World.cell?_of_block (w:=w) hk']; exact h3,hk.blocks_ hb⟩⟩
set_option maxHeartbeats 400000 in
theorem toShop_any (a : Option Addr) (n c : Nat) (os : List LObj) (a' : Option Addr) (n' c' : Nat) (ds : List LDone) (L U : Nat) (w : World) (hn : n ≤ 1048576) (hS : Sizes os 1048576) (hn' : n' ≤ 1048576) (hU : U ≤ w.heap.size) (HO : ObjsAt w L U a n os) (HD : DonesAt w L U a' n' ds) :
    Calls Tryz.prog 63 #[.agg #[.slice a n c,.slice a' n' c']] w fun e w'=>(∃ b b',e = .returned (.agg #[.slice (some ⟨b,0,none⟩) n n,.slice (some ⟨b',0,none⟩) n' n']) ∧ ObjsAt w' w.heap.size w'.heap.size (some ⟨b,0,none⟩) n os ∧ DonesAt w' w.heap.size w'.heap.size (some ⟨b',0,none⟩) n' ds) ∧ Below w.heap.size w w':=by
  go_enter Tryz.func63,Tryz.ntmps63
  go_wp2_with fail
  refine (toTree_any _ _ _ _ L U _ hn hS (by simp <;> omega) (HO.below ((((Below.refl _ _).alloc (Nat.le_refl _) _).alloc (by simp) _).alloc (by simp <;> omega) _) hU)).mono ?_
  rintro x w1 ⟨⟨b,rfl,hk⟩,hb⟩
  have hz : w.heap.size + 3 ≤ w1.heap.size:=by have:=hb.size; simp at this; omega
  have hb0 : Below w.heap.size w w1:=((((Below.refl _ _).alloc (Nat.le_refl _) _).alloc (by simp) _).alloc (by simp <;> omega) _).trans (hb.mono (by simp <;> omega))
  have hk1 : ObjsAt w1 (w.heap.size + 3) w1.heap.size (some ⟨b,0,none⟩) n os:=hk.wide (by simp) (Nat.le_refl _)
  obtain ⟨hc,hf⟩:=bcell hb
  have p3 : w1.cell? ⟨w.heap.size,1,none⟩ = some (.slice a' n' c'):=by rw [hc _ _ (by simp <;> omega)]; simp [go_sem]
  have r0 : w1.cell? ⟨w.heap.size + 1,0,none⟩ = some (.slice none 0 0):=by rw [hc _ _ (by simp <;> omega)]; simp [go_sem]
  have r1 : w1.cell? ⟨w.heap.size + 1,1,none⟩ = some (.slice none 0 0):=by rw [hc _ _ (by simp <;> omega)]; simp [go_sem]
  have q0 : w1.cell? ⟨w.heap.size + 1 + 1,0,none⟩ = some (.slice none 0 0):=by rw [hc _ _ (by simp)]; simp [go_sem]
  have q1 : w1.cell? ⟨w.heap.size + 1 + 1,1,none⟩ = some (.slice none 0 0):=by rw [hc _ _ (by simp)]; simp [go_sem]
  have y1 : ∀ o,w1.frozen? ⟨w.heap.size + 1,o,none⟩ = false:=fun o=>by rw [hf _ _ (by simp <;> omega)]; simp [go_sem]
  have y2 : ∀ o,w1.frozen? ⟨w.heap.size + 1 + 1,o,none⟩ = false:=fun o=>by rw [hf _ _ (by simp)]; simp [go_sem]
  clear hc hf hb hk
  go_wp2_with fail
  refine (toDoneS_any _ _ _ _ L U _ hn' (by simp <;> omega) (HD.below (hb0.setCell (by simp <;> omega) _) hU)).mono ?_
  rintro x w2 ⟨⟨b',rfl,hk2⟩,hb2⟩
  obtain ⟨hc,hf⟩:=bcell hb2
  have hz2 : w1.heap.size ≤ w2.heap.size:=by have:=hb2.size; simp at this; omega
  have e0:=hc (w.heap.size + 1) 0 (by simp <;> omega)
  have e1:=hc (w.heap.size + 1) 1 (by simp <;> omega)
  have d0:=hc (w.heap.size + 1 + 1) 0 (by simp <;> omega)
  have d1:=hc (w.heap.size + 1 + 1) 1 (by simp <;> omega)
  have x1 : ∀ o,w2.frozen? ⟨w.heap.size + 1,o,none⟩ = false:=fun o=>by rw [hf _ _ (by simp <;> omega)]; simp [go_sem,y1]
  have x2 : ∀ o,w2.frozen? ⟨w.heap.size + 1 + 1,o,none⟩ = false:=fun o=>by rw [hf _ _ (by simp <;> omega)]; simp [go_sem,y2]
  simp [go_sem,r0,r1,q0,q1] at e0 e1 d0 d1
  have hb3 : Below w.heap.size w w2:=(hb0.setCell (p:=⟨w.heap.size + 1 + 1,0,none⟩) (by simp <;> omega) (.slice (some ⟨b,0,none⟩) n n)).trans (hb2.mono (by simp <;> omega))
  have hk3 : ObjsAt w2 (w.heap.size + 3) w1.heap.size (some ⟨b,0,none⟩) n os:=hk1.blocks_ fun k h1 h2=>by
    rw [hb2.block k (by simp <;> omega)]
    exact Below.heap_setCell _ _ _ k (by simp <;> omega)
  have hk4 : DonesAt w2 (w.heap.size + 3) w2.heap.size (some ⟨b',0,none⟩) n' ds:=hk2.wide (by simp <;> omega) (Nat.le_refl _)
  clear hc hf hb2 hk1 hk2 p3 r0 r1 q0 q1 y1 y2
  go_wp2_with fail
  refine bodyPost_ret (v:=.agg #[.slice (some ⟨b,0,none⟩) n n,.slice (some ⟨b',0,none⟩) n' n']) (by simp [results,Tryz.results63,go_sem,e0,e1]) rfl ⟨⟨b,b',rfl,?_,?_⟩,?_⟩
  · refine ObjsAt.wide (L:=w.heap.size + 3) (U:=w1.heap.size) ?_ (by omega) (by simp <;> omega)
    refine hk3.blocks_ fun k h1 h2=>?_
    iterate 3 refine (Below.heap_setCell _ _ _ k (by simp <;> omega)).trans ?_
    rfl
  · refine DonesAt.wide (L:=w.heap.size + 3) (U:=w2.heap.size) ?_ (by omega) (by simp)
    refine hk4.blocks fun k h1 h2=>?_
    iterate 3 refine (Below.heap_setCell _ _ _ k (by simp <;> omega)).trans ?_
    rfl
  · repeat (first | exact hb3 | refine Below.setCell ?_ (by simp <;> omega) _)
theorem eqDone_same (i j k : Int) (w : World) :
    Calls Tryz.prog 192 #[.agg #[.int .i64 i,.int .i64 j,.int .i64 k],.agg #[.int .i64 i,.int .i64 j,.int .i64 k]] w fun e w'=>e = .returned (.bool true) ∧ Below w.heap.size w w':=by
  go_enter Tryz.func192,Tryz.ntmps192
  go_wp2
  go_ret
  exact ⟨by simp,((Below.refl _ _).alloc (Nat.le_refl _) _).alloc (by simp) _⟩
set_option maxHeartbeats 800000 in
theorem eqDoneS_same (a a' : Option Addr) (n c c' : Nat) (es : List LDone) (L U L' U' : Nat) (w : World) (hU : U ≤ w.heap.size) (hU' : U' ≤ w.heap.size) (H : DonesAt w L U a n es) (H' : DonesAt w L' U' a' n es) :
    Calls Tryz.prog 135 #[.slice a n c,.slice a' n c'] w fun e w'=>e = .returned (.bool true) ∧ Below w.heap.size w w':=by
  have hbd:=H.bd
  unfold maxLen at hbd
  go_enter Tryz.func135,Tryz.ntmps135
  go_wp2_with fail
  go_loopg [5] n (fun k i wr=>∃ j : Nat,j ≤ n ∧ Hid (k = n - j) ∧ i = .int .i64 j ∧ Below w.heap.size w wr)
  case atStart=>exact ⟨0,Nat.zero_le _,rfl,rfl,Below.refl _ _⟩
  case round =>
    obtain ⟨j,hj,hk,rfl,hb⟩:=hrel
    by_cases hlt : j < n
    · obtain ⟨b,off,ha,hL,hbU,hc⟩:=H.at_ (by omega)
      obtain ⟨b',off',ha',hL',hbU',hc'⟩:=H'.at_ (by omega)
      subst ha ha'
      obtain ⟨x,he,c0,c1,c2⟩:=hc j hlt
      obtain ⟨y,he2,d0,d1,d2⟩:=hc' j hlt
      obtain rfl : x = y:=by rw [he] at he2; simpa using he2
      rw [← hb.cell (by simp <;> omega)] at c0 c1 c2 d0 d1 d2
      have hlt' : (j : Int) < (n : Int):=by omega
      have HEQ:=eqDone_same x.who x.seq x.code
      clear he he2 hc hc'
      go_wp2_with fail
      go_region_with (go_at_call 192; go_must (refine (HEQ _).mono ?_; rintro e w1 ⟨rfl,hb1⟩))
      all_goals
        go_wp2_with fail
        go_roundg (n - (j + 1))
        case measure=>have:=hk.out; omega
        case rel=>exact ⟨j + 1,by omega,rfl,by go_num,hb.trans ((Below.refl _ _).drew.trans (hb1.mono (by simp)) |>.mono hb.size)⟩
    · obtain rfl : j = n:=by omega
      go_wp2_with fail
      go_ret
      exact ⟨rfl,hb⟩
set_option maxHeartbeats 800000 in
theorem eqShop_same (a : Option Addr) (n c : Nat) (a' : Option Addr) (n' c' : Nat) (a2 : Option Addr) (c2 : Nat) (a2' : Option Addr) (c2' : Nat) (os : List LObj) (ds : List LDone) (L U L' U' L2 U2 L2' U2' : Nat) (w : World) (hU : U ≤ w.heap.size) (hU' : U' ≤ w.heap.size) (hU2 : U2 ≤ w.heap.size) (hU2' : U2' ≤ w.heap.size) (HO : ObjsAt w L U a n os) (HD : DonesAt w L' U' a' n' ds) (HO2 : ObjsAt w L2 U2 a2 n os) (HD2 : DonesAt w L2' U2' a2' n' ds) :
    Calls Tryz.prog 68 #[.agg #[.slice a n c,.slice a' n' c'],.agg #[.slice a2 n c2,.slice a2' n' c2']] w fun e w'=>e = .returned (.bool true) ∧ Below w.heap.size w w':=by
  have hA : ∀ o1 o2 : Obj,Below w.heap.size w ((w.alloc o1).alloc o2):=fun o1 o2=>((Below.refl _ _).alloc (Nat.le_refl _) _).alloc (by simp) _
  go_enter Tryz.func68,Tryz.ntmps68
  go_wp2_with fail
  refine (eqTree_same _ _ _ _ _ _ L U L2 U2 _ (by simp <;> omega) (by simp <;> omega) (HO.below (hA _ _) hU) (HO2.below (hA _ _) hU2)).mono ?_
  rintro x w1 ⟨rfl,hb1⟩
  have hb2 : Below w.heap.size w w1:=(hA _ _).trans (hb1.mono (by simp <;> omega))
  have hz:=hb2.size
  have p3 : w1.cell? ⟨w.heap.size,1,none⟩ = some (.slice a' n' c'):=by rw [hb1.cell (by simp <;> omega)]; simp [go_sem]
  have p4 : w1.cell? ⟨w.heap.size + 1,1,none⟩ = some (.slice a2' n' c2'):=by rw [hb1.cell (by simp)]; simp [go_sem]
  clear hb1
  go_wp2_with fail
  refine (eqDoneS_same _ _ _ _ _ _ L' U' L2' U2' _ (by omega) (by omega) (HD.below hb2 hU') (HD2.below hb2 hU2')).mono ?_
  rintro x w2 ⟨rfl,hb3⟩
  go_wp2_with fail
  go_ret
  exact ⟨rfl,hb2.trans (hb3.mono hz)⟩
end
section
open Go.RowKit
theorem OwnEnts.of_heap {w w' : World} {B : Nat} {v : Value} {es : List LEnt} (hh : w'.heap = w.heap) (h : OwnEnts w B v es) : OwnEnts w' B v es:=by
  unfold OwnEnts World.ownsRow at *; rw [hh]; exact h
theorem put_len {a : Nat} {l : List LEnt} {x : LEnt} (h : a = l.length) : a + 1 = (l ++ [x]).length:=by simp [h]
theorem put_news {Wx w2 : World} {C g g1 n cap : Nat} {l : List LEnt} (hg : Wx.grownBy w2 (some g)) (hne : g1 ≠ g) (h : OwnEnts Wx C (.slice (some ⟨g1,0,none⟩) n cap) l) : ∀ j u,(entCells l)[j]? = some u → w2.cell? ((⟨g1,0,none⟩ : Addr).add j) = some u:=by
  have h2:=OwnEnts.grown h hg (by simpa using hne)
  exact World.ownsRow.cells h2 rfl
def lessN (name : ByteArray) (e : LEnt) : Bool:=Op.bytesLess e.name.toList name.toList
def placeL (name : ByteArray) (es : List LEnt) : Nat:=(es.takeWhile (lessN name)).length
def putL (x : LEnt) (es : List LEnt) : List LEnt:=es.take (placeL x.name es) ++ [x] ++ es.drop (placeL x.name es)
theorem placeL_at {name : ByteArray} : ∀ {es : List LEnt} {k : Nat},(∀ i,i < k → ∃ e,es[i]? = some e ∧ lessN name e = true) → (k = es.length ∨ ∃ e,es[k]? = some e ∧ lessN name e = false) → placeL name es = k
  | [],k,h,h'=>by
    rcases h' with h' | ⟨e,he,_⟩
    · simpa [placeL] using h'.symm
    · simp at he
  | e :: r,0,_,h'=>by
    rcases h' with h' | ⟨x,hx,hl⟩
    · simp at h'
    · simp at hx; subst hx; simp [placeL,hl]
  | e :: r,k + 1,h,h'=>by
    obtain ⟨x,hx,hl⟩:=h 0 (by omega)
    simp at hx; subst hx
    have ih:=placeL_at (name:=name) (es:=r) (k:=k) (fun i hi=>by simpa using h (i + 1) (by omega)) (by simpa using h')
    simp only [placeL,List.takeWhile_cons,hl,if_true,List.length_cons] at ih ⊢
    rw [ih]
def PutEnd (w : World) (B g n : Nat) (x : LEnt) (es : List LEnt) (e : Ending) (w' : World) : Prop:=∃ g' cap',e = .returned (.slice (some ⟨g',0,none⟩) (n + 1) cap') ∧ OwnEnts w' B (.slice (some ⟨g',0,none⟩) (n + 1) cap') (putL x es) ∧ w.grownBy w' (some g) ∧ (g' = g ∨ w.heap.size ≤ g')
theorem put_end {w w1 w2 w3 : World} {B g g2 g3 n j cap2 cap3 : Nat} {x : LEnt} {es : List LEnt} {o : Obj} (hp : placeL x.name es = j) (hj : j ≤ n) (hG : w.grownBy w1 (some g)) (hz : w.heap.size + 2 ≤ w1.heap.size)
    (h2 : AppEnd (w1.alloc o).drew w2 B g g2 (j + 1) cap2 (es.take j ++ [x])) (h3 : AppEnd w2 w3 B g2 g3 (j + 1 + (n - j)) cap3 (es.take j ++ [x] ++ es.drop j)) :
    PutEnd w B g n x es (.returned (.slice (some ⟨g3,0,none⟩) (j + 1 + (n - j)) cap3)) w3:=by
  have hnn : j + 1 + (n - j) = n + 1:=by omega
  have hz2:=h2.grown.size
  have hzx : (w1.alloc o).drew.heap.size = w1.heap.size + 1:=by simp
  have hgx : w1.grownBy (w1.alloc o).drew (some g):=⟨rfl,rfl,rfl,by simp,fun k hk _=>(World.grownBy_alloc w1 o none).block k hk (by simp)⟩
  have hg2 : g2 = g ∨ w.heap.size ≤ g2:=by rcases h2.at_ with h | h <;> omega
  refine ⟨g3,cap3,by rw [hnn],?_,?_,?_⟩
  · have:=h3.own
    rw [hnn] at this
    unfold putL
    rw [hp]
    exact this
  · refine ((hG.trans hgx).trans h2.grown).andThen h3.grown fun k hk=>?_
    simp at hk
    subst hk
    rcases hg2 with h | h
    · exact .inr (by rw [h])
    · exact .inl h
  · rcases h3.at_ with h | h
    · rw [h]; exact hg2
    · right; omega
set_option maxHeartbeats 1000000 in
set_option maxRecDepth 20000 in
theorem put_any (B g cap n : Nat) (es : List LEnt) (x : LEnt) (w : World) (hn : n = es.length) (hn2 : n ≤ 1000000) (hB : B ≤ w.heap.size) (H : OwnEnts w B (.slice (some ⟨g,0,none⟩) n cap) es) :
    Calls Tryz.prog 209 #[.slice (some ⟨g,0,none⟩) n cap,.agg #[.string x.name,.int .i64 x.id]] w fun e w'=>PutEnd w B g n x es e w':=by
  obtain ⟨i0,hi,hz0,hz1,hz2⟩:=info_parts info47'
  have HO : Hid (OwnEnts w B (.slice (some ⟨g,0,none⟩) n cap) es):=H
  have hgw : g < w.heap.size:=(World.ownsRow.lt H g rfl).2
  have hcap : n ≤ cap:=by
    rcases H.2 with ⟨h',_⟩ | ⟨g',cap',cur,h',_,_,hnc,hcm,_⟩
    · simp at h'
    · simp at h'; omega
  have hcells : Hid (∀ i,i < n → ∃ e,es[i]? = some e ∧ w.cell? ⟨g,i * 2,none⟩ = some (.string e.name) ∧ w.cell? ⟨g,i * 2 + 1,none⟩ = some (.int .i64 e.id)):=by
    intro i hi
    have h1:=World.ownsRow.cellAt (hn ▸ H) (i * 2) (by omega)
    have h2:=World.ownsRow.cellAt (hn ▸ H) (i * 2 + 1) (by omega)
    have h3:=entCells_at es i (es[i]'(by omega)) (by simp)
    exact ⟨es[i]'(by omega),by simp,by rw [h1]; exact h3.1,by rw [h2]; exact h3.2⟩
  have HN : Hid (n = es.length):=hn
  clear H hn
  go_enter Tryz.func209,Tryz.ntmps209
  go_wp2_with fail
  go_loopg [5] n (fun k i wr=>∃ j : Nat,j ≤ n ∧ Hid (k = n - j) ∧ i = .int .i64 j ∧ Hid (∀ i,i < j → ∃ e,es[i]? = some e ∧ lessN x.name e = true) ∧ Hid (∃ m,wr = (w.alloc (.cells #[.string x.name,.int .i64 x.id] 247)).drewN m))
  case atStart=>exact ⟨0,Nat.zero_le _,rfl,rfl,fun i hi=>by omega,0,rfl⟩
  case round =>
    obtain ⟨j,hj,hk,rfl,hless,hwr⟩:=hrel
    by_cases hlt : j < n
    · obtain ⟨e,he,hc0,hc1⟩:=hcells.out j hlt
      have hbx : wr.cell? ⟨w.heap.size,0,none⟩ = some (.string x.name):=by obtain ⟨m,rfl⟩:=hwr.out; show World.cell? (w.alloc _) _ = _; simp [go_sem]
      have hd0 : wr.cell? ⟨g,j * 2,none⟩ = some (.string e.name):=by obtain ⟨m,rfl⟩:=hwr.out; show World.cell? (w.alloc _) _ = _; rw [((Below.refl w.heap.size w).alloc (Nat.le_refl _) _).cell (by simpa using hgw)]; exact hc0
      have HE : Hid (es[j]? = some e):=he
      have hlt' : decide ((j : Int) < (n : Int)) = true:=by simp; omega
      have hlt2 : (j : Int) < (n : Int):=by omega
      have hlt3 : decide (j < n) = true:=by simpa using hlt
      clear hc0 hc1 he
      rcases hq : lessN x.name e with _ | _
      · have t1 : Op.bytesLess e.name.toList x.name.toList = false:=hq
        have HP : Hid (placeL x.name es = j):=placeL_at hless.out (.inr ⟨e,HE.out,hq⟩)
        go_wp2_with fail
        go_quiet (fail)
        obtain ⟨W,hW⟩ : ∃ W,Hid (W = wr.drewN nq):=⟨_,rfl⟩
        rw [← hW.out]
        have HWsz : Hid (W.heap.size = w.heap.size + 1):=by show _ = _; rw [hW.out]; obtain ⟨m,hm⟩:=hwr.out; rw [hm]; simp
        have hW0 : W.cell? ⟨w.heap.size,0,none⟩ = some (.string x.name):=by rw [hW.out]; obtain ⟨m,hm⟩:=hwr.out; rw [hm]; show World.cell? (w.alloc _) _ = _; simp [go_sem]
        have hW1 : W.cell? ⟨w.heap.size,1,none⟩ = some (.int .i64 x.id):=by rw [hW.out]; obtain ⟨m,hm⟩:=hwr.out; rw [hm]; show World.cell? (w.alloc _) _ = _; simp [go_sem]
        have hWg : Hid (w.grownBy W (some g)):=by
          show World.grownBy _ _ _
          rw [hW.out]; obtain ⟨m,hm⟩:=hwr.out; rw [hm]
          exact ⟨rfl,rfl,rfl,by simp,fun k hk _=>(World.grownBy_alloc w _ none).block k hk (by simp)⟩
        have HOW : Hid (OwnEnts W B (.slice (some ⟨g,0,none⟩) n cap) es):=by
          show OwnEnts _ _ _ _
          rw [hW.out]; obtain ⟨m,hm⟩:=hwr.out; rw [hm]
          exact World.ownsRow.alloc HO.out _
        -- the two appends
        go_wp2_with (first
          | (at_builtin; refine wpList_app_ents _ rfl _ _ rfl W.heap.size W.heap.size 0 0 [] (es.drop j) rfl (OwnEnts.empty W _ (Nat.le_refl _)) ⟨g,j * 2,none⟩ (n - j) (cap - j) (by rw [List.length_drop,HN.out]) rfl rfl ?c1 ?c2 ?c3 ?_)
          | go_in)
        case c1=>exact OwnEnts.rest (HOW.out.grown (World.grownBy_alloc W _ none) (by simp)) HN.out hj
        case c2=>omega
        case c3=>simp
        intro g1 cap1 w1 hend1
        have hWsz:=HWsz.out
        have HT : Hid (OwnEnts w1 W.heap.size (.slice (some ⟨g1,0,none⟩) (n - j) cap1) (es.drop j)):=by show OwnEnts _ _ _ _; simpa using hend1.own
        have HL : Hid (OwnEnts w1 B (.slice (some ⟨g,0,none⟩) j cap) (es.take j)):=((HOW.out.grown (World.grownBy_alloc W _ none) (by simp)).grown hend1.grown (by simp; omega)).cut HN.out hj
        have hbx0 : w1.cell? ⟨w.heap.size,0,none⟩ = some (.string x.name):=by
          rw [hend1.grown.cell_far _ (by simp; omega) (by simp; omega),(World.grownBy_alloc W _ none).cell_far _ (by simp; omega) (by simp)]; exact hW0
        have hbx1 : w1.cell? ⟨w.heap.size,1,none⟩ = some (.int .i64 x.id):=by
          rw [hend1.grown.cell_far _ (by simp; omega) (by simp; omega),(World.grownBy_alloc W _ none).cell_far _ (by simp; omega) (by simp)]; exact hW1
        have hG1 : Hid (w.grownBy w1 (some g)):=hWg.out.trans ((World.grownBy_alloc W (Obj.cells #[] 247) (some g)).andThen hend1.grown (fun k hk=>by simp at hk; omega))
        have hzz : W.heap.size + 1 ≤ w1.heap.size:=by simpa using hend1.grown.size
        have hg1 : W.heap.size ≤ g1:=by
          rcases hend1.at_ with h | h
          · omega
          · simp at h; omega
        have hg1':=hend1.lt
        have hjc : j ≤ cap:=by omega
        have hg1n : g1 ≠ g:=by omega
        have hlen1 : Hid (j = (es.take j).length):=by show _ = _; have:=HN.out; simp; omega
        have hlen2 : Hid (n - j = (es.drop j).length):=by show _ = _; have:=HN.out; simp; omega
        have hzw : w.heap.size + 2 ≤ w1.heap.size:=by omega
        clear hend1 hWsz
        go_wp2_with fail
        go_region_law (first
          | ((refine step_app_ents _ rfl (.tmp 30) (.tmp 32) rfl B g j cap (es.take j) [x] hlen1.out (OwnEnts.of_heap rfl (World.ownsRow.alloc HL.out _)) ⟨w1.heap.size,0,none⟩ 1 1 rfl (by simp [Act.eval]) (by simp [Act.eval]) (fun i u hu=>two_at hu) (by omega) (by simp; omega) ?_; intro g2 cap2 w2 hend2))
          | ((refine step_app_ents _ rfl (.tmp 33) (.tmp 34) rfl B g2 (j + 1) cap2 (es.take j ++ [x]) (es.drop j) (put_len hlen1.out) (OwnEnts.of_heap rfl hend2.own) ⟨g1,0,none⟩ (n - j) cap1 hlen2.out (by simp [Act.eval]) (by simp [Act.eval]) (put_news hend2.grown hg1n (OwnEnts.of_heap rfl (World.ownsRow.alloc HT.out (Obj.cells #[.string x.name,.int .i64 x.id] 247)))) (by omega) (by have:=hend2.grown.size; simp at this; simp; omega) ?_; intro g3 cap3 w3 hend3)))
        all_goals
          go_wp2_with fail
          go_ret
          exact put_end HP.out (by omega) hG1.out hzw hend2 hend3
      · have t1 : Op.bytesLess e.name.toList x.name.toList = true:=hq
        go_wp2_with fail
        go_quiet (fail)
        go_wp2_with fail
        go_roundg (n - (j + 1))
        case measure=>have:=hk.out; omega
        case rel =>
          refine ⟨j + 1,by omega,rfl,by go_num,fun i hi=>?_,by obtain ⟨m,hm⟩:=hwr.out; exact ⟨m + nq,by rw [hm,World.drewN_drewN]⟩⟩
          rcases Nat.lt_or_ge i j with h | h
          · exact hless.out i h
          · obtain rfl : i = j:=by omega
            exact ⟨e,HE.out,hq⟩
    · have hlt3 : decide (j < n) = false:=by simpa using hlt
      by_cases hcj : j = cap
      · subst hcj
        have HLT : Hid (¬ j < n):=hlt
        clear hlt hcap
        have HP : Hid (placeL x.name es = j):=placeL_at hless.out (.inl (by have:=HN.out; have:=HLT.out; omega))
        go_wp2_with fail
        go_quiet (fail)
        obtain ⟨W,hW⟩ : ∃ W,Hid (W = wr.drewN nq):=⟨_,rfl⟩
        rw [← hW.out]
        have HWsz : Hid (W.heap.size = w.heap.size + 1):=by show _ = _; rw [hW.out]; obtain ⟨m,hm⟩:=hwr.out; rw [hm]; simp
        have hW0 : W.cell? ⟨w.heap.size,0,none⟩ = some (.string x.name):=by rw [hW.out]; obtain ⟨m,hm⟩:=hwr.out; rw [hm]; show World.cell? (w.alloc _) _ = _; simp [go_sem]
        have hW1 : W.cell? ⟨w.heap.size,1,none⟩ = some (.int .i64 x.id):=by rw [hW.out]; obtain ⟨m,hm⟩:=hwr.out; rw [hm]; show World.cell? (w.alloc _) _ = _; simp [go_sem]
        have hWg : Hid (w.grownBy W (some g)):=by
          show World.grownBy _ _ _
          rw [hW.out]; obtain ⟨m,hm⟩:=hwr.out; rw [hm]
          exact ⟨rfl,rfl,rfl,by simp,fun k hk _=>(World.grownBy_alloc w _ none).block k hk (by simp)⟩
        have HOW : Hid (OwnEnts W B (.slice (some ⟨g,0,none⟩) n j) es):=by
          show OwnEnts _ _ _ _
          rw [hW.out]; obtain ⟨m,hm⟩:=hwr.out; rw [hm]
          exact World.ownsRow.alloc HO.out _
        -- the two appends
        go_wp2_with (first
          | (at_builtin; refine wpList_app_ents _ rfl _ _ rfl W.heap.size W.heap.size 0 0 [] (es.drop j) rfl (OwnEnts.empty W _ (Nat.le_refl _)) _ (n - j) _ (by rw [List.length_drop,HN.out]) rfl rfl ?c1 ?c2 ?c3 ?_)
          | go_in)
        case c1=>intro i u hu; rw [List.drop_of_length_le (by have:=HN.out; have:=HLT.out; omega)] at hu; simp [entCells] at hu
        case c2=>omega
        case c3=>simp
        intro g1 cap1 w1 hend1
        have hWsz:=HWsz.out
        have HT : Hid (OwnEnts w1 W.heap.size (.slice (some ⟨g1,0,none⟩) (n - j) cap1) (es.drop j)):=by show OwnEnts _ _ _ _; simpa using hend1.own
        have HL : Hid (OwnEnts w1 B (.slice (some ⟨g,0,none⟩) j j) (es.take j)):=((HOW.out.grown (World.grownBy_alloc W _ none) (by simp)).grown hend1.grown (by simp; omega)).cut HN.out hj
        have hbx0 : w1.cell? ⟨w.heap.size,0,none⟩ = some (.string x.name):=by
          rw [hend1.grown.cell_far _ (by simp; omega) (by simp; omega),(World.grownBy_alloc W _ none).cell_far _ (by simp; omega) (by simp)]; exact hW0
        have hbx1 : w1.cell? ⟨w.heap.size,1,none⟩ = some (.int .i64 x.id):=by
          rw [hend1.grown.cell_far _ (by simp; omega) (by simp; omega),(World.grownBy_alloc W _ none).cell_far _ (by simp; omega) (by simp)]; exact hW1
        have hG1 : Hid (w.grownBy w1 (some g)):=hWg.out.trans ((World.grownBy_alloc W (Obj.cells #[] 247) (some g)).andThen hend1.grown (fun k hk=>by simp at hk; omega))
        have hzz : W.heap.size + 1 ≤ w1.heap.size:=by simpa using hend1.grown.size
        have hg1 : W.heap.size ≤ g1:=by
          rcases hend1.at_ with h | h
          · omega
          · simp at h; omega
        have hg1':=hend1.lt
        have hjc : j ≤ j:=by omega
        have hg1n : g1 ≠ g:=by omega
        have hlen1 : Hid (j = (es.take j).length):=by show _ = _; have:=HN.out; simp; omega
        have hlen2 : Hid (n - j = (es.drop j).length):=by show _ = _; have:=HN.out; simp; omega
        have hzw : w.heap.size + 2 ≤ w1.heap.size:=by omega
        clear hend1 hWsz
        go_wp2_with fail
        go_region_law (first
          | ((refine step_app_ents _ rfl (.tmp 30) (.tmp 32) rfl B g j j (es.take j) [x] hlen1.out (OwnEnts.of_heap rfl (World.ownsRow.alloc HL.out _)) ⟨w1.heap.size,0,none⟩ 1 1 rfl (by simp [Act.eval]) (by simp [Act.eval]) (fun i u hu=>two_at hu) (by omega) (by simp; omega) ?_; intro g2 cap2 w2 hend2))
          | ((refine step_app_ents _ rfl (.tmp 33) (.tmp 34) rfl B g2 (j + 1) cap2 (es.take j ++ [x]) (es.drop j) (put_len hlen1.out) (OwnEnts.of_heap rfl hend2.own) ⟨g1,0,none⟩ (n - j) cap1 hlen2.out (by simp [Act.eval]) (by simp [Act.eval]) (put_news hend2.grown hg1n (OwnEnts.of_heap rfl (World.ownsRow.alloc HT.out (Obj.cells #[.string x.name,.int .i64 x.id] 247)))) (by omega) (by have:=hend2.grown.size; simp at this; simp; omega) ?_; intro g3 cap3 w3 hend3)))
        all_goals
          go_wp2_with fail
          go_ret
          exact put_end HP.out (by omega) hG1.out hzw hend2 hend3
      · have HP : Hid (placeL x.name es = j):=placeL_at hless.out (.inl (by have:=HN.out; omega))
        go_wp2_with fail
        go_quiet (fail)
        obtain ⟨W,hW⟩ : ∃ W,Hid (W = wr.drewN nq):=⟨_,rfl⟩
        rw [← hW.out]
        have HWsz : Hid (W.heap.size = w.heap.size + 1):=by show _ = _; rw [hW.out]; obtain ⟨m,hm⟩:=hwr.out; rw [hm]; simp
        have hW0 : W.cell? ⟨w.heap.size,0,none⟩ = some (.string x.name):=by rw [hW.out]; obtain ⟨m,hm⟩:=hwr.out; rw [hm]; show World.cell? (w.alloc _) _ = _; simp [go_sem]
        have hW1 : W.cell? ⟨w.heap.size,1,none⟩ = some (.int .i64 x.id):=by rw [hW.out]; obtain ⟨m,hm⟩:=hwr.out; rw [hm]; show World.cell? (w.alloc _) _ = _; simp [go_sem]
        have hWg : Hid (w.grownBy W (some g)):=by
          show World.grownBy _ _ _
          rw [hW.out]; obtain ⟨m,hm⟩:=hwr.out; rw [hm]
          exact ⟨rfl,rfl,rfl,by simp,fun k hk _=>(World.grownBy_alloc w _ none).block k hk (by simp)⟩
        have HOW : Hid (OwnEnts W B (.slice (some ⟨g,0,none⟩) n cap) es):=by
          show OwnEnts _ _ _ _
          rw [hW.out]; obtain ⟨m,hm⟩:=hwr.out; rw [hm]
          exact World.ownsRow.alloc HO.out _
        -- the two appends
        go_wp2_with (first
          | (at_builtin; refine wpList_app_ents _ rfl _ _ rfl W.heap.size W.heap.size 0 0 [] (es.drop j) rfl (OwnEnts.empty W _ (Nat.le_refl _)) ⟨g,j * 2,none⟩ (n - j) (cap - j) (by rw [List.length_drop,HN.out]) rfl rfl ?c1 ?c2 ?c3 ?_)
          | go_in)
        case c1=>intro i u hu; rw [List.drop_of_length_le (by have:=HN.out; omega)] at hu; simp [entCells] at hu
        case c2=>omega
        case c3=>simp
        intro g1 cap1 w1 hend1
        have hWsz:=HWsz.out
        have HT : Hid (OwnEnts w1 W.heap.size (.slice (some ⟨g1,0,none⟩) (n - j) cap1) (es.drop j)):=by show OwnEnts _ _ _ _; simpa using hend1.own
        have HL : Hid (OwnEnts w1 B (.slice (some ⟨g,0,none⟩) j cap) (es.take j)):=((HOW.out.grown (World.grownBy_alloc W _ none) (by simp)).grown hend1.grown (by simp; omega)).cut HN.out hj
        have hbx0 : w1.cell? ⟨w.heap.size,0,none⟩ = some (.string x.name):=by
          rw [hend1.grown.cell_far _ (by simp; omega) (by simp; omega),(World.grownBy_alloc W _ none).cell_far _ (by simp; omega) (by simp)]; exact hW0
        have hbx1 : w1.cell? ⟨w.heap.size,1,none⟩ = some (.int .i64 x.id):=by
          rw [hend1.grown.cell_far _ (by simp; omega) (by simp; omega),(World.grownBy_alloc W _ none).cell_far _ (by simp; omega) (by simp)]; exact hW1
        have hG1 : Hid (w.grownBy w1 (some g)):=hWg.out.trans ((World.grownBy_alloc W (Obj.cells #[] 247) (some g)).andThen hend1.grown (fun k hk=>by simp at hk; omega))
        have hzz : W.heap.size + 1 ≤ w1.heap.size:=by simpa using hend1.grown.size
        have hg1 : W.heap.size ≤ g1:=by
          rcases hend1.at_ with h | h
          · omega
          · simp at h; omega
        have hg1':=hend1.lt
        have hjc : j ≤ cap:=by omega
        have hg1n : g1 ≠ g:=by omega
        have hlen1 : Hid (j = (es.take j).length):=by show _ = _; have:=HN.out; simp; omega
        have hlen2 : Hid (n - j = (es.drop j).length):=by show _ = _; have:=HN.out; simp; omega
        have hzw : w.heap.size + 2 ≤ w1.heap.size:=by omega
        clear hend1 hWsz
        go_wp2_with fail
        go_region_law (first
          | ((refine step_app_ents _ rfl (.tmp 30) (.tmp 32) rfl B g j cap (es.take j) [x] hlen1.out (OwnEnts.of_heap rfl (World.ownsRow.alloc HL.out _)) ⟨w1.heap.size,0,none⟩ 1 1 rfl (by simp [Act.eval]) (by simp [Act.eval]) (fun i u hu=>two_at hu) (by omega) (by simp; omega) ?_; intro g2 cap2 w2 hend2))
          | ((refine step_app_ents _ rfl (.tmp 33) (.tmp 34) rfl B g2 (j + 1) cap2 (es.take j ++ [x]) (es.drop j) (put_len hlen1.out) (OwnEnts.of_heap rfl hend2.own) ⟨g1,0,none⟩ (n - j) cap1 hlen2.out (by simp [Act.eval]) (by simp [Act.eval]) (put_news hend2.grown hg1n (OwnEnts.of_heap rfl (World.ownsRow.alloc HT.out (Obj.cells #[.string x.name,.int .i64 x.id] 247)))) (by omega) (by have:=hend2.grown.size; simp at this; simp; omega) ?_; intro g3 cap3 w3 hend3)))
        all_goals
          go_wp2_with fail
          go_ret
          exact put_end HP.out (by omega) hG1.out hzw hend2 hend3
end
section
open Go.RowKit
structure OwnT (w : World) (B b c : Nat) (os : List LObj) (vs : Nat → Value) : Prop where
  lo : B ≤ b
  row : ∃ cur,w.heap[b]? = some (.cells cur 165 (0,0)) ∧ cur.size = c * 4 ∧ os.length ≤ c ∧ c ≤ maxLen
  at_ : ∀ i o,os[i]? = some o → o.text.size ≤ maxLen ∧ w.cell? ⟨b,i * 4,none⟩ = some (.int .i64 o.kind) ∧ w.cell? ⟨b,i * 4 + 1,none⟩ = some (.int .i64 o.ver) ∧ w.cell? ⟨b,i * 4 + 2,none⟩ = some (.string o.text) ∧ w.cell? ⟨b,i * 4 + 3,none⟩ = some (vs i) ∧ OwnEnts w B (vs i) o.kids ∧ ∀ e ∈ o.kids,e.name.size ≤ maxLen
  apart : ∀ i j g,i < os.length → j < os.length → i ≠ j → (vs i).ownBlock = some g → (vs j).ownBlock ≠ some g
theorem OwnT.lt {w : World} {B b c : Nat} {os : List LObj} {vs : Nat → Value} (h : OwnT w B b c os vs) : b < w.heap.size:=by
  obtain ⟨cur,hg,_⟩:=h.row
  exact (Array.getElem?_eq_some_iff.1 hg).1
theorem OwnT.frozen {w : World} {B b c : Nat} {os : List LObj} {vs : Nat → Value} (h : OwnT w B b c os vs) (k : Nat) : w.frozen? ⟨b,k,none⟩ = false:=by
  obtain ⟨cur,hg,_⟩:=h.row
  exact frozen_of_row w b k cur 165 hg
theorem OwnT.to_objs {w : World} {B b c : Nat} {os : List LObj} {vs : Nat → Value} (h : OwnT w B b c os vs) : ObjsAt w B w.heap.size (some ⟨b,0,none⟩) os.length os:=by
  obtain ⟨cur,hg,hcs,hlc,hcm⟩:=h.row
  refine ⟨rfl,by omega,fun _=>⟨b,0,rfl,h.lo,h.lt,fun i hi=>?_⟩⟩
  have ho : os[i]? = some os[i]:=by simp [hi]
  obtain ⟨h1,h2,h3,h4,h5,h6,h7⟩:=h.at_ i _ ho
  obtain ⟨ka,kc,hv,hents⟩:=h6.at_ h7
  refine ⟨os[i],ka,os[i].kids.length,kc,ho,h1,by simpa using h2,by simpa using h3,by simpa using h4,?_,hents⟩
  rw [← hv]; simpa using h5
theorem OwnT.kids_ne {w : World} {B b c : Nat} {os : List LObj} {vs : Nat → Value} (h : OwnT w B b c os vs) {v : Value} {es : List LEnt} (ho : OwnEnts w B v es) : v.ownBlock ≠ some b:=by
  intro hv
  obtain ⟨cur,hg,_⟩:=h.row
  rcases ho.2 with ⟨rfl,_⟩ | ⟨g,cap,cur',rfl,_,hg',_⟩
  · simp [Value.ownBlock] at hv
  · simp [Value.ownBlock] at hv
    subst hv
    rw [hg] at hg'
    simp at hg'
theorem kept_set {w : World} {B b k : Nat} {u v : Value} {es : List LEnt} (h : OwnEnts w B v es) (hne : v.ownBlock ≠ some b) : OwnEnts (w.setCell ⟨b,k,none⟩ u) B v es :=
  World.ownsRow.kept h (row:=some b) ⟨rfl,rfl,rfl,by simp,fun i _ hi=>Below.heap_setCell w ⟨b,k,none⟩ u i (by intro e; exact hi (by simp [e]))⟩ (.inr hne)
theorem OwnT.setKind {w : World} {B b c : Nat} {os : List LObj} {vs : Nat → Value} (h : OwnT w B b c os vs) {i : Nat} {o : LObj} (ho : os[i]? = some o) (z : Int) : OwnT (w.setCell ⟨b,i * 4,none⟩ (.int .i64 z)) B b c (os.set i { o with kind:=z }) vs:=by
  obtain ⟨cur,hg,hcs,hlc,hcm⟩:=h.row
  refine ⟨h.lo,⟨_,heap_setCell_same w b (i * 4) cur 165 _ hg,by simpa using hcs,by simpa using hlc,hcm⟩,fun j p hp=>?_,fun j k g hj hk=>h.apart j k g (by simpa using hj) (by simpa using hk)⟩
  by_cases hji : j = i
  · subst hji
    have hlt : j < os.length:=(List.getElem?_eq_some_iff.1 ho).1
    rw [List.getElem?_set_self hlt] at hp
    simp at hp; subst hp
    obtain ⟨h1,h2,h3,h4,h5,h6,h7⟩:=h.at_ j o ho
    refine ⟨h1,?_,?_,?_,?_,kept_set h6 (h.kids_ne h6),h7⟩
    · rw [World.cell?_setCell_same _ _ _ h2]
    · rw [World.cell?_setCell_other _ _ _ _ (by simp)]; exact h3
    · rw [World.cell?_setCell_other _ _ _ _ (by simp)]; exact h4
    · rw [World.cell?_setCell_other _ _ _ _ (by simp)]; exact h5
  · rw [List.getElem?_set_ne (Ne.symm hji)] at hp
    obtain ⟨h1,h2,h3,h4,h5,h6,h7⟩:=h.at_ j p hp
    refine ⟨h1,?_,?_,?_,?_,kept_set h6 (h.kids_ne h6),h7⟩ <;> (rw [World.cell?_setCell_other _ _ _ _ (by simp <;> omega)]; assumption)
theorem OwnT.setVer {w : World} {B b c : Nat} {os : List LObj} {vs : Nat → Value} (h : OwnT w B b c os vs) {i : Nat} {o : LObj} (ho : os[i]? = some o) (z : Int) : OwnT (w.setCell ⟨b,i * 4 + 1,none⟩ (.int .i64 z)) B b c (os.set i { o with ver:=z }) vs:=by
  obtain ⟨cur,hg,hcs,hlc,hcm⟩:=h.row
  refine ⟨h.lo,⟨_,heap_setCell_same w b (i * 4 + 1) cur 165 _ hg,by simpa using hcs,by simpa using hlc,hcm⟩,fun j p hp=>?_,fun j k g hj hk=>h.apart j k g (by simpa using hj) (by simpa using hk)⟩
  by_cases hji : j = i
  · subst hji
    have hlt : j < os.length:=(List.getElem?_eq_some_iff.1 ho).1
    rw [List.getElem?_set_self hlt] at hp
    simp at hp; subst hp
    obtain ⟨h1,h2,h3,h4,h5,h6,h7⟩:=h.at_ j o ho
    refine ⟨h1,?_,?_,?_,?_,kept_set h6 (h.kids_ne h6),h7⟩
    · rw [World.cell?_setCell_other _ _ _ _ (by simp)]; exact h2
    · rw [World.cell?_setCell_same _ _ _ h3]
    · rw [World.cell?_setCell_other _ _ _ _ (by simp)]; exact h4
    · rw [World.cell?_setCell_other _ _ _ _ (by simp)]; exact h5
  · rw [List.getElem?_set_ne (Ne.symm hji)] at hp
    obtain ⟨h1,h2,h3,h4,h5,h6,h7⟩:=h.at_ j p hp
    refine ⟨h1,?_,?_,?_,?_,kept_set h6 (h.kids_ne h6),h7⟩ <;> (rw [World.cell?_setCell_other _ _ _ _ (by simp <;> omega)]; assumption)
theorem OwnT.setText {w : World} {B b c : Nat} {os : List LObj} {vs : Nat → Value} (h : OwnT w B b c os vs) {i : Nat} {o : LObj} (ho : os[i]? = some o) (z : ByteArray) (hz : z.size ≤ maxLen) : OwnT (w.setCell ⟨b,i * 4 + 2,none⟩ (.string z)) B b c (os.set i { o with text:=z }) vs:=by
  obtain ⟨cur,hg,hcs,hlc,hcm⟩:=h.row
  refine ⟨h.lo,⟨_,heap_setCell_same w b (i * 4 + 2) cur 165 _ hg,by simpa using hcs,by simpa using hlc,hcm⟩,fun j p hp=>?_,fun j k g hj hk=>h.apart j k g (by simpa using hj) (by simpa using hk)⟩
  by_cases hji : j = i
  · subst hji
    have hlt : j < os.length:=(List.getElem?_eq_some_iff.1 ho).1
    rw [List.getElem?_set_self hlt] at hp
    simp at hp; subst hp
    obtain ⟨h1,h2,h3,h4,h5,h6,h7⟩:=h.at_ j o ho
    refine ⟨hz,?_,?_,?_,?_,kept_set h6 (h.kids_ne h6),h7⟩
    · rw [World.cell?_setCell_other _ _ _ _ (by simp)]; exact h2
    · rw [World.cell?_setCell_other _ _ _ _ (by simp)]; exact h3
    · rw [World.cell?_setCell_same _ _ _ h4]
    · rw [World.cell?_setCell_other _ _ _ _ (by simp)]; exact h5
  · rw [List.getElem?_set_ne (Ne.symm hji)] at hp
    obtain ⟨h1,h2,h3,h4,h5,h6,h7⟩:=h.at_ j p hp
    refine ⟨h1,?_,?_,?_,?_,kept_set h6 (h.kids_ne h6),h7⟩ <;> (rw [World.cell?_setCell_other _ _ _ _ (by simp <;> omega)]; assumption)
theorem OwnT.grown {w w' : World} {B b c : Nat} {os : List LObj} {vs : Nat → Value} (h : OwnT w B b c os vs) {row : Option Nat} (hg : w.grownBy w' row) (hb : some b ≠ row) (hv : ∀ i,i < os.length → (vs i).ownBlock = none ∨ (vs i).ownBlock ≠ row) : OwnT w' B b c os vs:=by
  obtain ⟨cur,hr,hcs,hlc,hcm⟩:=h.row
  refine ⟨h.lo,⟨cur,by rw [hg.block b h.lt hb]; exact hr,hcs,hlc,hcm⟩,fun i o ho=>?_,h.apart⟩
  obtain ⟨h1,h2,h3,h4,h5,h6,h7⟩:=h.at_ i o ho
  have hlt : i < os.length:=(List.getElem?_eq_some_iff.1 ho).1
  refine ⟨h1,?_,?_,?_,?_,World.ownsRow.kept h6 hg (hv i hlt),h7⟩ <;> (rw [hg.cell_far _ h.lt hb]; assumption)
theorem OwnT.alloc {w : World} {B b c : Nat} {os : List LObj} {vs : Nat → Value} (h : OwnT w B b c os vs) (o : Obj) : OwnT (w.alloc o) B b c os vs :=
  h.grown (World.grownBy_alloc w o none) (by simp) fun i _=>by cases hv : (vs i).ownBlock <;> simp
theorem OwnT.of_heap {w w' : World} {B b c : Nat} {os : List LObj} {vs : Nat → Value} (hh : w'.heap = w.heap) (h : OwnT w B b c os vs) : OwnT w' B b c os vs:=by
  refine ⟨h.lo,by rw [hh]; exact h.row,fun i o ho=>?_,h.apart⟩
  obtain ⟨h1,h2,h3,h4,h5,h6,h7⟩:=h.at_ i o ho
  have hc : ∀ a,w'.cell? a = w.cell? a:=fun a=>World.cell?_of_block (by rw [hh])
  exact ⟨h1,by rw [hc]; exact h2,by rw [hc]; exact h3,by rw [hc]; exact h4,by rw [hc]; exact h5,OwnEnts.of_heap hh h6,h7⟩
def TurnEnd (w : World) (B b c i : Nat) (o : LObj) (os : List LObj) (vs : Nat → Value) (e : Ending) (w' : World) : Prop :=
  e = .returned (.agg #[.slice (some ⟨b,0,none⟩) os.length c]) ∧ OwnT w' B b c (os.set i { o with ver:=o.ver + 1 }) vs ∧ w.grownBy w' (some b)
set_option maxHeartbeats 1000000 in
theorem turn_any (B b c i : Nat) (o : LObj) (os : List LObj) (vs : Nat → Value) (n : Nat) (id : Int) (w : World) (hi : id = i) (hn : n = os.length) (ho : os[i]? = some o) (hv0 : -1000000000 ≤ o.ver) (hv1 : o.ver ≤ 1000000000) (H : OwnT w B b c os vs) :
    Calls Tryz.prog 177 #[.agg #[.slice (some ⟨b,0,none⟩) n c],.int .i64 id] w fun e w'=>TurnEnd w B b c i o os vs e w':=by
  have HI : Hid (id = i):=hi
  have HN : Hid (n = os.length):=hn
  have HO : Hid (os[i]? = some o):=ho
  have hlt : i < n:=by rw [hn]; exact (List.getElem?_eq_some_iff.1 ho).1
  have hbl:=H.lt
  have hc1 : w.cell? ⟨b,i * 4 + 1,none⟩ = some (.int .i64 o.ver):=(H.at_ i o ho).2.2.1
  have hf1 : w.frozen? ⟨b,i * 4 + 1,none⟩ = false:=H.frozen _
  clear ho hn
  subst hi
  have hlt' : (i : Int) < (n : Int):=by omega
  have hlt0 : (0 : Int) ≤ (i : Int):=by omega
  go_enter Tryz.func177,Tryz.ntmps177
  go_wp2_with fail
  go_region
  all_goals
    go_wp2_with fail
    refine bodyPost_ret (v:=.agg #[.slice (some ⟨b,0,none⟩) n c]) (by simp [results,Tryz.results177,go_sem]) rfl ⟨by rw [← HN.out],OwnT.of_heap (by rfl) (((H.setVer HO.out (o.ver + 1)).alloc (Obj.cells #[.slice (some ⟨b,0,none⟩) n c] 26)).alloc (Obj.cells #[.slice (some ⟨b,0,none⟩) n c] 26)),⟨rfl,rfl,rfl,by simp; omega,fun k hk hne=>?_⟩⟩
    have e1 : (w.setCell ⟨b,i * 4 + 1,none⟩ (Value.int IntKind.i64 (o.ver + 1))).heap[k]? = w.heap[k]?:=Below.heap_setCell w ⟨b,i * 4 + 1,none⟩ _ k (by intro e; exact hne (by simp [e]))
    rw [← e1]
    exact (((World.grownBy_alloc _ _ none).block k (by simp; omega) (by simp)).trans ((World.grownBy_alloc _ _ none).block k (by simpa using hk) (by simp)))
end
end Go.Proofs.YtloopeipheklpaaGreatDoor
