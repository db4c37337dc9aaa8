/- Lemmas that the proofs of this seat share: WldT. -/
import Derived.Test.YtloopeipheklpaaGreatDoorW12
namespace Go.Proofs.YtloopeipheklpaaGreatDoor
open Go.RowKit Go.ChangeShapes Go.WideShapes
theorem hidMk {p : Prop} (h : p) : Hid p:=h
def BoxI (W : World) (p : Nat) (t : TypeId) (vs : List Value) : Prop:=W.rowIs p t vs.length fun i=>vs[i]?.getD default
theorem BoxI.new {W : World} {A : Array Value} {t : TypeId} {p : Nat} (hp : p = W.heap.size) : BoxI (W.alloc (.cells A t)) p t A.toList:=by
  subst hp
  have h:=World.rowIs_alloc W A t (fun i=>A.toList[i]?.getD default) (fun i hi=>by simp [hi])
  exact h
theorem BoxI.lt {W : World} {p : Nat} {t : TypeId} {vs : List Value} (h : BoxI W p t vs) : p < W.heap.size:=World.rowIs.lt h
theorem BoxI.next {W W' : World} {p B : Nat} {t : TypeId} {vs : List Value} (h : BoxI W p t vs) (hb : Below B W W') (hp : p < B) : BoxI W' p t vs:=World.rowIs.of_block h (hb.block p hp)
theorem BoxI.alloc {W : World} {p : Nat} {t : TypeId} {vs : List Value} (h : BoxI W p t vs) (o : Obj) : BoxI (W.alloc o) p t vs:=World.rowIs.alloc h o
theorem BoxI.other {W : World} {p : Nat} {t : TypeId} {vs : List Value} (h : BoxI W p t vs) (a : Addr) (v : Value) (ha : p ≠ a.block) : BoxI (W.setCell a v) p t vs:=World.rowIs.setOther h ha v
theorem BoxI.set {W : World} {p : Nat} {t : TypeId} {vs : List Value} (h : BoxI W p t vs) (k : Nat) (v : Value) : BoxI (W.setCell ⟨p,k,none⟩ v) p t (vs.set k v):=by
  unfold BoxI
  rw [List.length_set]
  refine (World.rowIs.set h k v).congr fun i hi=>?_
  rw [List.getElem?_set]
  by_cases e : i = k
  · subst e
    simp [hi]
  · rw [if_neg e,if_neg (fun h=>e h.symm)]
theorem BoxI.get {W : World} {p : Nat} {t : TypeId} {vs : List Value} (h : BoxI W p t vs) (k : Nat) (v : Value) (hk : vs[k]? = some v) : W.cell? ⟨p,k,none⟩ = some v:=by
  have hl : k < vs.length:=(List.getElem?_eq_some_iff.1 hk).1
  have:=World.rowIs.cell h hl
  rw [hk] at this
  exact this
theorem BoxI.fro {W : World} {p : Nat} {t : TypeId} {vs : List Value} (h : BoxI W p t vs) : ∀ k,W.frozen? ⟨p,k,none⟩ = false:=World.rowIs.frozen h
theorem infoOpSS : (Tryz.prog.info? 66).map (fun i=>(i.zero.map (·.cells),i.size,i.bytes)) = some (some #[.slice none 0 0],1,24):=by kernel_rfl
set_option maxHeartbeats 2000000 in
theorem toOpSS_any (a : Option Addr) (n c : Nat) (xs : List (List LOp)) (L U : Nat) (w : World) (hn : n ≤ 1048576) (hS : ∀ x ∈ xs,OpsSm x) (hU : U ≤ w.heap.size) (H : RowsAt 1 OpsE w L U a n xs) :
    Calls Tryz.prog 84 #[.slice a n c] w fun e w'=>(∃ b,e = .returned (.slice (some ⟨b,0,none⟩) n n) ∧ RowsAt 1 OpsE w' w.heap.size w'.heap.size (some ⟨b,0,none⟩) n xs) ∧ Below w.heap.size w w':=by
  have hmk:=run_make_many 67 66 _ 1 24 Tryz.underlying67 infoOpSS n (by omega) (by omega)
  obtain ⟨f0,hf0⟩:=rowIs_many w #[.slice none 0 0] n 66
  have HF0 : Hid ((w.alloc (.cells (madeCells #[.slice none 0 0] n) 66)).rowIs w.heap.size 66 n f0):=hf0
  clear hf0
  go_enter Tryz.func84,Tryz.ntmps84
  go_wp2
  go_loopg [4] n (fun k i wr=>∃ j : Nat,j ≤ n ∧ Hid (k = n - j) ∧ i = .int .i64 j ∧ (∃ f,Hid (wr.rowIs w.heap.size 66 n f ∧ ∀ i,i < j → ∃ x vs,xs[i]? = some x ∧ vs.length = 1 ∧ (∀ k v,vs[k]? = some v → f (i * 1 + k) = v) ∧ OpsE wr (w.heap.size + 1) wr.heap.size vs x)) ∧ Below w.heap.size w wr)
  case atStart=>exact ⟨0,Nat.zero_le _,by show _ = _; omega,rfl,⟨f0,HF0.out,fun i hi=>by omega⟩,(Below.refl _ _).alloc (Nat.le_refl _) _⟩
  case round =>
    obtain ⟨j,hj,hk,rfl,⟨f,hf⟩,hb⟩:=hrel
    by_cases hlt : j < n
    · obtain ⟨b,off,ha,hL,hbU,hc⟩:=H.at_ (by omega)
      subst ha
      obtain ⟨x,vs,he,hc,hE⟩:=hc j hlt
      have hsx : OpsSm x:=hS x (List.mem_of_getElem? he)
      have HE : Hid (xs[j]? = some x):=he
      clear he
      obtain ⟨oa,on,oc,rfl,hO⟩:=hE
      have c0:=hc 0 _ rfl
      simp only [Nat.add_zero,Nat.mul_one] at c0
      rw [← hb.cell (by simp; omega)] at c0
      clear hc
      have hrl:=hf.out.1.lt
      go_wp2_with fail
      refine (toOpS_any _ _ _ _ L U _ (by have:=hO.len; have:=hsx; unfold OpsSm at this; omega) (by have:=hb.size; omega) (hO.below hb hU)).mono ?_
      rintro y w1 ⟨⟨ob,rfl,hke⟩,hb1⟩
      have hrow:=hf.out.1.of_block (hb1.block w.heap.size hf.out.1.lt)
      have g0:=hrow.cell (i:=j) (by omega)
      have z0:=hrow.frozen (j)
      have HR : Hid (w1.rowIs w.heap.size 66 n f):=hrow
      clear hrow
      go_wp2_with fail
      go_roundg (n - (j + 1))
      case measure=>have:=hk.out; omega
      case rel =>
        have hbs:=hb1.size
        refine ⟨j + 1,by omega,rfl,by go_num,⟨_,(HR.out.set (j) (.slice (some ⟨ob,0,none⟩) on on)),fun i hi=>?_⟩,((hb.trans (hb1.mono hb.size)).setCell (by simp) _)⟩
        by_cases hij : i = j
        · subst hij
          refine ⟨x,[.slice (some ⟨ob,0,none⟩) on on],HE.out,rfl,fun k v hv=>?_,?_⟩
          · have hkk : k < 1:=(List.getElem?_eq_some_iff.1 hv).1
            have hcase : k = 0:=by omega
            subst hcase
            simp at hv ⊢; exact hv
          · refine eltOps.blocks (w:=w1) (⟨_,_,_,rfl,hke.wide (by omega) (by simp)⟩) fun b h1 h2=>?_
            iterate 1 refine (Below.heap_setCell _ _ _ b (by simp; omega)).trans ?_
            rfl
        · obtain ⟨x',vs',he',hl',q0,qk⟩:=hf.out.2 i (by omega)
          refine ⟨x',vs',he',hl',fun k v hv=>?_,?_⟩
          · have hkk : k < 1:=by rw [← hl']; exact (List.getElem?_eq_some_iff.1 hv).1
            have hd:=q0 k v hv
            show (if i * 1 + k = j then _ else f (i * 1 + k)) = v
            rw [if_neg (by omega)]
            exact hd
          · refine eltOps.wide (eltOps.blocks (eltOps.below qk hb1 (Nat.le_refl _)) fun b h1 h2=>?_) (Nat.le_refl _) (by simp <;> omega)
            iterate 1 refine (Below.heap_setCell _ _ _ b (by simp; omega)).trans ?_
            rfl
    · go_wp2_with fail
      go_ret
      refine ⟨⟨w.heap.size,rfl,H.len,H.bd,fun hn0=>⟨w.heap.size,0,rfl,Nat.le_refl _,hf.out.1.lt,fun i hi=>?_⟩⟩,hb⟩
      obtain ⟨x',vs',he',hl',q0,qk⟩:=hf.out.2 i (by omega)
      refine ⟨x',vs',he',fun k v hv=>?_,eltOps.wide qk (by omega) (Nat.le_refl _)⟩
      have hkk : k < 1:=by rw [← hl']; exact (List.getElem?_eq_some_iff.1 hv).1
      rw [Nat.zero_add,hf.out.1.cell (by omega),q0 k v hv]
def ToldSm (_ : LTold) : Prop:=True
theorem toTold_any (i j k : Int) (w : World) :
    Calls Tryz.prog 131 #[.agg #[.int .i64 i,.int .i64 j,.int .i64 k]] w fun e w'=>e = .returned (.agg #[.int .i64 i,.int .i64 j,.int .i64 k]) ∧ Below w.heap.size w w':=by
  go_enter Tryz.func131,Tryz.ntmps131
  go_wp2
  exact bodyPost_ret (v:=.agg #[.int .i64 i,.int .i64 j,.int .i64 k]) (by simp [results,Tryz.results131,go_sem]) rfl ⟨rfl,by
    repeat (first | exact Below.refl _ _ | refine Below.setCell ?_ (by simp <;> omega) _ | refine Below.alloc ?_ (by simp <;> omega) _)⟩
theorem infoToldS : (Tryz.prog.info? 118).map (fun i=>(i.zero.map (·.cells),i.size,i.bytes)) = some (some #[.int .i64 0,.int .i64 0,.int .i64 0],3,24):=by kernel_rfl
set_option maxHeartbeats 2000000 in
theorem toToldS_any (a : Option Addr) (n c : Nat) (xs : List LTold) (L U : Nat) (w : World) (hn : n ≤ 1048576) (hS : ∀ x ∈ xs,ToldSm x) (hU : U ≤ w.heap.size) (H : RowsAt 3 ToldE w L U a n xs) :
    Calls Tryz.prog 66 #[.slice a n c] w fun e w'=>(∃ b,e = .returned (.slice (some ⟨b,0,none⟩) n n) ∧ RowsAt 3 ToldE w' w.heap.size w'.heap.size (some ⟨b,0,none⟩) n xs) ∧ Below w.heap.size w w':=by
  have hmk:=run_make_many 54 118 _ 3 24 Tryz.underlying54 infoToldS n (by omega) (by omega)
  obtain ⟨f0,hf0⟩:=rowIs_many w #[.int .i64 0,.int .i64 0,.int .i64 0] (n * 3) 118
  have HF0 : Hid ((w.alloc (.cells (madeCells #[.int .i64 0,.int .i64 0,.int .i64 0] (n * 3)) 118)).rowIs w.heap.size 118 (n * 3) f0):=hf0
  clear hf0
  go_enter Tryz.func66,Tryz.ntmps66
  go_wp2
  go_loopg [4] n (fun k i wr=>∃ j : Nat,j ≤ n ∧ Hid (k = n - j) ∧ i = .int .i64 j ∧ (∃ f,Hid (wr.rowIs w.heap.size 118 (n * 3) f ∧ ∀ i,i < j → ∃ x vs,xs[i]? = some x ∧ vs.length = 3 ∧ (∀ k v,vs[k]? = some v → f (i * 3 + k) = v) ∧ ToldE wr (w.heap.size + 1) wr.heap.size vs x)) ∧ Below w.heap.size w wr)
  case atStart=>exact ⟨0,Nat.zero_le _,by show _ = _; omega,rfl,⟨f0,HF0.out,fun i hi=>by omega⟩,(Below.refl _ _).alloc (Nat.le_refl _) _⟩
  case round =>
    obtain ⟨j,hj,hk,rfl,⟨f,hf⟩,hb⟩:=hrel
    by_cases hlt : j < n
    · obtain ⟨b,off,ha,hL,hbU,hc⟩:=H.at_ (by omega)
      subst ha
      obtain ⟨x,vs,he,hc,hE⟩:=hc j hlt
      have hsx : ToldSm x:=hS x (List.mem_of_getElem? he)
      have HE : Hid (xs[j]? = some x):=he
      clear he
      obtain rfl : vs = _:=hE
      have c0:=hc 0 _ rfl
      have c1:=hc 1 _ rfl
      have c2:=hc 2 _ rfl
      simp only [Nat.add_zero] at c0
      rw [← hb.cell (by simp; omega)] at c0 c1 c2
      clear hc
      have hrl:=hf.out.1.lt
      go_wp2_with fail
      refine (toTold_any _ _ _ _).mono ?_
      rintro y w1 ⟨rfl,hb1⟩
      have hrow:=hf.out.1.of_block (hb1.block w.heap.size hf.out.1.lt)
      have g0:=hrow.cell (i:=j * 3) (by omega)
      have z0:=hrow.frozen (j * 3)
      have g1:=hrow.cell (i:=j * 3 + 1) (by omega)
      have z1:=hrow.frozen (j * 3 + 1)
      have g2:=hrow.cell (i:=j * 3 + 2) (by omega)
      have z2:=hrow.frozen (j * 3 + 2)
      have HR : Hid (w1.rowIs w.heap.size 118 (n * 3) f):=hrow
      clear hrow
      go_wp2_with fail
      go_roundg (n - (j + 1))
      case measure=>have:=hk.out; omega
      case rel =>
        have hbs:=hb1.size
        refine ⟨j + 1,by omega,rfl,by go_num,⟨_,(((HR.out.set (j * 3) (.int .i64 x.who)).set (j * 3 + 1) (.int .i64 x.seq)).set (j * 3 + 2) (.int .i64 x.code)),fun i hi=>?_⟩,((((hb.trans (hb1.mono hb.size)).setCell (by simp) _).setCell (by simp) _).setCell (by simp) _)⟩
        by_cases hij : i = j
        · subst hij
          refine ⟨x,[.int .i64 x.who,.int .i64 x.seq,.int .i64 x.code],HE.out,rfl,fun k v hv=>?_,?_⟩
          · have hkk : k < 3:=(List.getElem?_eq_some_iff.1 hv).1
            have hcase : k = 0 ∨ k = 1 ∨ k = 2:=by omega
            rcases hcase with rfl | rfl | rfl
            all_goals (simp at hv ⊢; exact hv)
          · refine eltTold.blocks (w:=w1) (rfl) fun b h1 h2=>?_
            iterate 3 refine (Below.heap_setCell _ _ _ b (by simp; omega)).trans ?_
            rfl
        · obtain ⟨x',vs',he',hl',q0,qk⟩:=hf.out.2 i (by omega)
          refine ⟨x',vs',he',hl',fun k v hv=>?_,?_⟩
          · have hkk : k < 3:=by rw [← hl']; exact (List.getElem?_eq_some_iff.1 hv).1
            have hd:=q0 k v hv
            show (if i * 3 + k = j * 3 + 2 then _ else if i * 3 + k = j * 3 + 1 then _ else if i * 3 + k = j * 3 then _ else f (i * 3 + k)) = v
            rw [if_neg (by omega)]
            rw [if_neg (by omega)]
            rw [if_neg (by omega)]
            exact hd
          · refine eltTold.wide (eltTold.blocks (eltTold.below qk hb1 (Nat.le_refl _)) fun b h1 h2=>?_) (Nat.le_refl _) (by simp <;> omega)
            iterate 3 refine (Below.heap_setCell _ _ _ b (by simp; omega)).trans ?_
            rfl
    · go_wp2_with fail
      go_ret
      refine ⟨⟨w.heap.size,rfl,H.len,H.bd,fun hn0=>⟨w.heap.size,0,rfl,Nat.le_refl _,hf.out.1.lt,fun i hi=>?_⟩⟩,hb⟩
      obtain ⟨x',vs',he',hl',q0,qk⟩:=hf.out.2 i (by omega)
      refine ⟨x',vs',he',fun k v hv=>?_,eltTold.wide qk (by omega) (Nat.le_refl _)⟩
      have hkk : k < 3:=by rw [← hl']; exact (List.getElem?_eq_some_iff.1 hv).1
      rw [Nat.zero_add,hf.out.1.cell (by omega),q0 k v hv]
theorem infoLogS : (Tryz.prog.info? 85).map (fun i=>(i.zero.map (·.cells),i.size,i.bytes)) = some (some #[.int .i64 0,.int .i64 0,.slice none 0 0,.slice none 0 0],4,64):=by kernel_rfl
set_option maxHeartbeats 2000000 in
theorem toLogS_any (a : Option Addr) (n c : Nat) (xs : List LLog) (L U : Nat) (w : World) (hn : n ≤ 1048576) (hS : ∀ x ∈ xs,LogSm x) (hU : U ≤ w.heap.size) (H : RowsAt 4 LogE w L U a n xs) :
    Calls Tryz.prog 13 #[.slice a n c] w fun e w'=>(∃ b,e = .returned (.slice (some ⟨b,0,none⟩) n n) ∧ RowsAt 4 LogE w' w.heap.size w'.heap.size (some ⟨b,0,none⟩) n xs) ∧ Below w.heap.size w w':=by
  have hmk:=run_make_many 29 85 _ 4 64 Tryz.underlying29 infoLogS n (by omega) (by omega)
  obtain ⟨f0,hf0⟩:=rowIs_many w #[.int .i64 0,.int .i64 0,.slice none 0 0,.slice none 0 0] (n * 4) 85
  have HF0 : Hid ((w.alloc (.cells (madeCells #[.int .i64 0,.int .i64 0,.slice none 0 0,.slice none 0 0] (n * 4)) 85)).rowIs w.heap.size 85 (n * 4) f0):=hf0
  clear hf0
  go_enter Tryz.func13,Tryz.ntmps13
  go_wp2
  go_loopg [4] n (fun k i wr=>∃ j : Nat,j ≤ n ∧ Hid (k = n - j) ∧ i = .int .i64 j ∧ (∃ f,Hid (wr.rowIs w.heap.size 85 (n * 4) f ∧ ∀ i,i < j → ∃ x vs,xs[i]? = some x ∧ vs.length = 4 ∧ (∀ k v,vs[k]? = some v → f (i * 4 + k) = v) ∧ LogE wr (w.heap.size + 1) wr.heap.size vs x)) ∧ Below w.heap.size w wr)
  case atStart=>exact ⟨0,Nat.zero_le _,by show _ = _; omega,rfl,⟨f0,HF0.out,fun i hi=>by omega⟩,(Below.refl _ _).alloc (Nat.le_refl _) _⟩
  case round =>
    obtain ⟨j,hj,hk,rfl,⟨f,hf⟩,hb⟩:=hrel
    by_cases hlt : j < n
    · obtain ⟨b,off,ha,hL,hbU,hc⟩:=H.at_ (by omega)
      subst ha
      obtain ⟨x,vs,he,hc,hE⟩:=hc j hlt
      have hsx : LogSm x:=hS x (List.mem_of_getElem? he)
      have HE : Hid (xs[j]? = some x):=he
      clear he
      obtain ⟨q,s,a1,n1,c1',a2,n2,c2',rfl,hcp,hL4⟩:=hE
      have c0:=hc 0 _ rfl
      have c1:=hc 1 _ rfl
      have c2:=hc 2 _ rfl
      have c3:=hc 3 _ rfl
      simp only [Nat.add_zero] at c0
      rw [← hb.cell (by simp; omega)] at c0 c1 c2 c3
      clear hc
      have hrl:=hf.out.1.lt
      go_wp2_with fail
      refine (toLog_any _ _ _ _ _ _ _ _ x L U _ (by have:=hL4.b.len; have:=hsx.bases; omega) (by have:=hL4.o.len; have:=hsx.list; omega) (by have:=hb.size; omega) (hL4.below hb hU)).mono ?_
      rintro y w1 ⟨⟨lb,lb2,rfl,hke⟩,hb1⟩
      have hrow:=hf.out.1.of_block (hb1.block w.heap.size hf.out.1.lt)
      have g0:=hrow.cell (i:=j * 4) (by omega)
      have z0:=hrow.frozen (j * 4)
      have g1:=hrow.cell (i:=j * 4 + 1) (by omega)
      have z1:=hrow.frozen (j * 4 + 1)
      have g2:=hrow.cell (i:=j * 4 + 2) (by omega)
      have z2:=hrow.frozen (j * 4 + 2)
      have g3:=hrow.cell (i:=j * 4 + 3) (by omega)
      have z3:=hrow.frozen (j * 4 + 3)
      have HR : Hid (w1.rowIs w.heap.size 85 (n * 4) f):=hrow
      clear hrow
      go_wp2_with fail
      go_roundg (n - (j + 1))
      case measure=>have:=hk.out; omega
      case rel =>
        have hbs:=hb1.size
        refine ⟨j + 1,by omega,rfl,by go_num,⟨_,((((HR.out.set (j * 4) (.int .i64 q)).set (j * 4 + 1) (.int .i64 s)).set (j * 4 + 2) (.slice (some ⟨lb,0,none⟩) n1 n1)).set (j * 4 + 3) (.slice (some ⟨lb2,0,none⟩) n2 n2)),fun i hi=>?_⟩,(((((hb.trans (hb1.mono hb.size)).setCell (by simp) _).setCell (by simp) _).setCell (by simp) _).setCell (by simp) _)⟩
        by_cases hij : i = j
        · subst hij
          refine ⟨x,[.int .i64 q,.int .i64 s,.slice (some ⟨lb,0,none⟩) n1 n1,.slice (some ⟨lb2,0,none⟩) n2 n2],HE.out,rfl,fun k v hv=>?_,?_⟩
          · have hkk : k < 4:=(List.getElem?_eq_some_iff.1 hv).1
            have hcase : k = 0 ∨ k = 1 ∨ k = 2 ∨ k = 3:=by omega
            rcases hcase with rfl | rfl | rfl | rfl
            all_goals (simp at hv ⊢; exact hv)
          · refine eltLog.blocks (w:=w1) (⟨_,_,_,_,_,_,_,_,rfl,⟨Nat.le_refl _,hke.o.bd⟩,hke.wide (by omega) (by simp)⟩) fun b h1 h2=>?_
            iterate 4 refine (Below.heap_setCell _ _ _ b (by simp; omega)).trans ?_
            rfl
        · obtain ⟨x',vs',he',hl',q0,qk⟩:=hf.out.2 i (by omega)
          refine ⟨x',vs',he',hl',fun k v hv=>?_,?_⟩
          · have hkk : k < 4:=by rw [← hl']; exact (List.getElem?_eq_some_iff.1 hv).1
            have hd:=q0 k v hv
            show (if i * 4 + k = j * 4 + 3 then _ else if i * 4 + k = j * 4 + 2 then _ else if i * 4 + k = j * 4 + 1 then _ else if i * 4 + k = j * 4 then _ else f (i * 4 + k)) = v
            rw [if_neg (by omega)]
            rw [if_neg (by omega)]
            rw [if_neg (by omega)]
            rw [if_neg (by omega)]
            exact hd
          · refine eltLog.wide (eltLog.blocks (eltLog.below qk hb1 (Nat.le_refl _)) fun b h1 h2=>?_) (Nat.le_refl _) (by simp <;> omega)
            iterate 4 refine (Below.heap_setCell _ _ _ b (by simp; omega)).trans ?_
            rfl
    · go_wp2_with fail
      go_ret
      refine ⟨⟨w.heap.size,rfl,H.len,H.bd,fun hn0=>⟨w.heap.size,0,rfl,Nat.le_refl _,hf.out.1.lt,fun i hi=>?_⟩⟩,hb⟩
      obtain ⟨x',vs',he',hl',q0,qk⟩:=hf.out.2 i (by omega)
      refine ⟨x',vs',he',fun k v hv=>?_,eltLog.wide qk (by omega) (Nat.le_refl _)⟩
      have hkk : k < 4:=by rw [← hl']; exact (List.getElem?_eq_some_iff.1 hv).1
      rw [Nat.zero_add,hf.out.1.cell (by omega),q0 k v hv]
theorem infoMsgS : (Tryz.prog.info? 156).map (fun i=>(i.zero.map (·.cells),i.size,i.bytes)) = some (some #[.int .i64 0,.int .i64 0,.int .i64 0,.int .i64 0,.int .i64 0,.slice none 0 0,.slice none 0 0,.int .i64 0,.slice none 0 0],9,120):=by kernel_rfl
set_option maxHeartbeats 2000000 in
theorem toMsgS_any (a : Option Addr) (n c : Nat) (xs : List LMsg) (L U : Nat) (w : World) (hn : n ≤ 1048576) (hS : ∀ x ∈ xs,MsgSm x) (hU : U ≤ w.heap.size) (H : RowsAt 9 MsgE w L U a n xs) :
    Calls Tryz.prog 65 #[.slice a n c] w fun e w'=>(∃ b,e = .returned (.slice (some ⟨b,0,none⟩) n n) ∧ RowsAt 9 MsgE w' w.heap.size w'.heap.size (some ⟨b,0,none⟩) n xs) ∧ Below w.heap.size w w':=by
  have hmk:=run_make_many 53 156 _ 9 120 Tryz.underlying53 infoMsgS n (by omega) (by omega)
  obtain ⟨f0,hf0⟩:=rowIs_many w #[.int .i64 0,.int .i64 0,.int .i64 0,.int .i64 0,.int .i64 0,.slice none 0 0,.slice none 0 0,.int .i64 0,.slice none 0 0] (n * 9) 156
  have HF0 : Hid ((w.alloc (.cells (madeCells #[.int .i64 0,.int .i64 0,.int .i64 0,.int .i64 0,.int .i64 0,.slice none 0 0,.slice none 0 0,.int .i64 0,.slice none 0 0] (n * 9)) 156)).rowIs w.heap.size 156 (n * 9) f0):=hf0
  clear hf0
  go_enter Tryz.func65,Tryz.ntmps65
  go_wp2
  go_loopg [4] n (fun k i wr=>∃ j : Nat,j ≤ n ∧ Hid (k = n - j) ∧ i = .int .i64 j ∧ (∃ f,Hid (wr.rowIs w.heap.size 156 (n * 9) f ∧ ∀ i,i < j → ∃ x vs,xs[i]? = some x ∧ vs.length = 9 ∧ (∀ k v,vs[k]? = some v → f (i * 9 + k) = v) ∧ MsgE wr (w.heap.size + 1) wr.heap.size vs x)) ∧ Below w.heap.size w wr)
  case atStart=>exact ⟨0,Nat.zero_le _,by show _ = _; omega,rfl,⟨f0,HF0.out,fun i hi=>by omega⟩,(Below.refl _ _).alloc (Nat.le_refl _) _⟩
  case round =>
    obtain ⟨j,hj,hk,rfl,⟨f,hf⟩,hb⟩:=hrel
    by_cases hlt : j < n
    · obtain ⟨b,off,ha,hL,hbU,hc⟩:=H.at_ (by omega)
      subst ha
      obtain ⟨x,vs,he,hc,hE⟩:=hc j hlt
      have hsx : MsgSm x:=hS x (List.mem_of_getElem? he)
      have HE : Hid (xs[j]? = some x):=he
      clear he
      obtain ⟨q,s,ba,bn,bc,oa,on,oc,ta,tn,tc,rfl,hcp,hM⟩:=hE
      have c0:=hc 0 _ rfl
      have c1:=hc 1 _ rfl
      have c2:=hc 2 _ rfl
      have c3:=hc 3 _ rfl
      have c4:=hc 4 _ rfl
      have c5:=hc 5 _ rfl
      have c6:=hc 6 _ rfl
      have c7:=hc 7 _ rfl
      have c8:=hc 8 _ rfl
      simp only [Nat.add_zero] at c0
      rw [← hb.cell (by simp; omega)] at c0 c1 c2 c3 c4 c5 c6 c7 c8
      clear hc
      have hrl:=hf.out.1.lt
      go_wp2_with fail
      refine (toMsg_any _ _ _ _ _ _ _ _ _ _ _ _ _ _ _ x.log x.tree L U _ ⟨by have:=hM.log.b.len; have:=hsx.log.bases; omega,by have:=hM.log.o.len; have:=hsx.log.list; omega,by have:=hM.tree.len; have:=hsx.n; omega,hsx.tree⟩ (by have:=hb.size; omega) (hM.below hb hU)).mono ?_
      rintro y w1 ⟨⟨mb,mb1,mb2,rfl,hke⟩,hb1⟩
      have hrow:=hf.out.1.of_block (hb1.block w.heap.size hf.out.1.lt)
      have g0:=hrow.cell (i:=j * 9) (by omega)
      have z0:=hrow.frozen (j * 9)
      have g1:=hrow.cell (i:=j * 9 + 1) (by omega)
      have z1:=hrow.frozen (j * 9 + 1)
      have g2:=hrow.cell (i:=j * 9 + 2) (by omega)
      have z2:=hrow.frozen (j * 9 + 2)
      have g3:=hrow.cell (i:=j * 9 + 3) (by omega)
      have z3:=hrow.frozen (j * 9 + 3)
      have g4:=hrow.cell (i:=j * 9 + 4) (by omega)
      have z4:=hrow.frozen (j * 9 + 4)
      have g5:=hrow.cell (i:=j * 9 + 5) (by omega)
      have z5:=hrow.frozen (j * 9 + 5)
      have g6:=hrow.cell (i:=j * 9 + 6) (by omega)
      have z6:=hrow.frozen (j * 9 + 6)
      have g7:=hrow.cell (i:=j * 9 + 7) (by omega)
      have z7:=hrow.frozen (j * 9 + 7)
      have g8:=hrow.cell (i:=j * 9 + 8) (by omega)
      have z8:=hrow.frozen (j * 9 + 8)
      have HR : Hid (w1.rowIs w.heap.size 156 (n * 9) f):=hrow
      clear hrow
      go_wp2_with fail
      go_roundg (n - (j + 1))
      case measure=>have:=hk.out; omega
      case rel =>
        have hbs:=hb1.size
        refine ⟨j + 1,by omega,rfl,by go_num,⟨_,(((((((((HR.out.set (j * 9) (.int .i64 x.kind)).set (j * 9 + 1) (.int .i64 x.who)).set (j * 9 + 2) (.int .i64 x.seq)).set (j * 9 + 3) (.int .i64 q)).set (j * 9 + 4) (.int .i64 s)).set (j * 9 + 5) (.slice (some ⟨mb,0,none⟩) bn bn)).set (j * 9 + 6) (.slice (some ⟨mb1,0,none⟩) on on)).set (j * 9 + 7) (.int .i64 x.code)).set (j * 9 + 8) (.slice (some ⟨mb2,0,none⟩) tn tn)),fun i hi=>?_⟩,((((((((((hb.trans (hb1.mono hb.size)).setCell (by simp) _).setCell (by simp) _).setCell (by simp) _).setCell (by simp) _).setCell (by simp) _).setCell (by simp) _).setCell (by simp) _).setCell (by simp) _).setCell (by simp) _)⟩
        by_cases hij : i = j
        · subst hij
          refine ⟨x,[.int .i64 x.kind,.int .i64 x.who,.int .i64 x.seq,.int .i64 q,.int .i64 s,.slice (some ⟨mb,0,none⟩) bn bn,.slice (some ⟨mb1,0,none⟩) on on,.int .i64 x.code,.slice (some ⟨mb2,0,none⟩) tn tn],HE.out,rfl,fun k v hv=>?_,?_⟩
          · have hkk : k < 9:=(List.getElem?_eq_some_iff.1 hv).1
            have hcase : k = 0 ∨ k = 1 ∨ k = 2 ∨ k = 3 ∨ k = 4 ∨ k = 5 ∨ k = 6 ∨ k = 7 ∨ k = 8:=by omega
            rcases hcase with rfl | rfl | rfl | rfl | rfl | rfl | rfl | rfl | rfl
            all_goals (simp at hv ⊢; exact hv)
          · refine eltMsg.blocks (w:=w1) (⟨_,_,_,_,_,_,_,_,_,_,_,rfl,⟨Nat.le_refl _,hke.log.o.bd⟩,hke.wide (by omega) (by simp)⟩) fun b h1 h2=>?_
            iterate 9 refine (Below.heap_setCell _ _ _ b (by simp; omega)).trans ?_
            rfl
        · obtain ⟨x',vs',he',hl',q0,qk⟩:=hf.out.2 i (by omega)
          refine ⟨x',vs',he',hl',fun k v hv=>?_,?_⟩
          · have hkk : k < 9:=by rw [← hl']; exact (List.getElem?_eq_some_iff.1 hv).1
            have hd:=q0 k v hv
            show (if i * 9 + k = j * 9 + 8 then _ else if i * 9 + k = j * 9 + 7 then _ else if i * 9 + k = j * 9 + 6 then _ else if i * 9 + k = j * 9 + 5 then _ else if i * 9 + k = j * 9 + 4 then _ else if i * 9 + k = j * 9 + 3 then _ else if i * 9 + k = j * 9 + 2 then _ else if i * 9 + k = j * 9 + 1 then _ else if i * 9 + k = j * 9 then _ else f (i * 9 + k)) = v
            rw [if_neg (by omega)]
            rw [if_neg (by omega)]
            rw [if_neg (by omega)]
            rw [if_neg (by omega)]
            rw [if_neg (by omega)]
            rw [if_neg (by omega)]
            rw [if_neg (by omega)]
            rw [if_neg (by omega)]
            rw [if_neg (by omega)]
            exact hd
          · refine eltMsg.wide (eltMsg.blocks (eltMsg.below qk hb1 (Nat.le_refl _)) fun b h1 h2=>?_) (Nat.le_refl _) (by simp <;> omega)
            iterate 9 refine (Below.heap_setCell _ _ _ b (by simp; omega)).trans ?_
            rfl
    · go_wp2_with fail
      go_ret
      refine ⟨⟨w.heap.size,rfl,H.len,H.bd,fun hn0=>⟨w.heap.size,0,rfl,Nat.le_refl _,hf.out.1.lt,fun i hi=>?_⟩⟩,hb⟩
      obtain ⟨x',vs',he',hl',q0,qk⟩:=hf.out.2 i (by omega)
      refine ⟨x',vs',he',fun k v hv=>?_,eltMsg.wide qk (by omega) (Nat.le_refl _)⟩
      have hkk : k < 9:=by rw [← hl']; exact (List.getElem?_eq_some_iff.1 hv).1
      rw [Nat.zero_add,hf.out.1.cell (by omega),q0 k v hv]
theorem BoxI.c7 {W : World} {p : Nat} {t : TypeId} {v0 v1 v2 v3 v4 v5 v6 : Value} (h : BoxI W p t [v0,v1,v2,v3,v4,v5,v6]) : W.cell? ⟨p,0,none⟩ = some v0 ∧ W.cell? ⟨p,1,none⟩ = some v1 ∧ W.cell? ⟨p,2,none⟩ = some v2 ∧ W.cell? ⟨p,3,none⟩ = some v3 ∧ W.cell? ⟨p,4,none⟩ = some v4 ∧ W.cell? ⟨p,5,none⟩ = some v5 ∧ W.cell? ⟨p,6,none⟩ = some v6 :=
  ⟨h.get 0 _ rfl,h.get 1 _ rfl,h.get 2 _ rfl,h.get 3 _ rfl,h.get 4 _ rfl,h.get 5 _ rfl,h.get 6 _ rfl⟩
set_option maxHeartbeats 2000000 in
theorem toKeep_any (q s : Int) (a : Option Addr) (n c : Nat) (b : Bool) (a1 : Option Addr) (n1 c1 : Nat) (a2 : Option Addr) (n2 c2 : Nat) (a3 : Option Addr) (n3 c3 : Nat) (k : LKeep) (L U : Nat) (w : World) (hs : KeepSm k) (hU : U ≤ w.heap.size) (H : KeepAt w L U q s a n b a1 n1 a2 n2 a3 n3 k) :
    Calls Tryz.prog 31 #[.agg #[.int .i64 q,.int .i64 s,.slice a n c,.bool b,.slice a1 n1 c1,.slice a2 n2 c2,.slice a3 n3 c3]] w fun e w'=>(∃ x0 x1 x2 x3,e = .returned (.agg #[.int .i64 q,.int .i64 s,.slice (some ⟨x0,0,none⟩) n n,.bool b,.slice (some ⟨x1,0,none⟩) n1 n1,.slice (some ⟨x2,0,none⟩) n2 n2,.slice (some ⟨x3,0,none⟩) n3 n3]) ∧ KeepAt w' w.heap.size w'.heap.size q s (some ⟨x0,0,none⟩) n b (some ⟨x1,0,none⟩) n1 (some ⟨x2,0,none⟩) n2 (some ⟨x3,0,none⟩) n3 k) ∧ Below w.heap.size w w':=by
  have H0:=H.base
  have H1:=H.sent
  have H2:=H.list
  have H3:=H.shelf
  have hq:=hidMk H.q
  have hqs:=hidMk H.s
  have hqb:=hidMk H.b
  clear H
  have hA : ∀ o1 o2 o3 : Obj,Below w.heap.size w (((w.alloc o1).alloc o2).alloc o3):=fun o1 o2 o3=>(((Below.refl _ _).alloc (Nat.le_refl _) _).alloc (by simp) _).alloc (by simp <;> omega) _
  have A0 : BoxI (((w.alloc (.cells #[.int .i64 q,.int .i64 s,.slice a n c,.bool b,.slice a1 n1 c1,.slice a2 n2 c2,.slice a3 n3 c3] 63)).alloc (.cells #[.int .i64 0,.int .i64 0,.slice none 0 0,.bool false,.slice none 0 0,.slice none 0 0,.slice none 0 0] 69)).alloc (.cells #[.int .i64 q,.int .i64 s,.slice none 0 0,.bool false,.slice none 0 0,.slice none 0 0,.slice none 0 0] 69)) w.heap.size 63 [.int .i64 q,.int .i64 s,.slice a n c,.bool b,.slice a1 n1 c1,.slice a2 n2 c2,.slice a3 n3 c3]:=((BoxI.new rfl).alloc _).alloc _
  have A1 : BoxI (((w.alloc (.cells #[.int .i64 q,.int .i64 s,.slice a n c,.bool b,.slice a1 n1 c1,.slice a2 n2 c2,.slice a3 n3 c3] 63)).alloc (.cells #[.int .i64 0,.int .i64 0,.slice none 0 0,.bool false,.slice none 0 0,.slice none 0 0,.slice none 0 0] 69)).alloc (.cells #[.int .i64 q,.int .i64 s,.slice none 0 0,.bool false,.slice none 0 0,.slice none 0 0,.slice none 0 0] 69)) (w.heap.size + 1) 69 [.int .i64 0,.int .i64 0,.slice none 0 0,.bool false,.slice none 0 0,.slice none 0 0,.slice none 0 0]:=(BoxI.new (by simp)).alloc _
  have A2 : BoxI (((w.alloc (.cells #[.int .i64 q,.int .i64 s,.slice a n c,.bool b,.slice a1 n1 c1,.slice a2 n2 c2,.slice a3 n3 c3] 63)).alloc (.cells #[.int .i64 0,.int .i64 0,.slice none 0 0,.bool false,.slice none 0 0,.slice none 0 0,.slice none 0 0] 69)).alloc (.cells #[.int .i64 q,.int .i64 s,.slice none 0 0,.bool false,.slice none 0 0,.slice none 0 0,.slice none 0 0] 69)) (w.heap.size + 1 + 1) 69 [.int .i64 q,.int .i64 s,.slice none 0 0,.bool false,.slice none 0 0,.slice none 0 0,.slice none 0 0]:=BoxI.new (by simp)
  have HA0:=hidMk A0
  have HA1:=hidMk A1
  have HA2:=hidMk A2
  clear A0 A1 A2
  go_enter Tryz.func31,Tryz.ntmps31
  go_wp2_with fail
  have hB0:=hA (.cells #[.int .i64 q,.int .i64 s,.slice a n c,.bool b,.slice a1 n1 c1,.slice a2 n2 c2,.slice a3 n3 c3] 63) (.cells #[.int .i64 0,.int .i64 0,.slice none 0 0,.bool false,.slice none 0 0,.slice none 0 0,.slice none 0 0] 69) (.cells #[.int .i64 q,.int .i64 s,.slice none 0 0,.bool false,.slice none 0 0,.slice none 0 0,.slice none 0 0] 69)
  refine (toTree_any _ _ _ _ L U _ (by have:=H0.len; have:=hs.n; omega) hs.base (by have:=hB0.size; omega) (H0.below hB0 hU)).mono ?_
  rintro y w1 ⟨⟨x0,rfl,hk1⟩,hb1⟩
  have hB1 : Below w.heap.size w w1:=hB0.trans (hb1.mono hB0.size)
  have B0 : BoxI w1 w.heap.size 63 [.int .i64 q,.int .i64 s,.slice a n c,.bool b,.slice a1 n1 c1,.slice a2 n2 c2,.slice a3 n3 c3]:=HA0.out.next hb1 (by simp <;> omega)
  have B1 : BoxI w1 (w.heap.size + 1) 69 [.int .i64 0,.int .i64 0,.slice none 0 0,.bool false,.slice none 0 0,.slice none 0 0,.slice none 0 0]:=HA1.out.next hb1 (by simp <;> omega)
  have B2 : BoxI w1 (w.heap.size + 1 + 1) 69 [.int .i64 q,.int .i64 s,.slice none 0 0,.bool false,.slice none 0 0,.slice none 0 0,.slice none 0 0]:=HA2.out.next hb1 (by simp <;> omega)
  have hz1 : w.heap.size + 3 ≤ w1.heap.size:=by have:=hb1.size; simp at this; omega
  have K0 : ObjsAt w1 (w.heap.size + 3) w1.heap.size (some ⟨x0,0,none⟩) n k.base:=hk1.wide (by simp <;> omega) (Nat.le_refl _)
  have HB0:=hidMk B0
  have HB1:=hidMk B1
  have HB2:=hidMk B2
  clear HA0 HA1 HA2 hB0 hb1 hk1 hA
  obtain ⟨_,_,_,p3,p4,_,_⟩:=B0.c7
  obtain ⟨_,_,g2,g3,g4,_,_⟩:=B2.c7
  have z2:=B2.fro
  clear B0 B1 B2
  go_wp2_with fail
  have hB1' : Below w.heap.size w ((w1.setCell ⟨w.heap.size + 1 + 1,2,none⟩ (.slice (some ⟨x0,0,none⟩) n n)).setCell ⟨w.heap.size + 1 + 1,3,none⟩ (.bool b)):=(hB1.setCell (by simp <;> omega) _).setCell (by simp <;> omega) _
  refine (toOpS_any _ _ _ _ L U _ (by have:=H1.len; have:=hs.sent; unfold OpsSm at this; omega) (by have:=hB1'.size; omega) (H1.below hB1' hU)).mono ?_
  rintro y w2 ⟨⟨x1,rfl,hk2⟩,hb2⟩
  have hB2 : Below w.heap.size w w2:=hB1'.trans (hb2.mono hB1'.size)
  have B0 : BoxI w2 w.heap.size 63 [.int .i64 q,.int .i64 s,.slice a n c,.bool b,.slice a1 n1 c1,.slice a2 n2 c2,.slice a3 n3 c3]:=((HB0.out.other _ _ (by simp <;> omega)).other _ _ (by simp <;> omega)).next hb2 (by simp <;> omega)
  have B1 : BoxI w2 (w.heap.size + 1) 69 [.int .i64 0,.int .i64 0,.slice none 0 0,.bool false,.slice none 0 0,.slice none 0 0,.slice none 0 0]:=((HB1.out.other _ _ (by simp)).other _ _ (by simp)).next hb2 (by simp <;> omega)
  have B2 : BoxI w2 (w.heap.size + 1 + 1) 69 [.int .i64 q,.int .i64 s,.slice (some ⟨x0,0,none⟩) n n,.bool b,.slice none 0 0,.slice none 0 0,.slice none 0 0]:=((HB2.out.set 2 (.slice (some ⟨x0,0,none⟩) n n)).set 3 (.bool b)).next hb2 (by simp <;> omega)
  have hz2 : w1.heap.size ≤ w2.heap.size:=by have:=hb2.size; simp at this; omega
  have K0' : ObjsAt w2 (w.heap.size + 3) w1.heap.size (some ⟨x0,0,none⟩) n k.base:=K0.blocks_ fun b h1 h2=>(hb2.block b (by simp; omega)).trans (((Below.heap_setCell _ _ _ b (by simp; omega)).trans (Below.heap_setCell _ _ _ b (by simp; omega))))
  have K1 : OpsAt w2 (w.heap.size + 3) w2.heap.size (some ⟨x1,0,none⟩) n1 k.sent:=hk2.wide (by simp <;> omega) (Nat.le_refl _)
  have HB0':=hidMk B0
  have HB1':=hidMk B1
  have HB2':=hidMk B2
  clear HB0 HB1 HB2 hB1 hB1' hb2 hk2 K0 p3 p4 g2 g3 g4 z2
  obtain ⟨_,_,_,_,_,p5,_⟩:=B0.c7
  obtain ⟨_,_,_,_,g4,g5,_⟩:=B2.c7
  have z2:=B2.fro
  clear B0 B1 B2
  go_wp2_with fail
  have hB2' : Below w.heap.size w (w2.setCell ⟨w.heap.size + 1 + 1,4,none⟩ (.slice (some ⟨x1,0,none⟩) n1 n1)):=hB2.setCell (by simp <;> omega) _
  refine (toOpS_any _ _ _ _ L U _ (by have:=H2.len; have:=hs.list; unfold OpsSm at this; omega) (by have:=hB2'.size; omega) (H2.below hB2' hU)).mono ?_
  rintro y w3 ⟨⟨x2,rfl,hk3⟩,hb3⟩
  have hB3 : Below w.heap.size w w3:=hB2'.trans (hb3.mono hB2'.size)
  have B0 : BoxI w3 w.heap.size 63 [.int .i64 q,.int .i64 s,.slice a n c,.bool b,.slice a1 n1 c1,.slice a2 n2 c2,.slice a3 n3 c3]:=(HB0'.out.other _ _ (by simp <;> omega)).next hb3 (by simp <;> omega)
  have B1 : BoxI w3 (w.heap.size + 1) 69 [.int .i64 0,.int .i64 0,.slice none 0 0,.bool false,.slice none 0 0,.slice none 0 0,.slice none 0 0]:=(HB1'.out.other _ _ (by simp)).next hb3 (by simp <;> omega)
  have B2 : BoxI w3 (w.heap.size + 1 + 1) 69 [.int .i64 q,.int .i64 s,.slice (some ⟨x0,0,none⟩) n n,.bool b,.slice (some ⟨x1,0,none⟩) n1 n1,.slice none 0 0,.slice none 0 0]:=(HB2'.out.set 4 (.slice (some ⟨x1,0,none⟩) n1 n1)).next hb3 (by simp <;> omega)
  have hz3 : w2.heap.size ≤ w3.heap.size:=by have:=hb3.size; simp at this; omega
  have K0 : ObjsAt w3 (w.heap.size + 3) w1.heap.size (some ⟨x0,0,none⟩) n k.base:=K0'.blocks_ fun b h1 h2=>(hb3.block b (by simp; omega)).trans (Below.heap_setCell _ _ _ b (by simp; omega))
  have K1' : OpsAt w3 (w.heap.size + 3) w2.heap.size (some ⟨x1,0,none⟩) n1 k.sent:=K1.blocks fun b h1 h2=>(hb3.block b (by simp; omega)).trans (Below.heap_setCell _ _ _ b (by simp; omega))
  have K2 : OpsAt w3 (w.heap.size + 3) w3.heap.size (some ⟨x2,0,none⟩) n2 k.list:=hk3.wide (by simp <;> omega) (Nat.le_refl _)
  have HB0:=hidMk B0
  have HB1:=hidMk B1
  have HB2:=hidMk B2
  clear HB0' HB1' HB2' hB2 hB2' hb3 hk3 K0' K1 p5 g4 g5 z2
  obtain ⟨_,_,_,_,_,_,p6⟩:=B0.c7
  obtain ⟨_,_,_,_,_,g5,g6⟩:=B2.c7
  have z2:=B2.fro
  clear B0 B1 B2
  go_wp2_with fail
  have hB3' : Below w.heap.size w (w3.setCell ⟨w.heap.size + 1 + 1,5,none⟩ (.slice (some ⟨x2,0,none⟩) n2 n2)):=hB3.setCell (by simp <;> omega) _
  refine (toOpSS_any _ _ _ _ L U _ (by have:=H3.len; have:=hs.n3; omega) hs.shelf (by have:=hB3'.size; omega) (H3.below eltOps hB3' hU)).mono ?_
  rintro y w4 ⟨⟨x3,rfl,hk4⟩,hb4⟩
  have hB4 : Below w.heap.size w w4:=hB3'.trans (hb4.mono hB3'.size)
  have B1 : BoxI w4 (w.heap.size + 1) 69 [.int .i64 0,.int .i64 0,.slice none 0 0,.bool false,.slice none 0 0,.slice none 0 0,.slice none 0 0]:=(HB1.out.other _ _ (by simp)).next hb4 (by simp <;> omega)
  have B2 : BoxI w4 (w.heap.size + 1 + 1) 69 [.int .i64 q,.int .i64 s,.slice (some ⟨x0,0,none⟩) n n,.bool b,.slice (some ⟨x1,0,none⟩) n1 n1,.slice (some ⟨x2,0,none⟩) n2 n2,.slice none 0 0]:=(HB2.out.set 5 (.slice (some ⟨x2,0,none⟩) n2 n2)).next hb4 (by simp <;> omega)
  have hz4 : w3.heap.size ≤ w4.heap.size:=by have:=hb4.size; simp at this; omega
  have K0' : ObjsAt w4 (w.heap.size + 3) w1.heap.size (some ⟨x0,0,none⟩) n k.base:=K0.blocks_ fun b h1 h2=>(hb4.block b (by simp; omega)).trans (Below.heap_setCell _ _ _ b (by simp; omega))
  have K1 : OpsAt w4 (w.heap.size + 3) w2.heap.size (some ⟨x1,0,none⟩) n1 k.sent:=K1'.blocks fun b h1 h2=>(hb4.block b (by simp; omega)).trans (Below.heap_setCell _ _ _ b (by simp; omega))
  have K2' : OpsAt w4 (w.heap.size + 3) w3.heap.size (some ⟨x2,0,none⟩) n2 k.list:=K2.blocks fun b h1 h2=>(hb4.block b (by simp; omega)).trans (Below.heap_setCell _ _ _ b (by simp; omega))
  have K3 : RowsAt 1 OpsE w4 (w.heap.size + 3) w4.heap.size (some ⟨x3,0,none⟩) n3 k.shelf:=hk4.wide eltOps (by simp <;> omega) (Nat.le_refl _)
  have hAll : KeepAt w4 (w.heap.size + 3) w4.heap.size q s (some ⟨x0,0,none⟩) n b (some ⟨x1,0,none⟩) n1 (some ⟨x2,0,none⟩) n2 (some ⟨x3,0,none⟩) n3 k:=⟨hq.out,hqs.out,hqb.out,K0'.wide (Nat.le_refl _) (by omega),K1.wide (Nat.le_refl _) (by omega),K2'.wide (Nat.le_refl _) (by omega),K3⟩
  clear HB0 HB1 HB2 hB3 hB3' hb4 hk4 K0 K0' K1 K1' K2 K2' K3 p6 g5 g6 z2
  obtain ⟨e0,e1,e2,e3,e4,e5,e6⟩:=B1.c7
  obtain ⟨d0,d1,d2,d3,d4,d5,d6⟩:=B2.c7
  have y1:=B1.fro
  have y2:=B2.fro
  clear B1 B2
  go_wp2_with fail
  refine bodyPost_ret (v:=.agg #[.int .i64 q,.int .i64 s,.slice (some ⟨x0,0,none⟩) n n,.bool b,.slice (some ⟨x1,0,none⟩) n1 n1,.slice (some ⟨x2,0,none⟩) n2 n2,.slice (some ⟨x3,0,none⟩) n3 n3]) (by simp [results,Tryz.results31,go_sem,e0,e1,e2,e3,e4,e5,e6]) rfl ⟨⟨x0,x1,x2,x3,rfl,?_⟩,?_⟩
  · refine KeepAt.wide (L:=w.heap.size + 3) (U:=w4.heap.size) (hAll.blocks fun b h1 h2=>?_) (by omega) (by simp)
    iterate 8 refine (Below.heap_setCell _ _ _ b (by simp <;> omega)).trans ?_
    rfl
  · iterate 8 refine Below.setCell ?_ (by simp <;> omega) _
    exact hB4
theorem infoKeepS : (Tryz.prog.info? 69).map (fun i=>(i.zero.map (·.cells),i.size,i.bytes)) = some (some #[.int .i64 0,.int .i64 0,.slice none 0 0,.bool false,.slice none 0 0,.slice none 0 0,.slice none 0 0],7,120):=by kernel_rfl
set_option maxHeartbeats 2000000 in
theorem toKeepS_any (a : Option Addr) (n c : Nat) (xs : List LKeep) (L U : Nat) (w : World) (hn : n ≤ 1048576) (hS : ∀ x ∈ xs,KeepSm x) (hU : U ≤ w.heap.size) (H : RowsAt 7 KeepE w L U a n xs) :
    Calls Tryz.prog 64 #[.slice a n c] w fun e w'=>(∃ b,e = .returned (.slice (some ⟨b,0,none⟩) n n) ∧ RowsAt 7 KeepE w' w.heap.size w'.heap.size (some ⟨b,0,none⟩) n xs) ∧ Below w.heap.size w w':=by
  have hmk:=run_make_many 52 69 _ 7 120 Tryz.underlying52 infoKeepS n (by omega) (by omega)
  obtain ⟨f0,hf0⟩:=rowIs_many w #[.int .i64 0,.int .i64 0,.slice none 0 0,.bool false,.slice none 0 0,.slice none 0 0,.slice none 0 0] (n * 7) 69
  have HF0 : Hid ((w.alloc (.cells (madeCells #[.int .i64 0,.int .i64 0,.slice none 0 0,.bool false,.slice none 0 0,.slice none 0 0,.slice none 0 0] (n * 7)) 69)).rowIs w.heap.size 69 (n * 7) f0):=hf0
  clear hf0
  go_enter Tryz.func64,Tryz.ntmps64
  go_wp2
  go_loopg [4] n (fun k i wr=>∃ j : Nat,j ≤ n ∧ Hid (k = n - j) ∧ i = .int .i64 j ∧ (∃ f,Hid (wr.rowIs w.heap.size 69 (n * 7) f ∧ ∀ i,i < j → ∃ x vs,xs[i]? = some x ∧ vs.length = 7 ∧ (∀ k v,vs[k]? = some v → f (i * 7 + k) = v) ∧ KeepE wr (w.heap.size + 1) wr.heap.size vs x)) ∧ Below w.heap.size w wr)
  case atStart=>exact ⟨0,Nat.zero_le _,by show _ = _; omega,rfl,⟨f0,HF0.out,fun i hi=>by omega⟩,(Below.refl _ _).alloc (Nat.le_refl _) _⟩
  case round =>
    obtain ⟨j,hj,hk,rfl,⟨f,hf⟩,hb⟩:=hrel
    by_cases hlt : j < n
    · obtain ⟨b,off,ha,hL,hbU,hc⟩:=H.at_ (by omega)
      subst ha
      obtain ⟨x,vs,he,hc,hE⟩:=hc j hlt
      have hsx : KeepSm x:=hS x (List.mem_of_getElem? he)
      have HE : Hid (xs[j]? = some x):=he
      clear he
      obtain ⟨q,s,a1,n1,c1',b1,a2,n2,c2',a3,n3,c3',a4,n4,c4',rfl,hK⟩:=hE
      have c0:=hc 0 _ rfl
      have c1:=hc 1 _ rfl
      have c2:=hc 2 _ rfl
      have c3:=hc 3 _ rfl
      have c4:=hc 4 _ rfl
      have c5:=hc 5 _ rfl
      have c6:=hc 6 _ rfl
      simp only [Nat.add_zero] at c0
      rw [← hb.cell (by simp; omega)] at c0 c1 c2 c3 c4 c5 c6
      clear hc
      have hrl:=hf.out.1.lt
      go_wp2_with fail
      refine (toKeep_any _ _ _ _ _ _ _ _ _ _ _ _ _ _ _ x L U _ hsx (by have:=hb.size; omega) (hK.below hb hU)).mono ?_
      rintro y w1 ⟨⟨kb0,kb1,kb2,kb3,rfl,hke⟩,hb1⟩
      have hrow:=hf.out.1.of_block (hb1.block w.heap.size hf.out.1.lt)
      have g0:=hrow.cell (i:=j * 7) (by omega)
      have z0:=hrow.frozen (j * 7)
      have g1:=hrow.cell (i:=j * 7 + 1) (by omega)
      have z1:=hrow.frozen (j * 7 + 1)
      have g2:=hrow.cell (i:=j * 7 + 2) (by omega)
      have z2:=hrow.frozen (j * 7 + 2)
      have g3:=hrow.cell (i:=j * 7 + 3) (by omega)
      have z3:=hrow.frozen (j * 7 + 3)
      have g4:=hrow.cell (i:=j * 7 + 4) (by omega)
      have z4:=hrow.frozen (j * 7 + 4)
      have g5:=hrow.cell (i:=j * 7 + 5) (by omega)
      have z5:=hrow.frozen (j * 7 + 5)
      have g6:=hrow.cell (i:=j * 7 + 6) (by omega)
      have z6:=hrow.frozen (j * 7 + 6)
      have HR : Hid (w1.rowIs w.heap.size 69 (n * 7) f):=hrow
      clear hrow
      go_wp2_with fail
      go_roundg (n - (j + 1))
      case measure=>have:=hk.out; omega
      case rel =>
        have hbs:=hb1.size
        refine ⟨j + 1,by omega,rfl,by go_num,⟨_,(((((((HR.out.set (j * 7) (.int .i64 q)).set (j * 7 + 1) (.int .i64 s)).set (j * 7 + 2) (.slice (some ⟨kb0,0,none⟩) n1 n1)).set (j * 7 + 3) (.bool b1)).set (j * 7 + 4) (.slice (some ⟨kb1,0,none⟩) n2 n2)).set (j * 7 + 5) (.slice (some ⟨kb2,0,none⟩) n3 n3)).set (j * 7 + 6) (.slice (some ⟨kb3,0,none⟩) n4 n4)),fun i hi=>?_⟩,((((((((hb.trans (hb1.mono hb.size)).setCell (by simp) _).setCell (by simp) _).setCell (by simp) _).setCell (by simp) _).setCell (by simp) _).setCell (by simp) _).setCell (by simp) _)⟩
        by_cases hij : i = j
        · subst hij
          refine ⟨x,[.int .i64 q,.int .i64 s,.slice (some ⟨kb0,0,none⟩) n1 n1,.bool b1,.slice (some ⟨kb1,0,none⟩) n2 n2,.slice (some ⟨kb2,0,none⟩) n3 n3,.slice (some ⟨kb3,0,none⟩) n4 n4],HE.out,rfl,fun k v hv=>?_,?_⟩
          · have hkk : k < 7:=(List.getElem?_eq_some_iff.1 hv).1
            have hcase : k = 0 ∨ k = 1 ∨ k = 2 ∨ k = 3 ∨ k = 4 ∨ k = 5 ∨ k = 6:=by omega
            rcases hcase with rfl | rfl | rfl | rfl | rfl | rfl | rfl
            all_goals (simp at hv ⊢; exact hv)
          · refine eltKeep.blocks (w:=w1) (⟨_,_,_,_,_,_,_,_,_,_,_,_,_,_,_,rfl,hke.wide (by omega) (by simp)⟩) fun b h1 h2=>?_
            iterate 7 refine (Below.heap_setCell _ _ _ b (by simp; omega)).trans ?_
            rfl
        · obtain ⟨x',vs',he',hl',q0,qk⟩:=hf.out.2 i (by omega)
          refine ⟨x',vs',he',hl',fun k v hv=>?_,?_⟩
          · have hkk : k < 7:=by rw [← hl']; exact (List.getElem?_eq_some_iff.1 hv).1
            have hd:=q0 k v hv
            show (if i * 7 + k = j * 7 + 6 then _ else if i * 7 + k = j * 7 + 5 then _ else if i * 7 + k = j * 7 + 4 then _ else if i * 7 + k = j * 7 + 3 then _ else if i * 7 + k = j * 7 + 2 then _ else if i * 7 + k = j * 7 + 1 then _ else if i * 7 + k = j * 7 then _ else f (i * 7 + k)) = v
            rw [if_neg (by omega)]
            rw [if_neg (by omega)]
            rw [if_neg (by omega)]
            rw [if_neg (by omega)]
            rw [if_neg (by omega)]
            rw [if_neg (by omega)]
            rw [if_neg (by omega)]
            exact hd
          · refine eltKeep.wide (eltKeep.blocks (eltKeep.below qk hb1 (Nat.le_refl _)) fun b h1 h2=>?_) (Nat.le_refl _) (by simp <;> omega)
            iterate 7 refine (Below.heap_setCell _ _ _ b (by simp; omega)).trans ?_
            rfl
    · go_wp2_with fail
      go_ret
      refine ⟨⟨w.heap.size,rfl,H.len,H.bd,fun hn0=>⟨w.heap.size,0,rfl,Nat.le_refl _,hf.out.1.lt,fun i hi=>?_⟩⟩,hb⟩
      obtain ⟨x',vs',he',hl',q0,qk⟩:=hf.out.2 i (by omega)
      refine ⟨x',vs',he',fun k v hv=>?_,eltKeep.wide qk (by omega) (Nat.le_refl _)⟩
      have hkk : k < 7:=by rw [← hl']; exact (List.getElem?_eq_some_iff.1 hv).1
      rw [Nat.zero_add,hf.out.1.cell (by omega),q0 k v hv]
end Go.Proofs.YtloopeipheklpaaGreatDoor
