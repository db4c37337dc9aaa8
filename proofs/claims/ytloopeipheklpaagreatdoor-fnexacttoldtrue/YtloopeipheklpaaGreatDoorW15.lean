/- Lemmas that the proofs of this seat share: Facts2, FrAll, CloneA, InsA. -/
import Derived.Test.YtloopeipheklpaaGreatDoorW14
import Derived.Test.YtloopeipheklpaaGreatDoorW08
import Derived.Deep.QuietTactic
import Derived.BigQuiet
import Derived.Test.YtloopeipheklpaaGreatDoorW07
import Derived.Deep.Upon
import Derived.Laws.CopyRow
import Derived.Lib.AppendZerosOnto
import Derived.Lib.Overlaps
namespace Go.Proofs.YtloopeipheklpaaGreatDoor
section
open Go.RowKit
def it (os : List LObj) : Nat → Int → Int
  | 0,id=>id
  | k + 1,id=>it os k (homeIn (flat os) id)
theorem it_add (os : List LObj) : ∀ (j k : Nat) (id : Int),it os (j + k) id = it os k (it os j id)
  | 0,k,id=>by simp [it]
  | j + 1,k,id=>by
    have : j + 1 + k = (j + k) + 1:=by omega
    rw [this,it,it,it_add os j k]
theorem home_neg {os : List LObj} (hs : specOk os = true) {id : Int} (h : id ≤ 0) : homeIn (flat os) id = -1:=by
  have hi:=(specOk_iff os).1 hs
  refine homeIn_off fun x hx e=>?_
  obtain ⟨k,e1,k1,k2⟩:=flat_ids (ids_of_ok hi.2.1) hx
  omega
theorem it_neg {os : List LObj} (hs : specOk os = true) : ∀ (k : Nat) {id : Int},id < 0 → it os k id < 0
  | 0,_,h=>h
  | k + 1,id,h=>by
    rw [it,home_neg hs (by omega)]
    exact it_neg hs k (by omega)
theorem under_iff {os : List LObj} (hs : specOk os = true) (dir : Int) : ∀ (k : Nat) (id : Int),under os dir k id = true ↔ 0 ≤ dir ∧ ∃ j,j < k ∧ it os j id = dir
  | 0,id=>by simp [under]
  | k + 1,id=>by
    unfold under
    by_cases h0 : 0 ≤ id
    · rw [if_pos h0]
      by_cases he : id = dir
      · rw [if_pos he]
        simp
        exact ⟨by omega,0,by omega,he⟩
      · rw [if_neg he,under_iff hs dir k]
        constructor
        · rintro ⟨h1,j,h2,h3⟩
          exact ⟨h1,j + 1,by omega,h3⟩
        · rintro ⟨h1,j,h2,h3⟩
          cases j with
          | zero=>exact absurd h3 he
          | succ j=>exact ⟨h1,j,by omega,h3⟩
    · rw [if_neg h0]
      simp
      intro h1 j _ h3
      have:=it_neg hs j (id:=id) (by omega)
      omega
theorem climb_it (os : List LObj) : ∀ (k : Nat) (id : Int),climb os k id = 0 → ∃ m,m ≤ k ∧ it os m id = 0
  | 0,id,h=>⟨0,Nat.le_refl _,h⟩
  | k + 1,id,h=>by
    by_cases h0 : 0 < id
    · rw [climb_step os k h0] at h
      obtain ⟨m,hm,e⟩:=climb_it os k _ h
      exact ⟨m + 1,by omega,e⟩
    · rw [climb_stop os (k + 1) h0] at h
      exact ⟨0,by omega,h⟩
theorem depth {os : List LObj} (hs : specOk os = true) {id : Int} (h : hasB os id = true) : ∃ m,m ≤ 32 ∧ it os m id = 0:=by
  have hi:=(specOk_iff os).1 hs
  simp [hasB] at h
  have hc:=hi.2.2.2.2 id.toNat (by omega) h.2
  have e : ((id.toNat : Nat) : Int) = id:=by omega
  rw [e] at hc
  obtain ⟨m,hm,e⟩:=climb_it os 31 id hc
  exact ⟨m,by omega,e⟩
theorem depth31 {os : List LObj} (hs : specOk os = true) {id : Int} (h : hasB os id = true) : ∃ m,m ≤ 31 ∧ it os m id = 0:=by
  have hi:=(specOk_iff os).1 hs
  simp [hasB] at h
  have hc:=hi.2.2.2.2 id.toNat (by omega) h.2
  have e : ((id.toNat : Nat) : Int) = id:=by omega
  rw [e] at hc
  exact climb_it os 31 id hc
theorem it_end {os : List LObj} (hs : specOk os = true) {id : Int} {m j : Nat} (hm : it os m id = 0) (hj : 0 ≤ it os j id) : j ≤ m:=by
  apply Classical.byContradiction
  intro hn
  obtain ⟨k,rfl⟩ : ∃ k,j = m + (k + 1):=⟨j - m - 1,by omega⟩
  rw [it_add,hm,it,home_neg hs (by omega)] at hj
  have:=it_neg hs k (id:=-1) (by omega)
  omega
theorem has_iff (os : List LObj) (id : Int) : hasB os id = true ↔ 0 ≤ id ∧ id < 32 ∧ kindOf os id.toNat ≠ 0:=by
  simp [hasB]; omega
theorem kids_dir {o : LObj} (h : objB o = true) (hk : o.kids ≠ []) : o.kind = 2 ∧ kidsB o.kids = true:=by
  unfold objB at h
  rw [Bool.and_eq_true] at h
  have h2:=h.2
  have hn : ¬ nil? o.kids.length = true:=by
    unfold nil?
    simp
    exact hk
  unfold partsB at h2
  split at h2
  · rw [Bool.and_eq_true] at h2; exact absurd h2.2 hn
  · split at h2
    · rw [Bool.and_eq_true] at h2; exact absurd h2.2 hn
    · split at h2
      · next h3=>rw [Bool.and_eq_true] at h2; exact ⟨h3,h2.2⟩
      · cases h2
end
section
open Go.RowKit
theorem less_self (l : List UInt8) : Op.bytesLess l l = false:=by
  induction l with
  | nil=>simp [Op.bytesLess]
  | cons x t ih=>simp [Op.bytesLess,ih]
end
section
open Go.RowKit
theorem OwnT.setKids {w : World} {B b c : Nat} {os : List LObj} {vs : Nat → Value} (h : OwnT w B b c os vs) {i : Nat} {o : LObj} (ho : os[i]? = some o) {v : Value} {es : List LEnt} (hv : OwnEnts w B v es) (hs : ∀ e ∈ es,e.name.size ≤ maxLen)
    (ha : ∀ j g,j < os.length → j ≠ i → v.ownBlock = some g → (vs j).ownBlock ≠ some g) : OwnT (w.setCell ⟨b,i * 4 + 3,none⟩ v) B b c (os.set i { o with kids:=es }) (fun j=>if j = i then v else vs j):=by
  obtain ⟨cur,hg,hcs,hlc,hcm⟩:=h.row
  have hlt : i < os.length:=(List.getElem?_eq_some_iff.1 ho).1
  refine ⟨h.lo,⟨_,heap_setCell_same w b (i * 4 + 3) cur 165 _ hg,by simpa using hcs,by simpa using hlc,hcm⟩,fun j p hp=>?_,fun j k g hj hk hjk=>?_⟩
  · by_cases hji : j = i
    · subst hji
      rw [List.getElem?_set_self hlt] at hp
      simp at hp; subst hp
      obtain ⟨h1,h2,h3,h4,h5,h6,h7⟩:=h.at_ j o ho
      simp only [if_true]
      refine ⟨h1,?_,?_,?_,?_,kept_set hv (h.kids_ne hv),hs⟩
      · rw [World.cell?_setCell_other _ _ _ _ (by simp)]; exact h2
      · rw [World.cell?_setCell_other _ _ _ _ (by simp)]; exact h3
      · rw [World.cell?_setCell_other _ _ _ _ (by simp)]; exact h4
      · rw [World.cell?_setCell_same _ _ _ h5]
    · rw [List.getElem?_set_ne (Ne.symm hji)] at hp
      obtain ⟨h1,h2,h3,h4,h5,h6,h7⟩:=h.at_ j p hp
      simp only [if_neg hji]
      refine ⟨h1,?_,?_,?_,?_,kept_set h6 (h.kids_ne h6),h7⟩ <;> (rw [World.cell?_setCell_other _ _ _ _ (by simp <;> omega)]; assumption)
  · simp at hj hk
    by_cases hji : j = i
    · have hki : k ≠ i:=fun e=>hjk (by rw [hji,e])
      simp only [if_pos hji,if_neg hki]
      exact ha k g hk hki
    · by_cases hki : k = i
      · simp only [if_neg hji,if_pos hki]
        exact fun e1 e2=>ha j g hj hji e2 e1
      · simp only [if_neg hji,if_neg hki]
        exact h.apart j k g hj hk hjk
theorem OwnT.putKids {w w' : World} {B b c : Nat} {os : List LObj} {vs : Nat → Value} (h : OwnT w B b c os vs) {i : Nat} {o : LObj} (ho : os[i]? = some o) {row : Option Nat} (hg : w.grownBy w' row) (hrow : row = none ∨ row = (vs i).ownBlock) {v : Value} {es : List LEnt} (hv : OwnEnts w' B v es) (hs : ∀ e ∈ es,e.name.size ≤ maxLen)
    (hat : ∀ g,v.ownBlock = some g → (vs i).ownBlock = some g ∨ w.heap.size ≤ g) : OwnT (w'.setCell ⟨b,i * 4 + 3,none⟩ v) B b c (os.set i { o with kids:=es }) (fun j=>if j = i then v else vs j):=by
  have hlt : i < os.length:=(List.getElem?_eq_some_iff.1 ho).1
  obtain ⟨cur,hr,hcs,hlc,hcm⟩:=h.row
  obtain ⟨q1,q2,q3,q4,q5,q6,q7⟩:=h.at_ i o ho
  have hbr : some b ≠ row:=by
    rcases hrow with rfl | rfl
    · simp
    · exact fun e=>h.kids_ne q6 e.symm
  have hcell : ∀ k,w'.cell? ⟨b,k,none⟩ = w.cell? ⟨b,k,none⟩:=fun k=>hg.cell_far _ h.lt hbr
  have hr' : w'.heap[b]? = some (.cells cur 165 (0,0)):=by rw [hg.block b h.lt hbr]; exact hr
  have hvb : v.ownBlock ≠ some b:=by
    intro e
    rcases hat b e with h1 | h1
    · exact h.kids_ne q6 h1
    · have:=h.lt; omega
  have hothers : ∀ j p,os[j]? = some p → j ≠ i → OwnEnts w' B (vs j) p.kids:=fun j p hp hji=>by
    obtain ⟨h1,h2,h3,h4,h5,h6,h7⟩:=h.at_ j p hp
    have hlj : j < os.length:=(List.getElem?_eq_some_iff.1 hp).1
    refine World.ownsRow.kept h6 hg ?_
    rcases hrow with rfl | rfl
    · cases hx : (vs j).ownBlock <;> simp
    · cases hx : (vs j).ownBlock with
      | none=>simp
      | some g=>exact .inr (fun e=>h.apart j i g hlj hlt hji hx e.symm)
  refine ⟨h.lo,⟨_,heap_setCell_same w' b (i * 4 + 3) cur 165 _ hr',by simpa using hcs,by simpa using hlc,hcm⟩,fun j p hp=>?_,fun j k g hj hk hjk=>?_⟩
  · by_cases hji : j = i
    · subst hji
      rw [List.getElem?_set_self hlt] at hp
      simp at hp; subst hp
      simp only [if_true]
      refine ⟨q1,?_,?_,?_,?_,kept_set hv hvb,hs⟩
      · rw [World.cell?_setCell_other _ _ _ _ (by simp),hcell]; exact q2
      · rw [World.cell?_setCell_other _ _ _ _ (by simp),hcell]; exact q3
      · rw [World.cell?_setCell_other _ _ _ _ (by simp),hcell]; exact q4
      · rw [World.cell?_setCell_same _ _ _ (by rw [hcell]; exact q5)]
    · rw [List.getElem?_set_ne (Ne.symm hji)] at hp
      obtain ⟨h1,h2,h3,h4,h5,h6,h7⟩:=h.at_ j p hp
      simp only [if_neg hji]
      refine ⟨h1,?_,?_,?_,?_,kept_set (hothers j p hp hji) (h.kids_ne h6),h7⟩ <;> (rw [World.cell?_setCell_other _ _ _ _ (by simp <;> omega),hcell]; assumption)
  · simp at hj hk
    have hother : ∀ k,k < os.length → k ≠ i → ∀ g,v.ownBlock = some g → (vs k).ownBlock ≠ some g:=fun k hk hki g e1 e2=>by
      rcases hat g e1 with h1 | h1
      · exact h.apart k i g hk hlt hki e2 h1
      · obtain ⟨p,hp⟩ : ∃ p,os[k]? = some p:=⟨os[k],by simp⟩
        have:=((h.at_ k p hp).2.2.2.2.2.1.lt g e2).2
        omega
    by_cases hji : j = i
    · have hki : k ≠ i:=fun e=>hjk (by rw [hji,e])
      simp only [if_pos hji,if_neg hki]
      exact hother k hk hki g
    · by_cases hki : k = i
      · simp only [if_neg hji,if_pos hki]
        exact fun e1 e2=>hother j hj hji g e2 e1
      · simp only [if_neg hji,if_neg hki]
        exact h.apart j k g hj hk hjk
end
section
open Go.RowKit
theorem OwnEnts.bare (w : World) (B : Nat) : OwnEnts w B (.slice none 0 0) []:=⟨rfl,.inl ⟨rfl,rfl⟩⟩
theorem step_app_nil (w : World) {ops : Array Oper} {o : Oper} {a : Act} {K : Act → World → Prop} {Q : Exit → Act → World → Prop} {E : Prop} (hgd : o.guard = none) (s x : Operand)
    (ho : o.op = .call { callee:=.builtin .append,args:=#[s,x],argTypes:=#[163,163] }) (B : Nat) (y : LEnt) (ad : Addr) (c : Nat)
    (hs : a.eval s = .slice none 0 0) (hx : a.eval x = .slice (some ad) 1 c)
    (hnews : ∀ j u,(entCells [y])[j]? = some u → w.cell? (ad.add j) = some u) (hB : B ≤ w.heap.size)
    (h : ∀ g' cap' w',OwnEnts w' B (.slice (some ⟨g',0,none⟩) 1 cap') [y] → w.grownBy w' none → Hid (g' = w.heap.size) → K (a.put o.dst (.slice (some ⟨g',0,none⟩) 1 cap')) w') :
    if Region.wanted o (yielded ops a.tmps) = true then Oper.wp Tryz.prog o a w K Q else E:=by
  have hw : Region.wanted o (yielded ops a.tmps) = true:=by simp [Region.wanted,hgd]
  rw [if_pos hw]
  obtain ⟨i0,hi,hz0,hz1,hz2⟩:=info_parts info47'
  obtain ⟨v',w',hr,h2,h3,h4,h5⟩:=run_append_own_at (P:=Tryz.prog) w B 163 o.type 247 i0 _ 2 24 Tryz.underlying163 hi hz0 hz1 hz2 rfl (by decide) _ _ _ (OwnEnts.bare w B) ad 1 c (entCells [y]) (entCells_len _) hnews (entCells_one _) (by simp [maxLen]) (by simp) hB
  have h2':=h2
  rcases h2.2 with ⟨hv,_⟩ | ⟨g',cap',cur,rfl,hb,hg,_⟩
  · have:=(h4.1 hv).2; simp at this
  · have h5' : g' = w.heap.size:=by simpa [Value.ownBlock] using h5
    unfold Oper.wp execOp
    simp only [ho,resolve,invoke,builtin,Sem.run_bind,Sem.run_pure,Result.andThen_ok,List.map_toArray,List.map_cons,List.map_nil,hs,hx,hr]
    exact h g' cap' w' (by simpa [OwnEnts,entCells] using h2') (by simpa [Value.ownBlock] using h3) h5'
theorem step_app_zero (w : World) {ops : Array Oper} {o : Oper} {a : Act} {K : Act → World → Prop} {Q : Exit → Act → World → Prop} {E : Prop} (hgd : o.guard = none) (s x : Operand)
    (ho : o.op = .call { callee:=.builtin .append,args:=#[s,x],argTypes:=#[163,163] }) (B g n cap : Nat) (l : List LEnt) (hn : n = l.length) (hown : OwnEnts w B (.slice (some ⟨g,0,none⟩) n cap) l) (ka : Option Addr) (kc : Nat)
    (hs : a.eval s = .slice (some ⟨g,0,none⟩) n cap) (hx : a.eval x = .slice ka 0 kc)
    (h : K (a.put o.dst (.slice (some ⟨g,0,none⟩) (n + 0) cap)) w) :
    if Region.wanted o (yielded ops a.tmps) = true then Oper.wp Tryz.prog o a w K Q else E:=by
  have hw : Region.wanted o (yielded ops a.tmps) = true:=by simp [Region.wanted,hgd]
  rw [if_pos hw]
  obtain ⟨i0,hi,hz0,hz1,hz2⟩:=info_parts info47'
  have hle : n ≤ cap:=by
    rcases hown.2 with ⟨h',_⟩ | ⟨g',cap',cur,h',_,_,hnc,_⟩
    · simp at h'
    · simp at h'; omega
  have hsrc : Src Tryz.prog i0.size 163 (.slice ka 0 kc) 0 [] w:=by
    cases ka with
    | none=>exact Src.ofNil w Tryz.underlying163 kc
    | some ad=>exact Src.ofSlice w Tryz.underlying163 ad 0 kc [] (by simp) (fun j u hu=>by simp at hu) (fun u hu=>by simp at hu)
  have hrun:=run_append_nothing (P:=Tryz.prog) w 163 163 o.type 247 i0 Tryz.underlying163 hi (some ⟨g,0,none⟩) n cap hle _ hsrc
  unfold Oper.wp execOp
  simp only [ho,resolve,invoke,builtin,Sem.run_bind,Sem.run_pure,Result.andThen_ok,List.map_toArray,List.map_cons,List.map_nil,hs,hx,hrun]
  exact h
def PutV (w : World) (B : Nat) (v : Value) (x : LEnt) (es : List LEnt) (e : Ending) (w' : World) : Prop :=
  ∃ v',e = .returned v' ∧ OwnEnts w' B v' (putL x es) ∧ w.grownBy w' v.ownBlock ∧ ∀ g,v'.ownBlock = some g → v.ownBlock = some g ∨ w.heap.size ≤ g
set_option maxHeartbeats 1000000 in
set_option maxRecDepth 20000 in
theorem put_nil (B : Nat) (x : LEnt) (w : World) (hB : B ≤ w.heap.size) :
    Calls Tryz.prog 209 #[.slice none 0 0,.agg #[.string x.name,.int .i64 x.id]] w fun e w'=>PutV w B (.slice none 0 0) x [] e w':=by
  go_enter Tryz.func209,Tryz.ntmps209
  go_wp2_with fail
  go_loopg [5] 0 (fun k i wr=>i = .int .i64 0 ∧ Hid (∃ m,wr = (w.alloc (.cells #[.string x.name,.int .i64 x.id] 247)).drewN m))
  case atStart=>exact ⟨rfl,0,rfl⟩
  case round =>
    obtain ⟨rfl,hwr⟩:=hrel
    have hbx : wr.cell? ⟨w.heap.size,0,none⟩ = some (.string x.name):=by obtain ⟨m,rfl⟩:=hwr.out; show World.cell? (w.alloc _) _ = _; simp [go_sem]
    go_wp2_with fail
    go_quiet (fail)
    obtain ⟨W,hW⟩ : ∃ W,Hid (W = wr.drewN nq):=⟨_,rfl⟩
    rw [← hW.out]
    have HWsz : W.heap.size = w.heap.size + 1:=by rw [hW.out]; obtain ⟨m,hm⟩:=hwr.out; rw [hm]; simp
    have hW0 : W.cell? ⟨w.heap.size,0,none⟩ = some (.string x.name):=by rw [hW.out]; obtain ⟨m,hm⟩:=hwr.out; rw [hm]; show World.cell? (w.alloc _) _ = _; simp [go_sem]
    have hW1 : W.cell? ⟨w.heap.size,1,none⟩ = some (.int .i64 x.id):=by rw [hW.out]; obtain ⟨m,hm⟩:=hwr.out; rw [hm]; show World.cell? (w.alloc _) _ = _; simp [go_sem]
    have hWg : Hid (w.grownBy W none):=by
      show World.grownBy _ _ _
      rw [hW.out]; obtain ⟨m,hm⟩:=hwr.out; rw [hm]
      exact ⟨rfl,rfl,rfl,by simp,fun k hk _=>(World.grownBy_alloc w _ none).block k hk (by simp)⟩
    have HWS : Hid (W.heap.size = w.heap.size + 1):=HWsz
    clear hbx HWsz
    go_wp2_with (first
      | (at_builtin; refine wpList_app_zero _ rfl _ _ rfl W.heap.size W.heap.size 0 0 [] rfl (OwnEnts.empty W _ (Nat.le_refl _)) none 0 rfl rfl ?_)
      | go_in)
    intro g1 cap1 w1 hend1
    have hWsz:=HWS.out
    have hbx0 : w1.cell? ⟨w.heap.size,0,none⟩ = some (.string x.name):=by
      rw [hend1.grown.cell_far _ (by simp; omega) (by simp; omega),(World.grownBy_alloc W _ none).cell_far _ (by simp; omega) (by simp)]; exact hW0
    have hbx1 : w1.cell? ⟨w.heap.size,1,none⟩ = some (.int .i64 x.id):=by
      rw [hend1.grown.cell_far _ (by simp; omega) (by simp; omega),(World.grownBy_alloc W _ none).cell_far _ (by simp; omega) (by simp)]; exact hW1
    have hG1 : Hid (w.grownBy w1 none):=hWg.out.trans ((World.grownBy_alloc W (Obj.cells #[] 247) none).andThen hend1.grown (fun k hk=>by simp at hk; omega))
    have hzz : W.heap.size + 1 ≤ w1.heap.size:=by simpa using hend1.grown.size
    clear hend1 hWsz
    have hBw : B ≤ w1.heap.size:=by have:=HWS.out; omega
    go_wp2_with fail
    go_region_law (first
      | ((refine step_app_nil _ rfl (.tmp 30) (.tmp 32) rfl B x ⟨w1.heap.size,0,none⟩ 1 (by simp [Act.eval]) (by simp [Act.eval]) (fun i u hu=>two_at hu) (by simp; omega) ?_; intro g2 cap2 w2 hown2 hgr2 hat2))
      | ((refine step_app_zero _ rfl (.tmp 33) (.tmp 34) rfl B g2 1 cap2 [x] rfl hown2 (some ⟨g1,0,none⟩) cap1 (by simp [Act.eval]) (by simp [Act.eval]) ?_)))
    all_goals
      go_wp2_with fail
      go_ret
      have hz2:=hat2.out
      have hws:=HWS.out
      simp at hz2
      refine ⟨_,rfl,?_,?_,fun g hg=>.inr ?_⟩
      · exact hown2
      · refine (hG1.out.trans ((World.grownBy_alloc w1 (Obj.cells #[Value.string x.name,Value.int IntKind.i64 x.id] 247) none).trans ?_)).trans hgr2
        exact ⟨rfl,rfl,rfl,Nat.le_refl _,fun _ _ _=>rfl⟩
      · have hg' : g2 = g:=Option.some.inj hg
        omega
theorem put_val (B : Nat) (v : Value) (es : List LEnt) (x : LEnt) (w : World) (hn2 : es.length ≤ 1000000) (hB : B ≤ w.heap.size) (H : OwnEnts w B v es) :
    Calls Tryz.prog 209 #[v,.agg #[.string x.name,.int .i64 x.id]] w fun e w'=>PutV w B v x es e w':=by
  have H':=H
  rcases H.2 with ⟨rfl,h0⟩ | ⟨g,cap,cur,rfl,_⟩
  · obtain rfl : es = []:=List.eq_nil_of_length_eq_zero h0
    exact put_nil B x w hB
  · refine (put_any B g cap es.length es x w rfl hn2 hB H').mono ?_
    rintro e w' ⟨g',cap',rfl,h1,h2,h3⟩
    refine ⟨_,rfl,?_,h2,fun k hk=>?_⟩
    · exact h1
    · simp [Value.ownBlock] at hk ⊢
      omega
end
section
open Go.RowKit
def Kt (w w' : World) (b n : Nat) (vs : Nat → Value) : Prop:=∀ q,q < w.heap.size → q ≠ b → (∀ i,i < n → (vs i).ownBlock ≠ some q) → w'.heap[q]? = w.heap[q]?
def DoEnd (w : World) (B b c n : Nat) (vs : Nat → Value) (r : List LObj × Int) (e : Ending) (w' : World) : Prop :=
  ∃ vs',e = .returned (.tuple #[.agg #[.slice (some ⟨b,0,none⟩) r.1.length c],.int .i64 r.2]) ∧ OwnT w' B b c r.1 vs' ∧ Below B w w' ∧ Kt w w' b n vs
theorem Kt.of_below {w W : World} (h : Below w.heap.size w W) (b n : Nat) (vs : Nat → Value) : Kt w W b n vs:=fun q hq _ _=>h.block q hq
theorem Kt.step {w W W' : World} {b n : Nat} {vs : Nat → Value} (h : Kt w W b n vs) (hs : ∀ q,q < w.heap.size → q ≠ b → (∀ i,i < n → (vs i).ownBlock ≠ some q) → W'.heap[q]? = W.heap[q]?) : Kt w W' b n vs:=fun q h1 h2 h3=>(hs q h1 h2 h3).trans (h q h1 h2 h3)
theorem Kt.set {w W : World} {b n : Nat} {vs : Nat → Value} (h : Kt w W b n vs) (k : Nat) (v : Value) : Kt w (W.setCell ⟨b,k,none⟩ v) b n vs:=h.step fun q _ h2 _=>Below.heap_setCell W ⟨b,k,none⟩ v q h2
theorem Kt.setNew {w W : World} {b n : Nat} {vs : Nat → Value} (h : Kt w W b n vs) {g : Nat} (hg : w.heap.size ≤ g) (k : Nat) (v : Value) : Kt w (W.setCell ⟨g,k,none⟩ v) b n vs:=h.step fun q h1 _ _=>Below.heap_setCell W ⟨g,k,none⟩ v q (by simp; omega)
theorem Kt.turn {w W W' : World} {b n : Nat} {vs : Nat → Value} (h : Kt w W b n vs) (hs : w.heap.size ≤ W.heap.size) (hg : W.grownBy W' (some b)) : Kt w W' b n vs:=h.step fun q h1 h2 _=>hg.block q (by omega) (by simpa using h2)
theorem OwnT.below {w w' : World} {B b c : Nat} {os : List LObj} {vs : Nat → Value} (h : OwnT w B b c os vs) (hb : Below w.heap.size w w') : OwnT w' B b c os vs :=
  h.grown (row:=none) ⟨hb.os,hb.tape,hb.output,hb.size,fun k hk _=>hb.block k hk⟩ (by simp) fun i _=>by cases hv : (vs i).ownBlock <;> simp
structure Fr (A : Nat) (W : World) (b c n : Nat) (o : LOp) : Prop where
  size : A + 1 + 1 < W.heap.size
  t : W.cell? ⟨A,0,none⟩ = some (.slice (some ⟨b,0,none⟩) n c)
  o0 : W.cell? ⟨A + 1,0,none⟩ = some (.int .i64 o.kind)
  o1 : W.cell? ⟨A + 1,1,none⟩ = some (.int .i64 o.dir)
  o2 : W.cell? ⟨A + 1,2,none⟩ = some (.string o.name)
  o3 : W.cell? ⟨A + 1,3,none⟩ = some (.int .i64 o.dir2)
  o4 : W.cell? ⟨A + 1,4,none⟩ = some (.string o.name2)
  o5 : W.cell? ⟨A + 1,5,none⟩ = some (.int .i64 o.id)
  o6 : W.cell? ⟨A + 1,6,none⟩ = some (.string o.text)
  r : ∃ f,W.rowIs (A + 1 + 1) 26 1 f
  tb : ∃ f,W.rowIs A 26 1 f
theorem Fr.start (w : World) (b c n : Nat) (o : LOp) (v : Value) : Fr w.heap.size (((w.alloc (.cells #[.slice (some ⟨b,0,none⟩) n c] 26)).alloc (.cells #[.int .i64 o.kind,.int .i64 o.dir,.string o.name,.int .i64 o.dir2,.string o.name2,.int .i64 o.id,.string o.text] 130)).alloc (.cells #[v] 26)) b c n o :=
  ⟨by simp,by simp [go_sem],by simp [go_sem],by simp [go_sem],by simp [go_sem],by simp [go_sem],by simp [go_sem],by simp [go_sem],by simp [go_sem],⟨fun _=>v,by simpa using World.rowIs_alloc ((w.alloc (.cells #[.slice (some ⟨b,0,none⟩) n c] 26)).alloc (.cells #[.int .i64 o.kind,.int .i64 o.dir,.string o.name,.int .i64 o.dir2,.string o.name2,.int .i64 o.id,.string o.text] 130)) #[v] 26 (fun _=>v) (fun i hi=>by simp at hi; subst hi; rfl)⟩,⟨fun _=>.slice (some ⟨b,0,none⟩) n c,((World.rowIs_alloc w #[.slice (some ⟨b,0,none⟩) n c] 26 (fun _=>.slice (some ⟨b,0,none⟩) n c) (fun i hi=>by simp at hi; subst hi; rfl)).alloc _).alloc _⟩⟩
theorem Fr.of_blocks {A b c n : Nat} {W W' : World} {o : LOp} (h : Fr A W b c n o) (hs : W.heap.size ≤ W'.heap.size) (hb : ∀ q,A ≤ q → q ≤ A + 1 + 1 → W'.heap[q]? = W.heap[q]?) : Fr A W' b c n o:=by
  have c0 : ∀ i,W'.cell? ⟨A,i,none⟩ = W.cell? ⟨A,i,none⟩:=fun i=>World.cell?_of_block (w:=W) (hb A (Nat.le_refl _) (by omega))
  have c1 : ∀ i,W'.cell? ⟨A + 1,i,none⟩ = W.cell? ⟨A + 1,i,none⟩:=fun i=>World.cell?_of_block (w:=W) (hb (A + 1) (by omega) (by omega))
  obtain ⟨x,hx⟩:=h.r
  obtain ⟨y,hy⟩:=h.tb
  exact ⟨by have:=h.size; omega,by rw [c0]; exact h.t,by rw [c1]; exact h.o0,by rw [c1]; exact h.o1,by rw [c1]; exact h.o2,by rw [c1]; exact h.o3,by rw [c1]; exact h.o4,by rw [c1]; exact h.o5,by rw [c1]; exact h.o6,⟨x,hx.of_block (hb _ (by omega) (Nat.le_refl _))⟩,⟨y,hy.of_block (hb _ (Nat.le_refl _) (by omega))⟩⟩
theorem Fr.next {A b c n : Nat} {W W' : World} {o : LOp} (h : Fr A W b c n o) (hb : Below W.heap.size W W') : Fr A W' b c n o :=
  h.of_blocks hb.size fun q _ h2=>hb.block q (by have:=h.size; omega)
theorem Fr.res {A b c n : Nat} {W : World} {o : LOp} (h : Fr A W b c n o) : (∃ x,W.cell? ⟨A + 1 + 1,0,none⟩ = some x) ∧ W.frozen? ⟨A + 1 + 1,0,none⟩ = false:=by
  obtain ⟨x,hx⟩:=h.r
  exact ⟨⟨_,hx.cell (by omega)⟩,hx.frozen 0⟩
theorem OwnT.setBox {W : World} {B b c q : Nat} {os : List LObj} {vs : Nat → Value} (h : OwnT W B b c os vs) (hq' : ∃ f,W.rowIs q 26 1 f) (k : Nat) (v : Value) : OwnT (W.setCell ⟨q,k,none⟩ v) B b c os vs:=by
  obtain ⟨f,cs,hq,_⟩:=hq'
  obtain ⟨cur,hr,_⟩:=h.row
  refine h.grown (row:=some q) ⟨rfl,rfl,rfl,by simp,fun i _ hi=>Below.heap_setCell W ⟨q,k,none⟩ v i (by intro e; exact hi (by simp [e]))⟩ ?_ fun i hi=>?_
  · intro e
    simp at e
    subst e
    rw [hr] at hq
    simp at hq
  · have ho : os[i]? = some os[i]:=by simp [hi]
    obtain ⟨_,_,_,_,_,h6,_⟩:=h.at_ i _ ho
    rcases h6.2 with ⟨hn,_⟩ | ⟨g,cap,cur',hn,_,hg,_⟩
    · left; rw [hn]; rfl
    · right
      rw [hn]
      intro e
      simp [Value.ownBlock] at e
      subst e
      rw [hg] at hq
      simp at hq
def put4 (W : World) (b i : Nat) (k v : Int) : World:=(((W.setCell ⟨b,i * 4,none⟩ (.int .i64 k)).setCell ⟨b,i * 4 + 1,none⟩ (.int .i64 v)).setCell ⟨b,i * 4 + 2,none⟩ (.string ⟨#[]⟩)).setCell ⟨b,i * 4 + 3,none⟩ (.slice none 0 0)
theorem put4_size (W : World) (b i : Nat) (k v : Int) : (put4 W b i k v).heap.size = W.heap.size:=by simp [put4]
theorem put4_block (W : World) (b i : Nat) (k v : Int) {q : Nat} (h : q ≠ b) : (put4 W b i k v).heap[q]? = W.heap[q]?:=by
  unfold put4
  rw [Below.heap_setCell _ _ _ q (by simpa using h),Below.heap_setCell _ _ _ q (by simpa using h),Below.heap_setCell _ _ _ q (by simpa using h),Below.heap_setCell _ _ _ q (by simpa using h)]
theorem put4_below {w W : World} {B b : Nat} (i : Nat) (k v : Int) (h : Below B w W) (hb : B ≤ b) : Below B w (put4 W b i k v) :=
  (((h.setCell (by simpa using hb) _).setCell (by simpa using hb) _).setCell (by simpa using hb) _).setCell (by simpa using hb) _
theorem OwnT.put4 {W : World} {B b c i : Nat} {os : List LObj} {vs : Nat → Value} {x : LObj} (h : OwnT W B b c os vs) (hx : os[i]? = some x) (k v : Int) :
    OwnT (put4 W b i k v) B b c (os.set i ⟨k,v,⟨#[]⟩,[]⟩) (fun j=>if j = i then .slice none 0 0 else vs j):=by
  have hl : i < os.length:=(List.getElem?_eq_some_iff.1 hx).1
  have s1:=h.setKind hx k
  have s2:=s1.setVer (i:=i) (o:={ x with kind:=k }) (List.getElem?_set_self hl) v
  rw [List.set_set] at s2
  have s3:=s2.setText (i:=i) (o:={ x with kind:=k,ver:=v }) (List.getElem?_set_self hl) ⟨#[]⟩ (Nat.zero_le _)
  rw [List.set_set] at s3
  have s4:=s3.setKids (i:=i) (o:={ x with kind:=k,ver:=v,text:=⟨#[]⟩ }) (List.getElem?_set_self hl) (OwnEnts.bare _ B) (by intro e he; cases he) (fun _ _ _ _ h=>by cases h)
  rw [List.set_set] at s4
  exact s4
theorem Kt.put4 {w W : World} {b n i : Nat} {vs : Nat → Value} {k v : Int} (h : Kt w W b n vs) : Kt w (put4 W b i k v) b n vs:=h.step fun _ _ h2 _=>put4_block W b i k v h2
theorem Fr.put4 {A b c n i : Nat} {W : World} {o : LOp} {k v : Int} (h : Fr A W b c n o) (hb : b < A) : Fr A (put4 W b i k v) b c n o :=
  h.of_blocks (by rw [put4_size]; exact Nat.le_refl _) fun q h1 _=>put4_block W b i k v (by omega)
theorem mem_putL {x e : LEnt} {es : List LEnt} (h : e ∈ putL x es) : e = x ∨ e ∈ es:=by
  unfold putL at h
  simp at h
  rcases h with h | h | h
  · exact .inr (List.mem_of_mem_take h)
  · exact .inl h
  · exact .inr (List.mem_of_mem_drop h)
theorem Fr.grown {A b c n : Nat} {W W' : World} {o : LOp} {row : Option Nat} (h : Fr A W b c n o) (hg : W.grownBy W' row) (hr : ∀ g,row = some g → g < A ∨ A + 1 + 1 < g) : Fr A W' b c n o :=
  h.of_blocks hg.size fun q h1 h2=>hg.block q (by have:=h.size; omega) fun e=>by
    rcases hr q e.symm with h | h <;> omega
theorem Fr.set {A b c n : Nat} {W : World} {o : LOp} (h : Fr A W b c n o) (hb : b < A) (k : Nat) (v : Value) : Fr A (W.setCell ⟨b,k,none⟩ v) b c n o :=
  h.of_blocks (by simp) fun q h1 _=>Below.heap_setCell W ⟨b,k,none⟩ v q (by simp; omega)
structure KidsFr (A : Nat) (w W W' : World) (B b c n j : Nat) (o : LOp) (os : List LObj) (vs : Nat → Value) (v v' : Value) (es : List LEnt) : Prop where
  fr : Fr A W' b c n o
  cell : W'.cell? ⟨b,j * 4 + 3,none⟩ = some v
  frozen : W'.frozen? ⟨b,j * 4 + 3,none⟩ = false
  lt : b < W'.heap.size
  size : A + 1 + 1 < W'.heap.size
  below : Below B w W'
  keep : ∀ q,q < W.heap.size → v.ownBlock ≠ some q → W'.heap[q]? = W.heap[q]?
  done : ∀ d,os[j]? = some d → (∀ e ∈ es,e.name.size ≤ maxLen) → OwnT (W'.setCell ⟨b,j * 4 + 3,none⟩ v') B b c (os.set j { d with kids:=es }) (fun q=>if q = j then v' else vs q)
theorem kidsFr {A B b c n j : Nat} {w W W' : World} {o : LOp} {os : List LObj} {vs : Nat → Value} {v v' : Value} {es : List LEnt} {row : Option Nat} (hF : Fr A W b c n o) (hT : OwnT W B b c os vs) (hb : Below B w W) (hB : B ≤ W.heap.size) {d : LObj} (hd : os[j]? = some d) (hv : vs j = v)
    (hg : W.grownBy W' row) (hrow : row = none ∨ row = v.ownBlock) (hA : ∀ g,v.ownBlock = some g → g < A ∨ A + 1 + 1 < g) (ho : OwnEnts W' B v' es) (hat : ∀ g,v'.ownBlock = some g → v.ownBlock = some g ∨ W.heap.size ≤ g) : KidsFr A w W W' B b c n j o os vs v v' es:=by
  obtain ⟨y1,y2,y3,y4,y5,y6,y7⟩:=hT.at_ j d hd
  have hbr : some b ≠ row:=by
    rcases hrow with rfl | rfl
    · simp
    · rw [← hv]; exact fun e=>hT.kids_ne y6 e.symm
  have hrB : ∀ g,row = some g → B ≤ g:=by
    rcases hrow with rfl | rfl
    · intro g h; cases h
    · intro g h; rw [← hv] at h; exact (y6.lt g h).1
  refine ⟨hF.grown hg fun g h=>?_,by rw [hg.cell_far _ hT.lt hbr,y5,hv],?_,by have:=hg.size; have:=hT.lt; omega,by have:=hg.size; have:=hF.size; omega,below_grown hb hg hrB hB,fun q hq hne=>hg.block q hq ?_,fun d' hd' hs=>?_⟩
  · rcases hrow with rfl | rfl
    · cases h
    · exact hA g h
  · obtain ⟨cur,hr,_⟩:=hT.row
    exact frozen_of_row W' b _ cur 165 (by rw [hg.block b hT.lt hbr]; exact hr)
  · rcases hrow with rfl | rfl
    · simp
    · exact fun e=>hne e.symm
  · exact hT.putKids hd' hg (by rw [hv]; exact hrow) ho hs (by rw [hv]; exact hat)
theorem Kt.kids {A B b c n j : Nat} {w W W' : World} {o : LOp} {os : List LObj} {vs0 vs : Nat → Value} {v v' : Value} {es : List LEnt} (h : Kt w W b n vs0) (hs : w.heap.size ≤ W.heap.size) (K : KidsFr A w W W' B b c n j o os vs v v' es)
    (hv : ∀ g,v.ownBlock = some g → (∃ i,i < n ∧ (vs0 i).ownBlock = some g) ∨ w.heap.size ≤ g) : Kt w W' b n vs0:=h.step fun q h1 _ h3=>K.keep q (by omega) fun e=>by
  rcases hv q e with ⟨i,hi,h2⟩ | h2
  · exact h3 i hi h2
  · omega
theorem OwnEnts.shape {w : World} {B : Nat} {v : Value} {es : List LEnt} (h : OwnEnts w B v es) : ∃ a c,v = .slice a es.length c:=by
  rcases h.2 with ⟨rfl,h0⟩ | ⟨g,cap,cur,rfl,_⟩
  · exact ⟨none,0,by rw [h0]⟩
  · exact ⟨_,cap,rfl⟩
theorem Fr.retree {A b c n : Nat} {W : World} {o : LOp} (h : Fr A W b c n o) : Fr A (W.setCell ⟨A,0,none⟩ (.slice (some ⟨b,0,none⟩) n c)) b c n o:=by
  have hc : ∀ q k,q ≠ A → (W.setCell ⟨A,0,none⟩ (.slice (some ⟨b,0,none⟩) n c)).cell? ⟨q,k,none⟩ = W.cell? ⟨q,k,none⟩:=fun q k hq=>World.cell?_of_block (w:=W) (Below.heap_setCell W ⟨A,0,none⟩ _ q (by simpa using hq))
  obtain ⟨x,hx⟩:=h.r
  obtain ⟨y,hy⟩:=h.tb
  exact ⟨by simpa using h.size,by rw [World.cell?_setCell_same _ _ _ h.t],by rw [hc _ _ (by omega)]; exact h.o0,by rw [hc _ _ (by omega)]; exact h.o1,by rw [hc _ _ (by omega)]; exact h.o2,by rw [hc _ _ (by omega)]; exact h.o3,by rw [hc _ _ (by omega)]; exact h.o4,by rw [hc _ _ (by omega)]; exact h.o5,by rw [hc _ _ (by omega)]; exact h.o6,
    ⟨x,hx.of_block (Below.heap_setCell W ⟨A,0,none⟩ _ _ (by simp; omega))⟩,⟨_,hy.set 0 _⟩⟩
theorem Fr.tree {A b c n : Nat} {W : World} {o : LOp} (h : Fr A W b c n o) : W.frozen? ⟨A,0,none⟩ = false:=by
  obtain ⟨y,hy⟩:=h.tb
  exact hy.frozen 0
def turnL (os : List LObj) (i : Nat) : List LObj:=match os[i]? with | some o=>os.set i { o with ver:=o.ver + 1 } | none=>os
def kidsL (os : List LObj) (i : Nat) (f : List LEnt → List LEnt) : List LObj:=match os[i]? with | some o=>os.set i { o with kids:=f o.kids } | none=>os
theorem turnL_at {os : List LObj} {i : Nat} {o : LObj} (h : os[i]? = some o) : turnL os i = os.set i { o with ver:=o.ver + 1 }:=by simp [turnL,h]
theorem kidsL_at {os : List LObj} {i : Nat} {o : LObj} (h : os[i]? = some o) (f : List LEnt → List LEnt) : kidsL os i f = os.set i { o with kids:=f o.kids }:=by simp [kidsL,h]
theorem turnL_len (os : List LObj) (i : Nat) : (turnL os i).length = os.length:=by unfold turnL; split <;> simp
theorem kidsL_len (os : List LObj) (i : Nat) (f : List LEnt → List LEnt) : (kidsL os i f).length = os.length:=by unfold kidsL; split <;> simp
def Bd (os : List LObj) (M : Int) : Prop:=∀ x ∈ os,0 ≤ x.ver ∧ x.ver ≤ M ∧ x.kids.length ≤ 1000000
theorem Bd.set {os : List LObj} {M : Int} (h : Bd os M) (i : Nat) {y : LObj} (hy : 0 ≤ y.ver ∧ y.ver ≤ M ∧ y.kids.length ≤ 1000000) : Bd (os.set i y) M:=fun x hx=>by
  rcases List.mem_or_eq_of_mem_set hx with h1 | rfl
  · exact h x h1
  · exact hy
end
section
open Go.RowKit
theorem OwnT.base' {w : World} {B B' b c : Nat} {os : List LObj} {vs : Nat → Value} (h : OwnT w B b c os vs) (hB : B' ≤ B) : OwnT w B' b c os vs :=
  ⟨by have:=h.lo; omega,h.row,fun i o ho=>by
    obtain ⟨h1,h2,h3,h4,h5,h6,h7⟩:=h.at_ i o ho
    refine ⟨h1,h2,h3,h4,h5,⟨h6.1,?_⟩,h7⟩
    rcases h6.2 with h | ⟨g,cap,cur,q1,q2,q3⟩
    · exact .inl h
    · exact .inr ⟨g,cap,cur,q1,by omega,q3⟩,h.apart⟩
def NewEnts (w w' : World) (B : Nat) (v : Value) (es : List LEnt) : Prop:=OwnEnts w' B v es ∧ w.grownBy w' none ∧ (v.ownBlock = none ∨ v.ownBlock = some w.heap.size)
theorem run_app_new (w : World) (ty : TypeId) (B m c : Nat) (ka : Option Addr) (es : List LEnt) (hm : m = es.length) (hB : B ≤ w.heap.size) (hbd : m ≤ 1048576)
    (hsrc : m ≠ 0 → ∃ ad,ka = some ad ∧ ∀ j u,(entCells es)[j]? = some u → w.cell? (ad.add j) = some u) :
    ∃ a' c' w',(Builtin.append_ #[163,163] ty #[.slice none 0 0,.slice ka m c]).run Tryz.prog w = .ok (.slice a' m c') w' ∧ NewEnts w w' B (.slice a' m c') es:=by
  obtain ⟨i0,hi,hz0,hz1,hz2⟩:=info_parts info47'
  by_cases h0 : m = 0
  · subst h0
    obtain rfl : es = []:=List.eq_nil_of_length_eq_zero hm.symm
    have hs : Src Tryz.prog i0.size 163 (.slice ka 0 c) 0 [] w:=by
      cases ka with
      | none=>exact Src.ofNil w Tryz.underlying163 c
      | some ad=>exact Src.ofSlice w Tryz.underlying163 ad 0 c [] (by simp) (fun j u hu=>by simp at hu) (fun u hu=>by simp at hu)
    exact ⟨none,0,w,run_append_nothing (P:=Tryz.prog) w 163 163 ty 247 i0 Tryz.underlying163 hi none 0 0 (Nat.le_refl _) _ hs,OwnEnts.bare w B,World.grownBy.refl w none,.inl rfl⟩
  · obtain ⟨ad,rfl,hc⟩:=hsrc h0
    obtain ⟨v',w',hr,h2,h3,h4,h5⟩:=run_append_own_at (P:=Tryz.prog) w B 163 ty 247 i0 _ 2 24 Tryz.underlying163 hi hz0 hz1 hz2 rfl (by decide) _ _ _ (OwnEnts.bare w B) ad m c (entCells es) (by rw [entCells_len,hm]) hc (entCells_one _) (by unfold maxLen; simp; omega) (by simp; omega) hB
    have h2':=h2
    rcases h2.2 with ⟨hv,_⟩ | ⟨g',cap',cur,rfl,hb,hg,_⟩
    · exact absurd (h4.1 hv).2 h0
    · have h5' : g' = w.heap.size:=by simpa [Value.ownBlock] using h5
      simp only [List.length_nil,Nat.zero_add] at hr h2'
      refine ⟨_,_,_,hr,?_,by simpa [Value.ownBlock] using h3,.inr (by simp [Value.ownBlock,h5'])⟩
      unfold OwnEnts
      rw [← hm]
      simpa [entCells] using h2'
theorem wpList_app_new (w : World) {ops : Array Oper} {rest : List Oper} {o : Oper} {a : Act} {Q : Exit → Act → World → Prop} (hgd : o.guard = none) (s x : Operand)
    (ho : o.op = .call { callee:=.builtin .append,args:=#[s,x],argTypes:=#[163,163] }) (B m c : Nat) (ka : Option Addr) (es : List LEnt) (hs : a.eval s = .slice none 0 0) (hx : a.eval x = .slice ka m c) (hm : m = es.length) (hB : B ≤ w.heap.size) (hbd : m ≤ 1048576)
    (hsrc : m ≠ 0 → ∃ ad,ka = some ad ∧ ∀ j u,(entCells es)[j]? = some u → w.cell? (ad.add j) = some u)
    (h : ∀ a' c' w',NewEnts w w' B (.slice a' m c') es → wpList Tryz.prog ops Q rest (a.put o.dst (.slice a' m c')) w') : wpList Tryz.prog ops Q (o :: rest) a w :=
  wpList_plain hgd fun _ hK=>by
    obtain ⟨a',c',w',hr,h2⟩:=run_app_new w o.type B m c ka es hm hB hbd hsrc
    unfold Oper.wp execOp
    simp only [ho,resolve,invoke,builtin,Sem.run_bind,Sem.run_pure,Result.andThen_ok,List.map_toArray,List.map_cons,List.map_nil,hs,hx,hr]
    exact hK _ _ (h a' c' w' h2)
theorem objCells_one (os : List LObj) (vs : Nat → Value) (h : ∀ i,(vs i).oneCell' = true) : ∀ k,∀ u ∈ objCells os vs k,u.oneCell' = true
  | 0,u,hu=>by simp [objCells] at hu
  | k + 1,u,hu=>by
    simp only [objCells,List.mem_append] at hu
    rcases hu with hu | hu
    · exact objCells_one os vs h k u hu
    · cases ho : os[k]? with
      | none=>simp [ho] at hu
      | some o =>
        simp [ho] at hu
        rcases hu with rfl | rfl | rfl | rfl
        · rfl
        · rfl
        · rfl
        · exact h k
theorem objCells_get (os : List LObj) (vs : Nat → Value) (k j : Nat) (u : Value) (hk : k ≤ os.length) (h : (objCells os vs k)[j]? = some u) : ∃ i o,os[i]? = some o ∧ i < k ∧ ((j = i * 4 ∧ u = .int .i64 o.kind) ∨ (j = i * 4 + 1 ∧ u = .int .i64 o.ver) ∨ (j = i * 4 + 2 ∧ u = .string o.text) ∨ (j = i * 4 + 3 ∧ u = vs i)):=by
  have hl:=(List.getElem?_eq_some_iff.1 h).1
  rw [objCells_len os vs k hk] at hl
  have hi : j / 4 < k:=by omega
  have ho : os[j / 4]? = some (os[j / 4]'(by omega)):=by simp [show j / 4 < os.length by omega]
  obtain ⟨h0,h1,h2,h3⟩:=objCells_at os vs k hk (j / 4) _ hi ho
  refine ⟨j / 4,_,ho,hi,?_⟩
  have hr : j % 4 = 0 ∨ j % 4 = 1 ∨ j % 4 = 2 ∨ j % 4 = 3:=by omega
  rcases hr with hr | hr | hr | hr
  · have e : j = j / 4 * 4:=by omega
    rw [← e,h] at h0
    exact .inl ⟨e,by simpa using h0⟩
  · have e : j = j / 4 * 4 + 1:=by omega
    rw [← e,h] at h1
    exact .inr (.inl ⟨e,by simpa using h1⟩)
  · have e : j = j / 4 * 4 + 2:=by omega
    rw [← e,h] at h2
    exact .inr (.inr (.inl ⟨e,by simpa using h2⟩))
  · have e : j = j / 4 * 4 + 3:=by omega
    rw [← e,h] at h3
    exact .inr (.inr (.inr ⟨e,by simpa using h3⟩))
structure KidsV (w : World) (L U : Nat) (os : List LObj) (ks : Nat → Value) : Prop where
  one : ∀ i,(ks i).oneCell' = true
  at_ : ∀ i o,os[i]? = some o → o.text.size ≤ maxLen ∧ ∃ ka kc,ks i = .slice ka o.kids.length kc ∧ EntsAt w L U ka o.kids.length o.kids
theorem ks_of {w : World} {L U n : Nat} {a : Option Addr} {os : List LObj} (H : ObjsAt w L U a n os) (hn : n ≠ 0) : ∃ b off ks,a = some ⟨b,off,none⟩ ∧ L ≤ b ∧ b < U ∧ (∀ j u,(objCells os ks n)[j]? = some u → w.cell? ((⟨b,off,none⟩ : Addr).add j) = some u) ∧ KidsV w L U os ks:=by
  obtain ⟨b,off,ha,hL,hU,hc⟩:=H.at_ hn
  obtain ⟨l,hl,hp⟩:=list_of (n:=n) (p:=fun i (v : Value)=>∃ o ka kc,os[i]? = some o ∧ v = .slice ka o.kids.length kc ∧ o.text.size ≤ maxLen ∧ w.cell? ⟨b,off + i * 4,none⟩ = some (.int .i64 o.kind) ∧ w.cell? ⟨b,off + i * 4 + 1,none⟩ = some (.int .i64 o.ver) ∧ w.cell? ⟨b,off + i * 4 + 2,none⟩ = some (.string o.text) ∧ w.cell? ⟨b,off + i * 4 + 3,none⟩ = some v ∧ EntsAt w L U ka o.kids.length o.kids) (fun i hi=>by
    obtain ⟨o,ka,kn,kc,q1,q2,q3,q4,q5,q6,q7⟩:=hc i hi
    have hk:=q7.len
    subst hk
    exact ⟨_,o,ka,kc,q1,rfl,q2,q3,q4,q5,q6,q7⟩)
  have hlen:=H.len
  refine ⟨b,off,fun i=>(l[i]?).getD (.slice none 0 0),ha,hL,hU,fun j u hu=>?_,fun i=>?_,fun i o ho=>?_⟩
  · obtain ⟨i,o,ho,hi,h⟩:=objCells_get os _ n j u (by omega) hu
    obtain ⟨v,hv,o',ka,kc,q1,q2,q3,q4,q5,q6,q7,q8⟩:=hp i hi
    rw [ho] at q1
    cases q1
    have hadd : (⟨b,off,none⟩ : Addr).add j = ⟨b,off + j,none⟩:=by unfold Addr.add; split <;> simp_all
    rw [hadd]
    rcases h with ⟨rfl,rfl⟩ | ⟨rfl,rfl⟩ | ⟨rfl,rfl⟩ | ⟨rfl,rfl⟩
    · exact q4
    · exact q5
    · exact q6
    · simpa [hv,Nat.add_assoc] using q7
  · by_cases hi : i < n
    · obtain ⟨v,hv,o',ka,kc,q1,rfl,_⟩:=hp i hi
      simp [hv,Value.oneCell']
    · have : l[i]? = none:=by simp [hl]; omega
      simp [this,Value.oneCell']
  · have hi : i < n:=by rw [hlen]; exact (List.getElem?_eq_some_iff.1 ho).1
    obtain ⟨v,hv,o',ka,kc,q1,rfl,q3,q4,q5,q6,q7,q8⟩:=hp i hi
    rw [ho] at q1
    cases q1
    exact ⟨q3,ka,kc,by simp [hv],q8⟩
def CloneEnd (w : World) (n : Nat) (xs : List Value) (e : Ending) (w' : World) : Prop:=(∃ g cap,e = .returned (.slice (some ⟨g,0,none⟩) n cap) ∧ w'.ownsRow w.heap.size 165 4 (.slice (some ⟨g,0,none⟩) n cap) n xs) ∧ Below w.heap.size w w'
set_option maxRecDepth 100000 in
theorem copy_objs (b off n c : Nat) (os : List LObj) (ks : Nat → Value) (w : World) (hn : n = os.length) (h0 : 0 < n) (hbd : n ≤ 1048576) (hk1 : ∀ i,(ks i).oneCell' = true) (hc : ∀ j u,(objCells os ks n)[j]? = some u → w.cell? ((⟨b,off,none⟩ : Addr).add j) = some u) :
    Calls Tryz.prog 219 #[.slice (some ⟨b,off,none⟩) n c] w fun e w'=>CloneEnd w n (objCells os ks n) e w':=by
  obtain ⟨i0,hi,hq0,hq1,hq2⟩:=info_parts info34'
  have HL : Hid ((objCells os ks n).length = n * 4):=objCells_len os ks n (by omega)
  have H1 : Hid (∀ u ∈ objCells os ks n,u.oneCell' = true):=objCells_one os ks hk1 n
  have HC : Hid (∀ j u,(objCells os ks n)[j]? = some u → w.cell? ((⟨b,off,none⟩ : Addr).add j) = some u):=hc
  clear hc hn
  go_enter Tryz.func219,Tryz.ntmps219
  go_wp2_with (first
    | (at_builtin; refine wpList_append_lies _ rfl (.const (.slice none 0 0)) (.tmp 3) 24 rfl w.heap.size 165 i0 _ 4 56 Tryz.underlying24 hi hq0 hq1 hq2 rfl (by decide) _ 0 [] rfl (World.ownsRow_nil _ _ _ _) ⟨b,off,none⟩ n c (objCells os ks n) rfl HL.out ?c1 H1.out h0 ?c4 ?c5 ?c6 _ rfl ?_)
    | go_in)
  case c1=>exact fun j u hu=>HC.out j u hu
  case c4=>unfold maxLen; omega
  case c5=>omega
  case c6=>simp
  intro g cap w1 hown hgrow hat hlt
  have hbel : Below w.heap.size w w1:=below_grown (Below.refl _ _) hgrow (fun k hk=>by simp [Value.ownBlock] at hk) (Nat.le_refl _)
  have hown' : Hid (w1.ownsRow w.heap.size 165 4 (.slice (some ⟨g,0,none⟩) n cap) n (objCells os ks n)):=by show World.ownsRow _ _ _ _ _ _ _; simpa using hown
  clear hown hgrow hat hlt
  go_wp2_with fail
  go_ret
  exact ⟨⟨g,cap,by simp,hown'.out⟩,hbel⟩
theorem copy_ents (B : Nat) (ka : Option Addr) (m c : Nat) (es : List LEnt) (L U : Nat) (w : World) (hB : B ≤ w.heap.size) (hbd : m ≤ 1048576) (H : EntsAt w L U ka m es) :
    Calls Tryz.prog 220 #[.slice ka m c] w fun e w'=>∃ a' c',e = .returned (.slice a' m c') ∧ NewEnts w w' B (.slice a' m c') es:=by
  have HE : Hid (EntsAt w L U ka m es):=H
  have hm:=H.len
  have HM : Hid (m = es.length):=hm
  clear H hm
  go_enter Tryz.func220,Tryz.ntmps220
  go_wp2_with (first
    | (at_builtin; refine wpList_app_new _ rfl (.const (.slice none 0 0)) (.tmp 3) rfl B _ _ _ es rfl rfl HM.out hB hbd ?c2 ?_)
    | go_in)
  case c2 =>
    intro hne
    obtain ⟨kb,koff,rfl,_,_,hkc⟩:=HE.out.at_ hne
    exact ⟨_,rfl,ents_cells HM.out hkc⟩
  intro a' c' w2 hnew
  have HN : Hid (NewEnts w w2 B (.slice a' m c') es):=hnew
  clear hnew
  go_wp2_with fail
  go_ret
  exact ⟨a',c',rfl,HN.out⟩
end
section
open Go.RowKit
def splice (l : List Value) (o : Nat) (cs : List Value) : List Value:=l.take o ++ cs ++ l.drop (o + cs.length)
theorem splice_len (l : List Value) (o : Nat) (cs : List Value) (h : o + cs.length ≤ l.length) : (splice l o cs).length = l.length:=by
  simp [splice]; omega
theorem splice_get (l : List Value) (o : Nat) (cs : List Value) (h : o + cs.length ≤ l.length) (j : Nat) : (splice l o cs)[j]? = if j < o then l[j]? else if j < o + cs.length then cs[j - o]? else l[j]?:=by
  have h1 : min o l.length = o:=by omega
  unfold splice
  by_cases ha : j < o
  · rw [List.append_assoc,List.getElem?_append_left (by simp; omega),if_pos ha,List.getElem?_take,if_pos ha]
  · rw [if_neg ha]
    by_cases hb : j < o + cs.length
    · rw [if_pos hb,List.append_assoc,List.getElem?_append_right (by simp; omega),List.getElem?_append_left (by simp; omega)]
      simp [h1]
    · rw [if_neg hb,List.getElem?_append_right (by simp; omega),List.getElem?_drop]
      congr 1
      simp [h1]
      omega
theorem splice_shift (l E : List Value) (p : Nat) (u v : Value) (hp : p ≤ E.length) (hl : E.length + 2 ≤ l.length) (hE : l.take E.length = E) :
    (splice (splice l (p + 2) (E.drop p)) p [u,v]).take (E.length + 2) = E.take p ++ [u,v] ++ E.drop p:=by
  have hget : ∀ j,j < E.length → l[j]? = E[j]?:=fun j hj=>by rw [← hE]; simp [hj]
  apply List.ext_getElem?
  intro j
  rw [List.getElem?_take]
  by_cases h0 : j < E.length + 2
  · rw [if_pos h0,splice_get _ _ _ (by rw [splice_len _ _ _ (by simp; omega)]; simp; omega),splice_get _ _ _ (by simp; omega)]
    by_cases h1 : j < p
    · rw [if_pos h1,if_pos (by omega),List.append_assoc,List.getElem?_append_left (by simp; omega),List.getElem?_take,if_pos h1]
      exact hget j (by omega)
    · rw [if_neg h1]
      by_cases h2 : j < p + 2
      · rw [if_pos (by simpa using h2),List.append_assoc,List.getElem?_append_right (by simp; omega),List.getElem?_append_left (by simp; omega)]
        simp [show min p E.length = p by omega]
      · rw [if_neg (by simpa using h2),if_neg h2,if_pos (by simp; omega),List.getElem?_append_right (by simp; omega)]
        congr 1
        simp [show min p E.length = p by omega]
  · rw [if_neg h0]
    symm
    apply List.getElem?_eq_none
    simp; omega
theorem splice_new (l E : List Value) (p : Nat) (u v : Value) (hp : p ≤ E.length) (hl : E.length + 2 ≤ l.length) (hE : l.take p = E.take p) :
    (splice (splice l p [u,v]) (p + 2) (E.drop p)).take (E.length + 2) = E.take p ++ [u,v] ++ E.drop p:=by
  have hget : ∀ j,j < p → l[j]? = E[j]?:=fun j hj=>by
    have h1 : (l.take p)[j]? = (E.take p)[j]?:=by rw [hE]
    simpa [List.getElem?_take,hj] using h1
  apply List.ext_getElem?
  intro j
  rw [List.getElem?_take]
  by_cases h0 : j < E.length + 2
  · rw [if_pos h0,splice_get _ _ _ (by rw [splice_len _ _ _ (by simp; omega)]; simp; omega),splice_get _ _ _ (by simp; omega)]
    by_cases h1 : j < p
    · rw [if_pos (by omega),if_pos h1,List.append_assoc,List.getElem?_append_left (by simp; omega),List.getElem?_take,if_pos h1]
      exact hget j (by omega)
    · by_cases h2 : j < p + 2
      · rw [if_pos h2,if_neg h1,if_pos (by simpa using h2),List.append_assoc,List.getElem?_append_right (by simp; omega),List.getElem?_append_left (by simp; omega)]
        simp [show min p E.length = p by omega]
      · rw [if_neg h2,if_pos (by simp; omega),List.getElem?_append_right (by simp; omega)]
        congr 1
        simp [show min p E.length = p by omega]
  · rw [if_neg h0]
    symm
    apply List.getElem?_eq_none
    simp; omega
theorem entCells_take (es : List LEnt) (k : Nat) : (entCells es).take (k * 2) = entCells (es.take k):=by
  by_cases hk : k ≤ es.length
  · have e1 : entCells es = entCells (es.take k) ++ entCells (es.drop k):=by rw [← entCells_app,List.take_append_drop]
    rw [e1,List.take_left' (by rw [entCells_len]; simp; omega)]
  · rw [List.take_of_length_le (by rw [entCells_len]; omega),List.take_of_length_le (by omega)]
theorem entCells_drop (es : List LEnt) (k : Nat) : (entCells es).drop (k * 2) = entCells (es.drop k):=by
  by_cases hk : k ≤ es.length
  · have e1 : entCells es = entCells (es.take k) ++ entCells (es.drop k):=by rw [← entCells_app,List.take_append_drop]
    rw [e1,List.drop_left' (by rw [entCells_len]; simp; omega)]
  · rw [List.drop_of_length_le (by rw [entCells_len]; omega),List.drop_of_length_le (by omega)]
    rfl
theorem entCells_ins (es : List LEnt) (k : Nat) (x : LEnt) : (entCells es).take (k * 2) ++ [.string x.name,.int .i64 x.id] ++ (entCells es).drop (k * 2) = entCells (es.take k ++ [x] ++ es.drop k):=by
  rw [entCells_take,entCells_drop,entCells_app,entCells_app]
  simp [entCells]
theorem run_copy_row2 {P : Program} (w : World) (dT sT ty elem : TypeId) (g o dLen dCap : Nat) (a : Addr) (sLen sCap : Nat) (cur : Array Value) (t : TypeId) (cs : List Value)
    (hu : P.underlying dT = some (.slice elem)) (hs : (P.info? elem).map (·.size) = some 2)
    (hg : w.heap[g]? = some (.cells cur t (0,0))) (hn : cs.length = Nat.min sLen dLen * 2)
    (hsrc : ∀ j v,cs[j]? = some v → w.cell? (a.add j) = some v) (hfit : o + cs.length ≤ cur.size) (h1 : ∀ v ∈ cs,v.oneCell' = true) :
    (Builtin.copy_ #[dT,sT] ty #[.slice (some ⟨g,o,none⟩) dLen dCap,.slice (some a) sLen sCap]).run P w =
      .ok (goInt (Nat.min sLen dLen)) (w.setRow g (splice cur.toList o cs).toArray):=by
  have hl:=run_loadCells_list (P:=P) w a cs hsrc
  have hst:=run_storeCells_at P g o t cs 0 cur w hg (by simpa using hfit) h1
  cases hq : P.info? elem with
  | none=>simp [hq] at hs
  | some i =>
    have hi : i.size = 2:=by simpa [hq] using hs
    simp [Builtin.copy_,run_underlying hu,Builtin.lenOf,Builtin.firstCells,sizeOf,typeInfo,hq,hi,← hn,hl,hst,splice]
theorem wp_copy_run' {P : Program} (w : World) {o : Oper} {a : Act} {K : Act → World → Prop} {Q : Exit → Act → World → Prop} (d s : Operand) (t t' : TypeId)
    (ho : o.op = .call { callee:=.builtin .copy,args:=#[d,s],argTypes:=#[t,t'] }) (v u : Value) (hd : a.eval d = v) (hs : a.eval s = u) {v' : Value} {w' : World}
    (hr : (Builtin.copy_ #[t,t'] o.type #[v,u]).run P w = .ok v' w') (h : K (a.put o.dst v') w') : o.wp P a w K Q:=by
  unfold Oper.wp execOp
  simp only [ho,resolve,invoke,builtin,Sem.run_bind,Sem.run_pure,Result.andThen_ok,List.map_toArray,List.map_cons,List.map_nil,hd,hs,hr]
  exact h
theorem setRow_grown {w0 w : World} {g : Nat} {c : Array Value} {row : Option Nat} (h : w0.grownBy w row) (hg : row = some g ∨ w0.heap.size ≤ g) : w0.grownBy (w.setRow g c) row :=
  ⟨h.os,h.tape,h.output,by simpa using h.size,fun k hk hne=>by
    rw [setRow_other w g k c (by rcases hg with rfl | hg <;> intro e <;> subst e <;> simp_all <;> omega)]
    exact h.block k hk hne⟩
theorem OwnEnts.open_ {w : World} {B g n cap : Nat} {es : List LEnt} (h : OwnEnts w B (.slice (some ⟨g,0,none⟩) n cap) es) : ∃ cur,B ≤ g ∧ w.heap[g]? = some (.cells cur 247 (0,0)) ∧ n = es.length ∧ n ≤ cap ∧ cap ≤ maxLen ∧ cur.size = cap * 2 ∧ cur.toList.take (n * 2) = entCells es:=by
  rcases h.2 with ⟨h',_⟩ | ⟨g',cap',cur,h',hb,hg,hnc,hcm,hcs,htake⟩
  · simp at h'
  · simp only [Value.slice.injEq,Option.some.injEq,Addr.mk.injEq,and_true] at h'
    obtain ⟨rfl,rfl,rfl⟩:=h'
    exact ⟨cur,hb,hg,rfl,hnc,hcm,hcs,htake⟩
theorem OwnEnts.mk_ {w : World} {B g n cap : Nat} {es : List LEnt} {cur : Array Value} (hB : B ≤ g) (hg : w.heap[g]? = some (.cells cur 247 (0,0))) (hn : n = es.length) (hnc : n ≤ cap) (hcm : cap ≤ maxLen) (hcs : cur.size = cap * 2) (ht : cur.toList.take (n * 2) = entCells es) : OwnEnts w B (.slice (some ⟨g,0,none⟩) n cap) es:=by
  subst hn
  exact ⟨by rw [entCells_len],.inr ⟨g,cap,cur,rfl,hB,hg,hnc,hcm,hcs,ht⟩⟩
def PlaceEnd (es : List LEnt) (name : ByteArray) (e : Ending) : Prop:=∃ (x : Nat) (b : Bool),e = .returned (.tuple #[.int .i64 x,.bool b]) ∧ x ≤ es.length ∧ Low es name x ∧ High es name x
theorem placeL_of {es : List LEnt} {name : ByteArray} {x : Nat} (hx : x ≤ es.length) (hl : Low es name x) (hh : High es name x) : placeL name es = x:=by
  induction es generalizing x with
  | nil=>simp at hx; subst hx; rfl
  | cons e r ih =>
    by_cases h0 : x = 0
    · subst h0
      have h:=hh 0 (Nat.le_refl _) e rfl
      have hn : lessN name e = false:=by
        rw [Bool.eq_false_iff]
        intro h1
        unfold lessN at h1
        rw [Go.ByteArray.toList_eq,Go.ByteArray.toList_eq] at h1
        exact h ((cmp_less _ _).2 h1)
      simp [placeL,hn]
    · obtain ⟨y,rfl⟩ : ∃ y,x = y + 1:=⟨x - 1,by omega⟩
      have h:=hl 0 (by omega) e rfl
      have hn : lessN name e = true:=by
        unfold lessN
        rw [Go.ByteArray.toList_eq,Go.ByteArray.toList_eq]
        exact (cmp_less _ _).1 h
      have h2:=ih (x:=y) (by simpa using hx) (fun i hi e' he=>hl (i + 1) (by omega) e' (by simpa using he)) (fun i hi e' he=>hh (i + 1) (by omega) e' (by simpa using he))
      simp only [placeL] at h2 ⊢
      simp [hn,h2]
theorem putL_of {es : List LEnt} {x : LEnt} {k : Nat} (hk : k ≤ es.length) (hl : Low es x.name k) (hh : High es x.name k) : putL x es = es.take k ++ [x] ++ es.drop k:=by
  unfold putL; rw [placeL_of hk hl hh]
theorem place_there {es : List LEnt} {name : ByteArray} {x k : Nat} {e : LEnt} (ha : Asc es) (hl : Low es name x) (hh : High es name x) (hk : es[k]? = some e) (hn : e.name = name) : x = k:=by
  have hz : ¬ Lib.compareBytes (nm e) name.data.toList < 0:=by
    rw [cmp_less,← hn]
    intro h
    exact absurd (show Op.bytesLess e.name.data.toList e.name.data.toList = true from h) (by rw [less_self]; simp)
  rcases Nat.lt_trichotomy x k with h | h | h
  · obtain ⟨y,hy⟩ : ∃ y,es[x]? = some y:=⟨es[x]'(by have:=(List.getElem?_eq_some_iff.1 hk).1; omega),by simp⟩
    have h1:=ha x k y e h hy hk
    have h2:=hh x (Nat.le_refl _) y hy
    rw [cmp_less,← hn] at h2
    exact absurd h1 h2
  · exact h
  · exact absurd (hl k h e hk) hz
theorem outL_of {es : List LEnt} {name : ByteArray} {k : Nat} {e : LEnt} (ha : Asc es) (hk : es[k]? = some e) (hn : e.name = name) : outL name es = es.take k ++ es.drop (k + 1):=by
  have hlt:=(List.getElem?_eq_some_iff.1 hk).1
  have hne : ∀ i y,es[i]? = some y → i ≠ k → (y.name.toList == name.toList) = false:=fun i y hy hik=>by
    rw [Go.ByteArray.toList_eq,Go.ByteArray.toList_eq,← hn]
    rcases Nat.lt_or_gt_of_ne hik with h | h
    · have h1:=ha i k y e h hy hk
      rw [beq_eq_false_iff_ne]
      intro h2
      rw [show nm y = nm e from h2,less_self] at h1
      cases h1
    · have h1:=ha k i e y h hk hy
      rw [beq_eq_false_iff_ne]
      intro h2
      rw [show nm y = nm e from h2,less_self] at h1
      cases h1
  have hsp : es = es.take k ++ e :: es.drop (k + 1):=by
    have h1 : es = es.take k ++ es.drop k:=(List.take_append_drop k es).symm
    have h2 : es.drop k = e :: es.drop (k + 1):=by
      rw [List.drop_eq_getElem_cons hlt]
      congr 1
      simpa [hlt] using hk
    rw [← h2]; exact h1
  have hl : outL name (es.take k) = es.take k:=List.filter_eq_self.2 fun y hy=>by
    obtain ⟨i,hi,rfl⟩:=List.getElem_of_mem hy
    have hi' : i < k:=by simp at hi; omega
    have:=hne i (es.take k)[i] (by simp [show i < es.length by omega]) (by omega)
    simpa using this
  have hr : outL name (es.drop (k + 1)) = es.drop (k + 1):=List.filter_eq_self.2 fun y hy=>by
    obtain ⟨i,hi,rfl⟩:=List.getElem_of_mem hy
    have hi' : k + 1 + i < es.length:=by simp at hi; omega
    have:=hne (k + 1 + i) (es.drop (k + 1))[i] (by simp [hi']) (by omega)
    simpa using this
  have hm : (e.name.toList == name.toList) = true:=by rw [hn]; simp
  calc outL name es = outL name (es.take k ++ e :: es.drop (k + 1)):=by rw [← hsp]
    _ = outL name (es.take k) ++ outL name (e :: es.drop (k + 1)):=by simp [outL,List.filter_append]
    _ = outL name (es.take k) ++ outL name (es.drop (k + 1)):=by
      congr 1
      simp [outL,hm]
    _ = _:=by rw [hl,hr]
end
end Go.Proofs.YtloopeipheklpaaGreatDoor
