/- Lemmas that the proofs of this seat share: CopyAll, PutIAll. -/
import Derived.Test.YtloopeipheklpaaGreatDoorW06
import Derived.Deep.Upon
namespace Go.Proofs.YtloopeipheklpaaGreatDoor
section
open Go.RowKit
set_option maxHeartbeats 400000 in
theorem isDir_any (a : Option Addr) (n c i : Nat) (o : LObj) (os : List LObj) (L U : Nat) (id : Int) (w : World) (hi : id = i) (ho : os[i]? = some o) (hU : U ≤ w.heap.size) (H : ObjsAt w L U a n os) :
    Calls Tryz.prog 207 #[.agg #[.slice a n c],.int .i64 id] w fun e w'=>e = .returned (.bool (o.kind == 2)) ∧ w' = w.alloc (.cells #[.slice a n c] 26):=by
  subst hi
  have hlt : i < n:=by rw [H.len]; exact (List.getElem?_eq_some_iff.1 ho).1
  have hlt' : (i : Int) < (n : Int):=by omega
  obtain ⟨b,off,ha,hL,hbU,hc⟩:=H.at_ (by omega)
  subst ha
  obtain ⟨o',ka,kn,kc,he,hts,hc0,hc1,hc2,hc3,hks⟩:=hc i hlt
  obtain rfl : o' = o:=by rw [ho] at he; simpa using he.symm
  have hlb : b < w.heap.size:=by omega
  clear hc ho he hc1 hc2 hc3 hks
  go_enter Tryz.func207,Tryz.ntmps207
  go_wp2_with fail
  go_ret
  exact ⟨rfl,rfl⟩
def objCells (os : List LObj) (vs : Nat → Value) : Nat → List Value
  | 0=>[]
  | k + 1=>objCells os vs k ++ (match os[k]? with | some o=>[.int .i64 o.kind,.int .i64 o.ver,.string o.text,vs k] | none=>[])
theorem objCells_len (os : List LObj) (vs : Nat → Value) : ∀ k,k ≤ os.length → (objCells os vs k).length = k * 4
  | 0,_=>rfl
  | k + 1,h=>by
    have ih:=objCells_len os vs k (by omega)
    have ho : os[k]? = some os[k]:=by simp [show k < os.length by omega]
    simp only [objCells,ho,List.length_append,ih,List.length_cons,List.length_nil]
    omega
theorem objCells_at (os : List LObj) (vs : Nat → Value) : ∀ k,k ≤ os.length → ∀ i o,i < k → os[i]? = some o → (objCells os vs k)[i * 4]? = some (.int .i64 o.kind) ∧ (objCells os vs k)[i * 4 + 1]? = some (.int .i64 o.ver) ∧ (objCells os vs k)[i * 4 + 2]? = some (.string o.text) ∧ (objCells os vs k)[i * 4 + 3]? = some (vs i)
  | 0,_,i,o,h,_=>by omega
  | k + 1,hk,i,o,h,ho=>by
    have hl:=objCells_len os vs k (by omega)
    by_cases hik : i = k
    · subst hik
      simp only [objCells,ho]
      refine ⟨?_,?_,?_,?_⟩
      · rw [List.getElem?_append_right (by omega)]; simp [hl]
      · rw [List.getElem?_append_right (by omega)]; simp [hl]
      · rw [List.getElem?_append_right (by omega)]; simp [hl]
      · rw [List.getElem?_append_right (by omega)]; simp [hl]
    · have ih:=objCells_at os vs k (by omega) i o (by omega) ho
      simp only [objCells]
      refine ⟨?_,?_,?_,?_⟩
      · rw [List.getElem?_append_left (by omega)]; exact ih.1
      · rw [List.getElem?_append_left (by omega)]; exact ih.2.1
      · rw [List.getElem?_append_left (by omega)]; exact ih.2.2.1
      · rw [List.getElem?_append_left (by omega)]; exact ih.2.2.2
theorem objCells_congr (os : List LObj) {vs vs' : Nat → Value} : ∀ k,(∀ i,i < k → vs i = vs' i) → objCells os vs k = objCells os vs' k
  | 0,_=>rfl
  | k + 1,h=>by
    simp only [objCells]
    rw [objCells_congr os k (fun i hi=>h i (by omega)),h k (by omega)]
structure CopyAt (w : World) (B : Nat) (v : Value) (os : List LObj) (vs : Nat → Value) (k : Nat) : Prop where
  own : w.ownsRow B 165 4 v k (objCells os vs k)
  kids : ∀ i o,i < k → os[i]? = some o → (∃ g kc,vs i = .slice (some ⟨g,0,none⟩) o.kids.length kc) ∧ OwnEnts w B (vs i) o.kids
  apart : ∀ i j g,i < k → j < k → i ≠ j → (vs i).ownBlock = some g → (vs j).ownBlock ≠ some g
theorem CopyAt.done {w : World} {B n : Nat} {v : Value} {os : List LObj} {vs : Nat → Value} (h : CopyAt w B v os vs n) (hn : n = os.length) (h1 : 1 ≤ n) (hs : ∀ o ∈ os,o.text.size ≤ maxLen ∧ ∀ e ∈ o.kids,e.name.size ≤ maxLen) : ∃ b c,v = .slice (some ⟨b,0,none⟩) n c ∧ OwnT w B b c os vs:=by
  subst hn
  rcases h.own.2 with ⟨_,h0⟩ | ⟨b,c,cur,rfl,hb,hg,hnc,hcm,hcs,htake⟩
  · omega
  · refine ⟨b,c,rfl,hb,⟨cur,hg,hcs,hnc,hcm⟩,fun i o ho=>?_,h.apart⟩
    have hlt : i < os.length:=(List.getElem?_eq_some_iff.1 ho).1
    have hc:=objCells_at os vs os.length (Nat.le_refl _) i o hlt ho
    have hat : ∀ j,j < os.length * 4 → w.cell? ⟨b,j,none⟩ = (objCells os vs os.length)[j]?:=fun j hj=>World.ownsRow.cellAt h.own j hj
    have hk:=h.kids i o hlt ho
    have hso:=hs o (List.mem_of_getElem? ho)
    exact ⟨hso.1,by rw [hat _ (by omega)]; exact hc.1,by rw [hat _ (by omega)]; exact hc.2.1,by rw [hat _ (by omega)]; exact hc.2.2.1,by rw [hat _ (by omega)]; exact hc.2.2.2,hk.2,hso.2⟩
end
section
open Go.RowKit
theorem info34' : (Tryz.prog.info? 165).map (fun i=>(i.zero,i.size,i.bytes)) = some (some (.agg #[.int .i64 0,.int .i64 0,.string ⟨#[]⟩,.slice none 0 0]),4,56):=by kernel_rfl
theorem OwnEnts.empty' (w : World) (B g : Nat) (hg : w.heap.size = g) (hB : B ≤ w.heap.size) : OwnEnts (w.alloc (Obj.cells #[] 247)) B (.slice (some ⟨g,0,none⟩) 0 0) []:=by
  subst hg; exact OwnEnts.empty w B hB
theorem own_block {w w' : World} {B n size : Nat} {e : TypeId} {v : Value} {xs : List Value} (h : w.ownsRow B e size v n xs) (hb : ∀ k,v.ownBlock = some k → w'.heap[k]? = w.heap[k]?) : w'.ownsRow B e size v n xs:=by
  refine ⟨h.1,?_⟩
  rcases h.2 with hn | ⟨g,cap,cur,rfl,h1,hg,rest⟩
  · exact .inl hn
  · exact .inr ⟨g,cap,cur,rfl,h1,by rw [hb g rfl]; exact hg,rest⟩
theorem own_apart {w : World} {B B' n : Nat} {u v : Value} {xs : List Value} {es : List LEnt} (hu : w.ownsRow B 165 4 u n xs) (hv : OwnEnts w B' v es) : ∀ g,v.ownBlock = some g → u.ownBlock ≠ some g:=by
  intro g h1 h2
  rcases hu.2 with ⟨rfl,_⟩ | ⟨g1,c1,cur1,rfl,_,hg1,_⟩
  · simp [Value.ownBlock] at h2
  · rcases hv.2 with ⟨rfl,_⟩ | ⟨g2,c2,cur2,rfl,_,hg2,_⟩
    · simp [Value.ownBlock] at h1
    · simp [Value.ownBlock] at h1 h2
      subst h1 h2
      rw [hg1] at hg2
      simp at hg2
theorem own_set {wr w1 : World} {B n k : Nat} {u v : Value} {vs : Nat → Value} {os : List LObj} {xs : List Value} (h : w1.ownsRow B 165 4 u n xs) (_hz : wr.heap.size + 2 ≤ w1.heap.size) (hc : Hid (CopyAt wr B u os vs n)) : (w1.setCell ⟨wr.heap.size,k,none⟩ v).ownsRow B 165 4 u n xs :=
  own_block h fun g hg=>Below.heap_setCell w1 ⟨wr.heap.size,k,none⟩ v g (by have:=(hc.out.own.lt g hg).2; intro e; simp at e; omega)
theorem four_at {w : World} {u v0 v1 v2 v3 : Value} {t : TypeId} {i g : Nat} (h : [v0,v1,v2,v3][i]? = some u) (hg : w.heap.size = g) : (w.alloc (Obj.cells #[v0,v1,v2,v3] t)).cell? ((⟨g,0,none⟩ : Addr).add i) = some u:=by
  subst hg
  match i,h with
  | 0,h=>simp at h; subst h; simp [Addr.add]
  | 1,h=>simp at h; subst h; simp [Addr.add]
  | 2,h=>simp at h; subst h; simp [Addr.add]
  | 3,h=>simp at h; subst h; simp [Addr.add]
theorem block_set {w1 w2 : World} {c k : Nat} {v : Value} {o : Obj} {row : Option Nat} (hg : ((w1.setCell ⟨c,k,none⟩ v).alloc o).grownBy w2 row) {q : Nat} (h1 : q < w1.heap.size) (h2 : q ≠ c) (h3 : row ≠ some q) : w2.heap[q]? = w1.heap[q]?:=by
  rw [hg.block q (by simp; omega) (Ne.symm h3),(World.grownBy_alloc _ _ none).block q (by simpa using h1) (by simp)]
  exact Below.heap_setCell w1 ⟨c,k,none⟩ v q h2
theorem far_set {w1 w2 : World} {c k : Nat} {v : Value} {o : Obj} {row : Option Nat} (hg : ((w1.setCell ⟨c,k,none⟩ v).alloc o).grownBy w2 row) {q : Addr} (h1 : q.block < w1.heap.size) (h2 : q.block ≠ c) (h3 : row ≠ some q.block) : w2.cell? q = w1.cell? q ∧ w2.frozen? q = w1.frozen? q :=
  ⟨World.cell?_of_block (block_set hg h1 h2 h3),World.frozen?_of_block (block_set hg h1 h2 h3)⟩
theorem ents_cells {w : World} {kb koff n : Nat} {es : List LEnt} (hn : n = es.length) (hc : ∀ i,i < n → ∃ e,es[i]? = some e ∧ e.name.size ≤ maxLen ∧ w.cell? ⟨kb,koff + i * 2,none⟩ = some (.string e.name) ∧ w.cell? ⟨kb,koff + i * 2 + 1,none⟩ = some (.int .i64 e.id)) :
    ∀ j u,(entCells es)[j]? = some u → w.cell? ((⟨kb,koff,none⟩ : Addr).add j) = some u:=by
  intro j u hu
  subst hn
  have hj : j < es.length * 2:=by have:=(List.getElem?_eq_some_iff.1 hu).1; rwa [entCells_len] at this
  have hadd : (⟨kb,koff,none⟩ : Addr).add j = ⟨kb,koff + j,none⟩:=by unfold Addr.add; split <;> simp_all
  rw [hadd]
  obtain ⟨e,he,_,h0,h1⟩:=hc (j / 2) (by omega)
  have ha:=entCells_at es (j / 2) e he
  rcases Nat.mod_two_eq_zero_or_one j with hm | hm
  · have ej : j = j / 2 * 2:=by omega
    have ek : koff + j = koff + j / 2 * 2:=by omega
    rw [ek,h0]
    rw [ej,ha.1] at hu
    exact hu
  · have ej : j = j / 2 * 2 + 1:=by omega
    have ek : koff + j = koff + j / 2 * 2 + 1:=by omega
    rw [ek,h1]
    rw [ej,ha.2] at hu
    exact hu
theorem wpList_app_zero (w : World) {ops : Array Oper} {rest : List Oper} {o : Oper} {a : Act} {Q : Exit → Act → World → Prop} (hgd : o.guard = none) (s x : Operand)
    (ho : o.op = .call { callee:=.builtin .append,args:=#[s,x],argTypes:=#[163,163] }) (B g n cap : Nat) (l : List LEnt) (hn : n = l.length) (hown : OwnEnts w B (.slice (some ⟨g,0,none⟩) n cap) l) (ka : Option Addr) (kc : Nat)
    (hs : a.eval s = .slice (some ⟨g,0,none⟩) n cap) (hx : a.eval x = .slice ka 0 kc)
    (h : ∀ g' cap' w',AppEnd w w' B g g' (n + 0) cap' (l ++ []) → wpList Tryz.prog ops Q rest (a.put o.dst (.slice (some ⟨g',0,none⟩) (n + 0) cap')) w') : wpList Tryz.prog ops Q (o :: rest) a w:=by
  obtain ⟨i0,hi,hz0,hz1,hz2⟩:=info_parts info47'
  have hle : n ≤ cap:=by
    rcases hown.2 with ⟨h',_⟩ | ⟨g',cap',cur,h',_,_,hnc,_⟩
    · simp at h'
    · simp at h'; omega
  have hlt : g < w.heap.size:=(World.ownsRow.lt hown g rfl).2
  have hsrc : Src Tryz.prog i0.size 163 (.slice ka 0 kc) 0 [] w:=by
    cases ka with
    | none=>exact Src.ofNil w Tryz.underlying163 kc
    | some ad=>exact Src.ofSlice w Tryz.underlying163 ad 0 kc [] (by simp) (fun j u hu=>by simp at hu) (fun u hu=>by simp at hu)
  have hrun:=run_append_nothing (P:=Tryz.prog) w 163 163 o.type 247 i0 Tryz.underlying163 hi (some ⟨g,0,none⟩) n cap hle _ hsrc
  have hend : AppEnd w w B g g (n + 0) cap (l ++ []):=⟨by simpa using hown,World.grownBy.refl w _,.inl rfl,hlt⟩
  refine wpList_plain hgd fun K hK=>?_
  unfold Oper.wp execOp
  simp only [ho,resolve,invoke,builtin,Sem.run_bind,Sem.run_pure,Result.andThen_ok,List.map_toArray,List.map_cons,List.map_nil,hs,hx,hrun]
  exact hK _ _ (h g cap w hend)
theorem copy_set {w : World} {B n : Nat} {v u : Value} {os : List LObj} {vs : Nat → Value} (h : CopyAt w (B + 3) v os vs n) : CopyAt (w.setCell ⟨B + 1,0,none⟩ u) B v os vs n:=by
  have hk : ∀ k,B + 3 ≤ k → (w.setCell ⟨B + 1,0,none⟩ u).heap[k]? = w.heap[k]?:=fun k hk=>Below.heap_setCell w ⟨B + 1,0,none⟩ u k (by intro e; simp at e; omega)
  refine ⟨(own_block h.own fun k e=>hk k (h.own.lt k e).1).mono (by omega),fun i o hi ho=>?_,h.apart⟩
  obtain ⟨h1,h2⟩:=h.kids i o hi ho
  exact ⟨h1,World.ownsRow.mono (own_block h2 fun k e=>hk k (h2.lt k e).1) (by omega)⟩
theorem CopyAt.next {wr wf : World} {B j : Nat} {u u' : Value} {os : List LObj} {vs : Nat → Value} (h : CopyAt wr B u os vs j) {o : LObj} (ho : os[j]? = some o) {g1 c1 : Nat}
    (ha : ∀ k,k < wr.heap.size → B ≤ k → u.ownBlock ≠ some k → wf.heap[k]? = wr.heap[k]?) (hu : wf.ownsRow B 165 4 u' (j + 1) (objCells os vs j ++ [.int .i64 o.kind,.int .i64 o.ver,.string o.text,.slice (some ⟨g1,0,none⟩) o.kids.length c1]))
    (hv : OwnEnts wf B (.slice (some ⟨g1,0,none⟩) o.kids.length c1) o.kids) (hg : wr.heap.size ≤ g1) :
    CopyAt wf B u' os (fun i=>if i = j then .slice (some ⟨g1,0,none⟩) o.kids.length c1 else vs i) (j + 1):=by
  have hc : objCells os (fun i=>if i = j then .slice (some ⟨g1,0,none⟩) o.kids.length c1 else vs i) j = objCells os vs j:=objCells_congr os j fun i hi=>by simp [show i ≠ j by omega]
  refine ⟨?_,fun i p hi hp=>?_,fun i k g hi hk hik=>?_⟩
  · simp only [objCells,hc,ho,if_true]; exact hu
  · by_cases hij : i = j
    · subst hij
      obtain rfl : p = o:=by rw [ho] at hp; simpa using hp.symm
      simp only [if_true]
      exact ⟨⟨g1,c1,rfl⟩,hv⟩
    · simp only [if_neg hij]
      obtain ⟨h1,h2⟩:=h.kids i p (by omega) hp
      exact ⟨h1,own_block h2 fun k hk=>ha k (h2.lt k hk).2 (h2.lt k hk).1 (own_apart h.own h2 k hk)⟩
  · by_cases hij : i = j
    · subst hij
      have hkj : k ≠ i:=fun e=>hik e.symm
      simp only [if_true,if_neg hkj,Value.ownBlock]
      intro e1 e2
      simp at e1
      subst e1
      obtain ⟨p,hp⟩ : ∃ p,os[k]? = some p:=⟨os[k]'(by have:=(List.getElem?_eq_some_iff.1 ho).1; omega),by simp⟩
      have:=((h.kids k p (by omega) hp).2.lt g1 e2).2
      omega
    · by_cases hkj : k = j
      · subst hkj
        simp only [if_true,if_neg hij,Value.ownBlock]
        intro e1 e2
        simp at e2
        subst e2
        obtain ⟨p,hp⟩ : ∃ p,os[i]? = some p:=⟨os[i]'(by have:=(List.getElem?_eq_some_iff.1 ho).1; omega),by simp⟩
        have:=((h.kids i p (by omega) hp).2.lt g1 e1).2
        omega
      · simp only [if_neg hij,if_neg hkj]
        exact h.apart i k g (by omega) (by omega) hik
set_option maxHeartbeats 2000000 in
set_option maxRecDepth 20000 in
theorem copy_any (a : Option Addr) (n c : Nat) (os : List LObj) (L U : Nat) (w : World) (h1 : 1 ≤ n) (hn : n ≤ 1048576) (hS : Sizes os 1048576) (hU : U ≤ w.heap.size) (H : ObjsAt w L U a n os) :
    Calls Tryz.prog 110 #[.agg #[.slice a n c]] w fun e w'=>(∃ v vs,e = .returned (.agg #[v]) ∧ Hid (CopyAt w' w.heap.size v os vs n)) ∧ Below w.heap.size w w':=by
  obtain ⟨i0,hi,hq0,hq1,hq2⟩:=info_parts info34'
  go_enter Tryz.func110,Tryz.ntmps110
  go_wp2_with fail
  go_loopg [4] n (fun k i wr=>∃ j : Nat,j ≤ n ∧ Hid (k = n - j) ∧ i = .int .i64 j ∧ (∃ ua uc vs,wr.cell? ⟨w.heap.size + 2,0,none⟩ = some (.slice ua j uc) ∧ Hid (CopyAt wr (w.heap.size + 3) (.slice ua j uc) os vs j)) ∧ wr.cell? ⟨w.heap.size,0,none⟩ = some (.slice a n c) ∧ wr.frozen? ⟨w.heap.size + 2,0,none⟩ = false ∧ wr.cell? ⟨w.heap.size + 1,0,none⟩ = some (.slice none 0 0) ∧ wr.frozen? ⟨w.heap.size + 1,0,none⟩ = false ∧ Below w.heap.size w wr ∧ w.heap.size + 3 ≤ wr.heap.size)
  case atStart=>exact ⟨0,Nat.zero_le _,rfl,rfl,⟨none,0,fun _=>.slice none 0 0,by simp [go_sem],⟨World.ownsRow_nil _ _ _ _,fun i o h=>by omega,fun i j g h=>by omega⟩⟩,by simp [go_sem],by simp [go_sem],by simp [go_sem],by simp [go_sem],by repeat (first | exact Below.refl _ _ | refine Below.alloc ?_ (by simp <;> omega) _),by simp⟩
  case round =>
    obtain ⟨j,hj,hk,rfl,⟨ua,uc,vs,hu,HC⟩,hbx,hfz,hres,hrf,hb,hz⟩:=hrel
    by_cases hlt : j < n
    · obtain ⟨b,off,ha,hL,hbU,hc⟩:=H.at_ (by omega)
      subst ha
      obtain ⟨o,ka,kn,kc,he,hts,hc0,hc1,hc2,hc3,hks⟩:=hc j hlt
      rw [← hb.cell (by simp; omega)] at hc0 hc1 hc2 hc3
      have HE : Hid (os[j]? = some o):=he
      have HK : Hid (kn = o.kids.length):=hks.len
      have hkn : kn ≤ 1048576:=by rw [hks.len]; exact hS o (List.mem_of_getElem? he)
      clear he hc
      by_cases hk0 : kn = 0
      · subst hk0
        go_wp2_with (first
          | (at_builtin; refine wpList_app_zero _ rfl (.tmp 19) (.tmp 21) rfl (w.heap.size + 3) (wr.heap.size + 1) 0 0 [] rfl (OwnEnts.empty' _ (w.heap.size + 3) (wr.heap.size + 1) (by simp) (by simp; omega)) ka kc rfl rfl ?_)
          | go_in)
        have hk0 : o.kids = []:=List.eq_nil_of_length_eq_zero HK.out.symm
        intro g1 cap1 w1 hend1
        have hf1 : ∀ q : Addr,q.block < wr.heap.size + 1 → w1.cell? q = (wr.alloc (Obj.cells #[.int .i64 o.kind,.int .i64 o.ver,.string o.text,.slice ka 0 kc] 165)).cell? q ∧ w1.frozen? q = (wr.alloc (Obj.cells #[.int .i64 o.kind,.int .i64 o.ver,.string o.text,.slice ka 0 kc] 165)).frozen? q:=fun q hq=>by
          rw [hend1.grown.cell_far q (by simp; omega) (by simp; omega),hend1.grown.frozen_far q (by simp; omega) (by simp; omega)]
          exact ⟨(World.grownBy_alloc _ _ none).cell_far q (by simp; omega) (by simp),(World.grownBy_alloc _ _ none).frozen_far q (by simp; omega) (by simp)⟩
        have hold : ∀ q : Addr,q.block < wr.heap.size → w1.cell? q = wr.cell? q ∧ w1.frozen? q = wr.frozen? q:=fun q hq=>by
          rw [(hf1 q (by omega)).1,(hf1 q (by omega)).2]
          exact ⟨(World.grownBy_alloc _ _ none).cell_far q hq (by simp),(World.grownBy_alloc _ _ none).frozen_far q hq (by simp)⟩
        have hz1 : wr.heap.size + 2 ≤ w1.heap.size:=by have:=hend1.grown.size; simp at this; omega
        have d0 : w1.cell? ⟨wr.heap.size,0,none⟩ = some (.int .i64 o.kind):=by rw [(hf1 _ (by simp)).1]; simp [go_sem]
        have d1 : w1.cell? ⟨wr.heap.size,1,none⟩ = some (.int .i64 o.ver):=by rw [(hf1 _ (by simp)).1]; simp [go_sem]
        have d2 : w1.cell? ⟨wr.heap.size,2,none⟩ = some (.string o.text):=by rw [(hf1 _ (by simp)).1]; simp [go_sem]
        have d3 : w1.cell? ⟨wr.heap.size,3,none⟩ = some (.slice ka 0 kc):=by rw [(hf1 _ (by simp)).1]; simp [go_sem]
        have f3 : w1.frozen? ⟨wr.heap.size,3,none⟩ = false:=by rw [(hf1 _ (by simp)).2]; simp [go_sem]
        have e1 : w1.cell? ⟨w.heap.size + 2,0,none⟩ = some (.slice ua j uc):=by rw [(hold _ (by simp; omega)).1]; exact hu
        have e2 : w1.frozen? ⟨w.heap.size + 2,0,none⟩ = false:=by rw [(hold _ (by simp; omega)).2]; exact hfz
        have HH : Hid (∀ q : Addr,q.block < wr.heap.size → w1.cell? q = wr.cell? q ∧ w1.frozen? q = wr.frozen? q):=hold
        have HEND : Hid (AppEnd ((wr.alloc (Obj.cells #[.int .i64 o.kind,.int .i64 o.ver,.string o.text,.slice ka 0 kc] 165)).alloc (Obj.cells #[] 247)) w1 (w.heap.size + 3) (wr.heap.size + 1) g1 0 cap1 o.kids):=by show AppEnd _ _ _ _ _ _ _ _; rw [hk0]; simpa using hend1
        clear hend1 hf1 hold hk0
        have hown1 : Hid (w1.ownsRow (w.heap.size + 3) 165 4 (.slice ua j uc) j (objCells os vs j)):=own_block HC.out.own fun k hk=>by
          have hlt:=(HC.out.own.lt k hk).2
          rw [HEND.out.grown.block k (by simp; omega) (by simp; omega),(World.grownBy_alloc _ _ none).block k (by simp; omega) (by simp),(World.grownBy_alloc _ _ none).block k hlt (by simp)]
        go_wp2_with (first
          | (at_builtin; refine wpList_append_lies _ rfl (.tmp 25) (.tmp 27) 24 rfl (w.heap.size + 3) 165 i0 _ 4 56 Tryz.underlying24 hi hq0 hq1 hq2 rfl (by decide) _ _ _ rfl ((own_set hown1.out hz1 HC).alloc _) ⟨w1.heap.size,0,none⟩ 1 1 [.int .i64 o.kind,.int .i64 o.ver,.string o.text,.slice (some ⟨g1,0,none⟩) 0 cap1] rfl rfl ?c1 ?c2 ?c3 ?c4 ?c5 ?c6 _ rfl ?_)
          | go_in)
        case c1=>intro i u hi; exact four_at hi (by simp)
        case c2=>intro u hu; simp at hu; rcases hu with rfl | rfl | rfl | rfl <;> rfl
        case c3=>omega
        case c4=>unfold maxLen; omega
        case c5=>omega
        case c6=>simp; omega
        intro g2 cap2 w2 hown2 hgrow2 hat2 hlt2
        have hz2 : w1.heap.size + 1 ≤ w2.heap.size:=by have:=hgrow2.size; simpa using this
        have hub : ∀ k,(Value.slice ua j uc).ownBlock = some k → w.heap.size + 3 ≤ k ∧ k < wr.heap.size:=fun k hk=>HC.out.own.lt k hk
        have hfar : ∀ q : Addr,q.block < w1.heap.size → q.block ≠ wr.heap.size → (Value.slice ua j uc).ownBlock ≠ some q.block → w2.cell? q = w1.cell? q ∧ w2.frozen? q = w1.frozen? q:=fun q h1 h2 h3=>far_set hgrow2 h1 h2 h3
        have HF : Hid (∀ k,k < wr.heap.size → (Value.slice ua j uc).ownBlock ≠ some k → w2.heap[k]? = wr.heap[k]?):=fun k hk hne=>by
          rw [block_set hgrow2 (by omega) (by omega) hne,HEND.out.grown.block k (by simp; omega) (by simp; omega),(World.grownBy_alloc _ _ none).block k (by simp; omega) (by simp),(World.grownBy_alloc _ _ none).block k hk (by simp)]
        have hne2 : ∀ k,k < w.heap.size + 3 → (Value.slice ua j uc).ownBlock ≠ some k:=fun k hk e=>by have:=(hub k e).1; omega
        have hg1 : wr.heap.size + 1 ≤ g1:=by
          rcases HEND.out.at_ with h | h
          · omega
          · simp at h; omega
        have hg1':=HEND.out.lt
        have HOK : Hid (OwnEnts w2 (w.heap.size + 3) (.slice (some ⟨g1,0,none⟩) 0 cap1) o.kids):=own_block HEND.out.own fun k hk=>by
          simp [Value.ownBlock] at hk
          subst hk
          exact block_set hgrow2 hg1' (by omega) (fun e=>by have:=(hub _ e).2; omega)
        have hg2 : w.heap.size + 3 ≤ g2:=(World.ownsRow.lt hown2 g2 rfl).1
        have s0 : w2.cell? ⟨w.heap.size + 2,0,none⟩ = some (.slice ua j uc):=by rw [(hfar _ (by simp; omega) (by simp; omega) (hne2 _ (by simp))).1]; exact e1
        have s1 : w2.frozen? ⟨w.heap.size + 2,0,none⟩ = false:=by rw [(hfar _ (by simp; omega) (by simp; omega) (hne2 _ (by simp))).2]; exact e2
        have s2 : w2.cell? ⟨w.heap.size,0,none⟩ = some (.slice (some ⟨b,off,none⟩) n c):=by rw [(hfar _ (by simp; omega) (by simp; omega) (hne2 _ (by simp))).1,(HH.out _ (by simp; omega)).1]; exact hbx
        have s3 : w2.cell? ⟨w.heap.size + 1,0,none⟩ = some (.slice none 0 0):=by rw [(hfar _ (by simp; omega) (by simp; omega) (hne2 _ (by simp))).1,(HH.out _ (by simp; omega)).1]; exact hres
        have s4 : w2.frozen? ⟨w.heap.size + 1,0,none⟩ = false:=by rw [(hfar _ (by simp; omega) (by simp; omega) (hne2 _ (by simp))).2,(HH.out _ (by simp; omega)).2]; exact hrf
        have hbl : Below w.heap.size w w2:=hb.trans ⟨hgrow2.os.trans HEND.out.grown.os,hgrow2.tape.trans HEND.out.grown.tape,hgrow2.output.trans HEND.out.grown.output,by omega,fun k hk=>HF.out k (by omega) (hne2 k (by omega))⟩
        have HOW2 : Hid (w2.ownsRow (w.heap.size + 3) 165 4 (.slice (some ⟨g2,0,none⟩) (j + 1) cap2) (j + 1) (objCells os vs j ++ [.int .i64 o.kind,.int .i64 o.ver,.string o.text,.slice (some ⟨g1,0,none⟩) 0 cap1])):=hown2
        clear hown2 hgrow2 hat2 hfar hub hne2 d0 d1 d2 d3 f3 e1 e2 hown1 HEND HH hbx hres hrf hfz hu
        go_wp2_with fail
        go_roundg (n - (j + 1))
        case measure=>have:=hk.out; omega
        case rel =>
          have hkk : 0 = o.kids.length:=HK.out
          have HOW3 : w2.ownsRow (w.heap.size + 3) 165 4 (.slice (some ⟨g2,0,none⟩) (j + 1) cap2) (j + 1) (objCells os vs j ++ [.int .i64 o.kind,.int .i64 o.ver,.string o.text,.slice (some ⟨g1,0,none⟩) o.kids.length cap1]):=by rw [← hkk]; exact HOW2.out
          have HOK3 : OwnEnts w2 (w.heap.size + 3) (.slice (some ⟨g1,0,none⟩) o.kids.length cap1) o.kids:=by rw [← hkk]; exact HOK.out
          have hsb : ∀ k v,k ≠ w.heap.size + 2 → (w2.setCell ⟨w.heap.size + 2,0,none⟩ v).heap[k]? = w2.heap[k]?:=fun k v hk=>Below.heap_setCell w2 ⟨w.heap.size + 2,0,none⟩ v k hk
          refine ⟨j + 1,by omega,rfl,by go_num,⟨_,_,_,World.cell?_setCell_same _ _ _ s0,HC.out.next HE.out (fun k h1 h2 h3=>?_) (own_block HOW3 fun k hk=>?_) (own_block HOK3 fun k hk=>?_) (by omega)⟩,?_,?_,?_,?_,hbl.setCell (by show _ ≤ w.heap.size + 1 + 1; omega) _,by simp; omega⟩
          · rw [hsb k _ (by omega)]; exact HF.out k h1 h3
          · simp [Value.ownBlock] at hk; exact hsb k _ (by omega)
          · simp [Value.ownBlock] at hk; exact hsb k _ (by omega)
          · rw [World.cell?_setCell_other _ _ _ _ (by simp)]; exact s2
          · simpa using s1
          · rw [World.cell?_setCell_other _ _ _ _ (by simp)]; exact s3
          · simpa using s4
      · obtain ⟨kb,koff,rfl,hkL,hkU,hkc⟩:=hks.at_ hk0
        have HKC : Hid (∀ j u,(entCells o.kids)[j]? = some u → w.cell? ((⟨kb,koff,none⟩ : Addr).add j) = some u):=ents_cells HK.out hkc
        clear hkc
        go_wp2_with (first
          | (at_builtin; refine wpList_app_ents _ rfl (.tmp 19) (.tmp 21) rfl (w.heap.size + 3) (wr.heap.size + 1) 0 0 [] o.kids rfl (OwnEnts.empty' _ (w.heap.size + 3) (wr.heap.size + 1) (by simp) (by simp; omega)) ⟨kb,koff,none⟩ kn kc HK.out rfl rfl ?c1 ?c2 ?c3 ?_)
          | go_in)
        case c1 =>
          intro jj u hu
          have hadd : ((⟨kb,koff,none⟩ : Addr).add jj).block = kb:=by unfold Addr.add; split <;> rfl
          have hkw : kb < w.heap.size:=by omega
          have hbs:=hb.size
          rw [World.grownBy.cell_far (World.grownBy_alloc _ _ none) _ (by rw [hadd]; simp; omega) (by simp),World.grownBy.cell_far (World.grownBy_alloc _ _ none) _ (by rw [hadd]; omega) (by simp),hb.cell (by rw [hadd]; exact hkw)]
          exact HKC.out jj u hu
        case c2=>omega
        case c3=>simp; omega
        intro g1 cap1 w1 hend1
        have hf1 : ∀ q : Addr,q.block < wr.heap.size + 1 → w1.cell? q = (wr.alloc (Obj.cells #[.int .i64 o.kind,.int .i64 o.ver,.string o.text,.slice (some ⟨kb,koff,none⟩) kn kc] 165)).cell? q ∧ w1.frozen? q = (wr.alloc (Obj.cells #[.int .i64 o.kind,.int .i64 o.ver,.string o.text,.slice (some ⟨kb,koff,none⟩) kn kc] 165)).frozen? q:=fun q hq=>by
          rw [hend1.grown.cell_far q (by simp; omega) (by simp; omega),hend1.grown.frozen_far q (by simp; omega) (by simp; omega)]
          exact ⟨(World.grownBy_alloc _ _ none).cell_far q (by simp; omega) (by simp),(World.grownBy_alloc _ _ none).frozen_far q (by simp; omega) (by simp)⟩
        have hold : ∀ q : Addr,q.block < wr.heap.size → w1.cell? q = wr.cell? q ∧ w1.frozen? q = wr.frozen? q:=fun q hq=>by
          rw [(hf1 q (by omega)).1,(hf1 q (by omega)).2]
          exact ⟨(World.grownBy_alloc _ _ none).cell_far q hq (by simp),(World.grownBy_alloc _ _ none).frozen_far q hq (by simp)⟩
        have hz1 : wr.heap.size + 2 ≤ w1.heap.size:=by have:=hend1.grown.size; simp at this; omega
        have d0 : w1.cell? ⟨wr.heap.size,0,none⟩ = some (.int .i64 o.kind):=by rw [(hf1 _ (by simp)).1]; simp [go_sem]
        have d1 : w1.cell? ⟨wr.heap.size,1,none⟩ = some (.int .i64 o.ver):=by rw [(hf1 _ (by simp)).1]; simp [go_sem]
        have d2 : w1.cell? ⟨wr.heap.size,2,none⟩ = some (.string o.text):=by rw [(hf1 _ (by simp)).1]; simp [go_sem]
        have d3 : w1.cell? ⟨wr.heap.size,3,none⟩ = some (.slice (some ⟨kb,koff,none⟩) kn kc):=by rw [(hf1 _ (by simp)).1]; simp [go_sem]
        have f3 : w1.frozen? ⟨wr.heap.size,3,none⟩ = false:=by rw [(hf1 _ (by simp)).2]; simp [go_sem]
        have e1 : w1.cell? ⟨w.heap.size + 2,0,none⟩ = some (.slice ua j uc):=by rw [(hold _ (by simp; omega)).1]; exact hu
        have e2 : w1.frozen? ⟨w.heap.size + 2,0,none⟩ = false:=by rw [(hold _ (by simp; omega)).2]; exact hfz
        have HH : Hid (∀ q : Addr,q.block < wr.heap.size → w1.cell? q = wr.cell? q ∧ w1.frozen? q = wr.frozen? q):=hold
        have HEND : Hid (AppEnd ((wr.alloc (Obj.cells #[.int .i64 o.kind,.int .i64 o.ver,.string o.text,.slice (some ⟨kb,koff,none⟩) kn kc] 165)).alloc (Obj.cells #[] 247)) w1 (w.heap.size + 3) (wr.heap.size + 1) g1 kn cap1 o.kids):=by show AppEnd _ _ _ _ _ _ _ _; simpa using hend1
        clear hend1 hf1 hold
        have hown1 : Hid (w1.ownsRow (w.heap.size + 3) 165 4 (.slice ua j uc) j (objCells os vs j)):=own_block HC.out.own fun k hk=>by
          have hlt:=(HC.out.own.lt k hk).2
          rw [HEND.out.grown.block k (by simp; omega) (by simp; omega),(World.grownBy_alloc _ _ none).block k (by simp; omega) (by simp),(World.grownBy_alloc _ _ none).block k hlt (by simp)]
        go_wp2_with (first
          | (at_builtin; refine wpList_append_lies _ rfl (.tmp 25) (.tmp 27) 24 rfl (w.heap.size + 3) 165 i0 _ 4 56 Tryz.underlying24 hi hq0 hq1 hq2 rfl (by decide) _ _ _ rfl ((own_set hown1.out hz1 HC).alloc _) ⟨w1.heap.size,0,none⟩ 1 1 [.int .i64 o.kind,.int .i64 o.ver,.string o.text,.slice (some ⟨g1,0,none⟩) kn cap1] rfl rfl ?c1 ?c2 ?c3 ?c4 ?c5 ?c6 _ rfl ?_)
          | go_in)
        case c1=>intro i u hi; exact four_at hi (by simp)
        case c2=>intro u hu; simp at hu; rcases hu with rfl | rfl | rfl | rfl <;> rfl
        case c3=>omega
        case c4=>unfold maxLen; omega
        case c5=>omega
        case c6=>simp; omega
        intro g2 cap2 w2 hown2 hgrow2 hat2 hlt2
        have hz2 : w1.heap.size + 1 ≤ w2.heap.size:=by have:=hgrow2.size; simpa using this
        have hub : ∀ k,(Value.slice ua j uc).ownBlock = some k → w.heap.size + 3 ≤ k ∧ k < wr.heap.size:=fun k hk=>HC.out.own.lt k hk
        have hfar : ∀ q : Addr,q.block < w1.heap.size → q.block ≠ wr.heap.size → (Value.slice ua j uc).ownBlock ≠ some q.block → w2.cell? q = w1.cell? q ∧ w2.frozen? q = w1.frozen? q:=fun q h1 h2 h3=>far_set hgrow2 h1 h2 h3
        have HF : Hid (∀ k,k < wr.heap.size → (Value.slice ua j uc).ownBlock ≠ some k → w2.heap[k]? = wr.heap[k]?):=fun k hk hne=>by
          rw [block_set hgrow2 (by omega) (by omega) hne,HEND.out.grown.block k (by simp; omega) (by simp; omega),(World.grownBy_alloc _ _ none).block k (by simp; omega) (by simp),(World.grownBy_alloc _ _ none).block k hk (by simp)]
        have hne2 : ∀ k,k < w.heap.size + 3 → (Value.slice ua j uc).ownBlock ≠ some k:=fun k hk e=>by have:=(hub k e).1; omega
        have hg1 : wr.heap.size + 1 ≤ g1:=by
          rcases HEND.out.at_ with h | h
          · omega
          · simp at h; omega
        have hg1':=HEND.out.lt
        have HOK : Hid (OwnEnts w2 (w.heap.size + 3) (.slice (some ⟨g1,0,none⟩) kn cap1) o.kids):=own_block HEND.out.own fun k hk=>by
          simp [Value.ownBlock] at hk
          subst hk
          exact block_set hgrow2 hg1' (by omega) (fun e=>by have:=(hub _ e).2; omega)
        have hg2 : w.heap.size + 3 ≤ g2:=(World.ownsRow.lt hown2 g2 rfl).1
        have s0 : w2.cell? ⟨w.heap.size + 2,0,none⟩ = some (.slice ua j uc):=by rw [(hfar _ (by simp; omega) (by simp; omega) (hne2 _ (by simp))).1]; exact e1
        have s1 : w2.frozen? ⟨w.heap.size + 2,0,none⟩ = false:=by rw [(hfar _ (by simp; omega) (by simp; omega) (hne2 _ (by simp))).2]; exact e2
        have s2 : w2.cell? ⟨w.heap.size,0,none⟩ = some (.slice (some ⟨b,off,none⟩) n c):=by rw [(hfar _ (by simp; omega) (by simp; omega) (hne2 _ (by simp))).1,(HH.out _ (by simp; omega)).1]; exact hbx
        have s3 : w2.cell? ⟨w.heap.size + 1,0,none⟩ = some (.slice none 0 0):=by rw [(hfar _ (by simp; omega) (by simp; omega) (hne2 _ (by simp))).1,(HH.out _ (by simp; omega)).1]; exact hres
        have s4 : w2.frozen? ⟨w.heap.size + 1,0,none⟩ = false:=by rw [(hfar _ (by simp; omega) (by simp; omega) (hne2 _ (by simp))).2,(HH.out _ (by simp; omega)).2]; exact hrf
        have hbl : Below w.heap.size w w2:=hb.trans ⟨hgrow2.os.trans HEND.out.grown.os,hgrow2.tape.trans HEND.out.grown.tape,hgrow2.output.trans HEND.out.grown.output,by omega,fun k hk=>HF.out k (by omega) (hne2 k (by omega))⟩
        have HOW2 : Hid (w2.ownsRow (w.heap.size + 3) 165 4 (.slice (some ⟨g2,0,none⟩) (j + 1) cap2) (j + 1) (objCells os vs j ++ [.int .i64 o.kind,.int .i64 o.ver,.string o.text,.slice (some ⟨g1,0,none⟩) kn cap1])):=hown2
        clear hown2 hgrow2 hat2 hfar hub hne2 d0 d1 d2 d3 f3 e1 e2 hown1 HEND HH hbx hres hrf hfz hu
        go_wp2_with fail
        go_roundg (n - (j + 1))
        case measure=>have:=hk.out; omega
        case rel =>
          have hkk:=HK.out
          subst hkk
          have hsb : ∀ k v,k ≠ w.heap.size + 2 → (w2.setCell ⟨w.heap.size + 2,0,none⟩ v).heap[k]? = w2.heap[k]?:=fun k v hk=>Below.heap_setCell w2 ⟨w.heap.size + 2,0,none⟩ v k hk
          refine ⟨j + 1,by omega,rfl,by go_num,⟨_,_,_,World.cell?_setCell_same _ _ _ s0,HC.out.next HE.out (fun k h1 h2 h3=>?_) (own_block HOW2.out fun k hk=>?_) (own_block HOK.out fun k hk=>?_) (by omega)⟩,?_,?_,?_,?_,hbl.setCell (by show _ ≤ w.heap.size + 1 + 1; omega) _,by simp; omega⟩
          · rw [hsb k _ (by omega)]; exact HF.out k h1 h3
          · simp [Value.ownBlock] at hk; exact hsb k _ (by omega)
          · simp [Value.ownBlock] at hk; exact hsb k _ (by omega)
          · rw [World.cell?_setCell_other _ _ _ _ (by simp)]; exact s2
          · simpa using s1
          · rw [World.cell?_setCell_other _ _ _ _ (by simp)]; exact s3
          · simpa using s4
    · have hjn : j = n:=by omega
      have HC' : Hid (CopyAt wr (w.heap.size + 3) (.slice ua n uc) os vs n):=by rw [hjn] at HC; exact HC
      rw [hjn] at hu
      clear HC hjn
      go_wp2_with fail
      refine bodyPost_ret (v:=.agg #[.slice ua n uc]) (by rw [results,Tryz.results110]; simp [go_sem,World.cell?_setCell_same _ _ _ hres]) rfl ⟨⟨_,vs,rfl,?_⟩,hb.setCell (by show _ ≤ w.heap.size + 1; omega) _⟩
      exact copy_set HC'.out
end
section
open Go.RowKit
def intCells (l : List Nat) : List Value:=l.map fun i : Nat=>Value.int .i64 i
structure AppIEnd (w w' : World) (B g g' n cap' : Nat) (l : List Nat) : Prop where
  own : OwnInts w' B (.slice (some ⟨g',0,none⟩) n cap') l
  grown : w.grownBy w' (some g)
  at_ : g' = g ∨ g' = w.heap.size
  lt : g' < w'.heap.size
theorem run_app_ints (w : World) (B g n cap : Nat) (l news : List Nat) (ty : TypeId) (hn : n = l.length) (hown : OwnInts w B (.slice (some ⟨g,0,none⟩) n cap) l) (ad : Addr) (m c : Nat) (hm : m = news.length)
    (hnews : ∀ j u,(intCells news)[j]? = some u → w.cell? (ad.add j) = some u) (hbd : n + m ≤ 4000000) (hB : B ≤ w.heap.size) :
    ∃ g' cap' w',(Builtin.append_ #[166,166] ty #[.slice (some ⟨g,0,none⟩) n cap,.slice (some ad) m c]).run Tryz.prog w = .ok (.slice (some ⟨g',0,none⟩) (n + m) cap') w' ∧ AppIEnd w w' B g g' (n + m) cap' (l ++ news):=by
  obtain ⟨i0,hi,hz0,hz1,hz2⟩:=info_parts infoI
  subst hn hm
  obtain ⟨v',w',hr,h2,h3,h4,h5⟩:=run_append_own_at (P:=Tryz.prog) w B 166 ty 3 i0 _ 1 8 Tryz.underlying166 hi hz0 hz1 hz2 rfl (by decide) _ _ _ hown ad news.length c (intCells news) (by simp [intCells]) hnews (fun u hu=>by simp [intCells] at hu; obtain ⟨_,_,rfl⟩:=hu; rfl) (by unfold maxLen; omega) (by omega) hB
  have h2':=h2
  rcases h2.2 with ⟨hv,_⟩ | ⟨g',cap',cur,rfl,hb,hg,_⟩
  · have:=(h4.1 hv).1; cases this
  · refine ⟨g',cap',w',hr,⟨?_,h3,?_,(Array.getElem?_eq_some_iff.1 hg).1⟩⟩
    · unfold OwnInts; rw [List.map_append,List.length_append]; exact h2'
    · simpa [Value.ownBlock] using h5
theorem wpList_app_ints (w : World) {ops : Array Oper} {rest : List Oper} {o : Oper} {a : Act} {Q : Exit → Act → World → Prop} (hgd : o.guard = none) (s x : Operand)
    (ho : o.op = .call { callee:=.builtin .append,args:=#[s,x],argTypes:=#[166,166] }) (B g n cap : Nat) (l news : List Nat) (hn : n = l.length) (hown : OwnInts w B (.slice (some ⟨g,0,none⟩) n cap) l) (ad : Addr) (m c : Nat) (hm : m = news.length)
    (hs : a.eval s = .slice (some ⟨g,0,none⟩) n cap) (hx : a.eval x = .slice (some ad) m c)
    (hnews : ∀ j u,(intCells news)[j]? = some u → w.cell? (ad.add j) = some u) (hbd : n + m ≤ 4000000) (hB : B ≤ w.heap.size)
    (h : ∀ g' cap' w',AppIEnd w w' B g g' (n + m) cap' (l ++ news) → wpList Tryz.prog ops Q rest (a.put o.dst (.slice (some ⟨g',0,none⟩) (n + m) cap')) w') : wpList Tryz.prog ops Q (o :: rest) a w:=by
  obtain ⟨g',cap',w',hr,h2⟩:=run_app_ints w B g n cap l news o.type hn hown ad m c hm hnews hbd hB
  refine wpList_plain hgd fun K hK=>?_
  unfold Oper.wp execOp
  simp only [ho,resolve,invoke,builtin,Sem.run_bind,Sem.run_pure,Result.andThen_ok,List.map_toArray,List.map_cons,List.map_nil,hs,hx,hr]
  exact hK _ _ (h g' cap' w' h2)
theorem OwnInts.cut {w : World} {B g n cap k : Nat} {l : List Nat} (h : OwnInts w B (.slice (some ⟨g,0,none⟩) n cap) l) (hn : n = l.length) (hk : k ≤ n) : OwnInts w B (.slice (some ⟨g,0,none⟩) k cap) (l.take k):=by
  subst hn
  have hl : (l.take k).length = k:=by simp; omega
  refine ⟨by simp,.inr ?_⟩
  rcases h.2 with ⟨h',_⟩ | ⟨g',cap',cur,h',hb,hg,hnc,hcm,hcs,htake⟩
  · simp at h'
  · simp only [Value.slice.injEq,Option.some.injEq,Addr.mk.injEq,and_true,true_and] at h'
    obtain ⟨rfl,rfl⟩:=h'
    refine ⟨g,cap,cur,by rw [hl],hb,hg,by omega,hcm,hcs,?_⟩
    have e2 : cur.toList.take (k * 1) = (cur.toList.take (l.length * 1)).take k:=by rw [List.take_take]; congr 1; omega
    rw [hl,e2,htake,List.map_take]
theorem OwnInts.rest {w : World} {B g n cap k : Nat} {l : List Nat} (h : OwnInts w B (.slice (some ⟨g,0,none⟩) n cap) l) (hn : n = l.length) : ∀ j u,(intCells (l.drop k))[j]? = some u → w.cell? ((⟨g,k,none⟩ : Addr).add j) = some u:=by
  intro j u hu
  subst hn
  have h1 : (intCells l)[k + j]? = some u:=by simpa [intCells] using hu
  have hj : k + j < l.length * 1:=by
    have:=(List.getElem?_eq_some_iff.1 h1).1
    simpa [intCells] using this
  have h2:=World.ownsRow.cellAt h (k + j) hj
  have hadd : (⟨g,k,none⟩ : Addr).add j = ⟨g,k + j,none⟩:=by unfold Addr.add; split <;> simp_all
  rw [hadd,h2]; exact h1
theorem OwnInts.empty (w : World) (B g : Nat) (hg : w.heap.size = g) (hB : B ≤ w.heap.size) : OwnInts (w.alloc (Obj.cells #[] 3)) B (.slice (some ⟨g,0,none⟩) 0 0) []:=by
  subst hg
  simpa [OwnInts] using World.ownsRow_lit (base:=B) (e:=3) (size:=1) w #[] 0 hB (by simp [maxLen]) rfl
theorem OwnInts.grown {w w' : World} {B g n cap : Nat} {l : List Nat} {row : Option Nat} (h : OwnInts w B (.slice (some ⟨g,0,none⟩) n cap) l) (hg : w.grownBy w' row) (hne : some g ≠ row) : OwnInts w' B (.slice (some ⟨g,0,none⟩) n cap) l :=
  World.ownsRow.kept h hg (.inr (by simpa [Value.ownBlock] using hne))
def placeI (x : Nat) (l : List Nat) : Nat:=(l.takeWhile fun y=>decide (y < x)).length
def putI (x : Nat) (l : List Nat) : List Nat:=if l[placeI x l]? = some x then l else l.take (placeI x l) ++ [x] ++ l.drop (placeI x l)
theorem placeI_at {x : Nat} : ∀ {l : List Nat} {k : Nat},(∀ i,i < k → ∃ e,l[i]? = some e ∧ e < x) → (k = l.length ∨ ∃ e,l[k]? = some e ∧ ¬ e < x) → placeI x l = k
  | [],k,h,h'=>by
    rcases h' with h' | ⟨e,he,_⟩
    · simpa [placeI] using h'.symm
    · simp at he
  | e :: r,0,_,h'=>by
    rcases h' with h' | ⟨y,hy,hl⟩
    · simp at h'
    · simp at hy; subst hy; simp [placeI,hl]
  | e :: r,k + 1,h,h'=>by
    obtain ⟨y,hy,hl⟩:=h 0 (by omega)
    simp at hy; subst hy
    have ih:=placeI_at (x:=x) (l:=r) (k:=k) (fun i hi=>by simpa using h (i + 1) (by omega)) (by simpa using h')
    simp only [placeI,List.takeWhile_cons,hl,decide_true,if_true,List.length_cons] at ih ⊢
    rw [ih]
end
section
open Go.RowKit
theorem putI_len {a : Nat} {l : List Nat} {x : Nat} (h : a = l.length) : a + 1 = (l ++ [x]).length:=by simp [h]
theorem putI_news {Wx w2 : World} {C g g1 n cap : Nat} {l : List Nat} (hg : Wx.grownBy w2 (some g)) (hne : g1 ≠ g) (h : OwnInts Wx C (.slice (some ⟨g1,0,none⟩) n cap) l) : ∀ j u,(intCells l)[j]? = some u → w2.cell? ((⟨g1,0,none⟩ : Addr).add j) = some u:=by
  have h2:=OwnInts.grown h hg (by simpa using hne)
  exact World.ownsRow.cells h2 rfl
def PutIEnd (w : World) (B g : Nat) (x : Nat) (l : List Nat) (e : Ending) (w' : World) : Prop:=∃ g' n' cap',e = .returned (.slice (some ⟨g',0,none⟩) n' cap') ∧ n' = (putI x l).length ∧ OwnInts w' B (.slice (some ⟨g',0,none⟩) n' cap') (putI x l) ∧ w.grownBy w' (some g)
def PutIEndF (w : World) (B g : Nat) (x : Nat) (l : List Nat) (e : Ending) (w' : World) : Prop:=∃ g' n' cap',e = .returned (.slice (some ⟨g',0,none⟩) n' cap') ∧ n' = (putI x l).length ∧ OwnInts w' B (.slice (some ⟨g',0,none⟩) n' cap') (putI x l) ∧ w.grownBy w' (some g) ∧ (g' = g ∨ w.heap.size ≤ g')
theorem PutIEndF.plain {w w' : World} {B g x : Nat} {l : List Nat} {e : Ending} (h : PutIEndF w B g x l e w') : PutIEnd w B g x l e w':=by
  obtain ⟨g',n',cap',h1,h2,h3,h4,_⟩:=h
  exact ⟨g',n',cap',h1,h2,h3,h4⟩
theorem putI_end {w w1 w2 w3 : World} {B g g2 g3 n j cap2 cap3 : Nat} {x : Nat} {l : List Nat} {o : Obj} (hp : placeI x l = j) (hx : l[j]? ≠ some x) (hj : j ≤ n) (hn : n = l.length) (hG : w.grownBy w1 (some g)) (hz : w.heap.size + 1 ≤ w1.heap.size)
    (h2 : AppIEnd (w1.alloc o) w2 B g g2 (j + 1) cap2 (l.take j ++ [x])) (h3 : AppIEnd w2 w3 B g2 g3 (j + 1 + (n - j)) cap3 (l.take j ++ [x] ++ l.drop j)) :
    PutIEndF w B g x l (.returned (.slice (some ⟨g3,0,none⟩) (j + 1 + (n - j)) cap3)) w3:=by
  have hz2:=h2.grown.size
  have hzx : (w1.alloc o).heap.size = w1.heap.size + 1:=by simp
  have hg2 : g2 = g ∨ w.heap.size ≤ g2:=by rcases h2.at_ with h | h <;> omega
  have hput : putI x l = l.take j ++ [x] ++ l.drop j:=by unfold putI; rw [hp,if_neg hx]
  refine ⟨g3,_,cap3,rfl,?_,?_,?_,?_⟩
  · rw [hput]; simp; omega
  · rw [hput]; exact h3.own
  · refine ((hG.trans (World.grownBy_alloc w1 o (some g))).trans h2.grown).andThen h3.grown fun k hk=>?_
    simp at hk
    subst hk
    rcases hg2 with h | h
    · exact .inr (by rw [h])
    · exact .inl h
  · have h4:=h2.grown.size
    rcases h3.at_ with h | h <;> omega
set_option maxHeartbeats 1000000 in
set_option maxRecDepth 20000 in
theorem putI_anyF (B g cap n x : Nat) (l : List Nat) (w : World) (hn : n = l.length) (hn2 : n ≤ 1000000) (hB : B ≤ w.heap.size) (H : OwnInts w B (.slice (some ⟨g,0,none⟩) n cap) l) :
    Calls Tryz.prog 172 #[.slice (some ⟨g,0,none⟩) n cap,.int .i64 (x : Int)] w fun e w'=>PutIEndF w B g x l e w':=by
  have HO : Hid (OwnInts w B (.slice (some ⟨g,0,none⟩) n cap) l):=H
  have hgw : g < w.heap.size:=(World.ownsRow.lt H g rfl).2
  have hcap : n ≤ cap:=by
    rcases H.2 with ⟨h',_⟩ | ⟨g',cap',cur,h',_,_,hnc,hcm,_⟩
    · simp at h'
    · simp at h'; omega
  have hcells : Hid (∀ i,i < n → ∃ e,l[i]? = some e ∧ w.cell? ⟨g,i,none⟩ = some (.int .i64 (e : Nat))):=by
    intro i hi
    have h1:=World.ownsRow.cellAt (hn ▸ H) i (by omega)
    exact ⟨l[i]'(by omega),by simp,by rw [h1,List.getElem?_map]; simp [show i < l.length by omega]⟩
  have HN : Hid (n = l.length):=hn
  clear H hn
  go_enter Tryz.func172,Tryz.ntmps172
  go_wp2_with fail
  go_loopg [5] n (fun k i wr=>∃ j : Nat,j ≤ n ∧ Hid (k = n - j) ∧ i = .int .i64 j ∧ Hid (∀ i,i < j → ∃ e,l[i]? = some e ∧ e < x) ∧ w = wr)
  case atStart=>exact ⟨0,Nat.zero_le _,rfl,rfl,fun i hi=>by omega,rfl⟩
  case round =>
    obtain ⟨j,hj,hk,rfl,hless,rfl⟩:=hrel
    by_cases hlt : j < n
    · obtain ⟨e,he,hc0⟩:=hcells.out j hlt
      have HE : Hid (l[j]? = some e):=he
      have hlt3 : decide (j < n) = true:=by simpa using hlt
      clear he
      by_cases hq : e < x
      · have t1 : decide (e < x) = true:=by simpa using hq
        go_wp2_with fail
        go_roundg (n - (j + 1))
        case measure=>have:=hk.out; omega
        case rel =>
          refine ⟨j + 1,by omega,rfl,by go_num,fun i hi=>?_,rfl⟩
          rcases Nat.lt_or_ge i j with h | h
          · exact hless.out i h
          · obtain rfl : i = j:=by omega
            exact ⟨e,HE.out,hq⟩
      · have t1 : decide (e < x) = false:=by simpa using hq
        have HP : Hid (placeI x l = j):=placeI_at hless.out (.inr ⟨e,HE.out,hq⟩)
        by_cases hqe : e = x
        · have t2 : ((e : Int) == (x : Int)) = true:=by simp [hqe]
          have HQ : Hid (e = x):=hqe
          clear hqe hq
          go_wp2_with fail
          go_ret
          have hput : putI x l = l:=by unfold putI; rw [HP.out,if_pos (by rw [HE.out,HQ.out])]
          exact ⟨g,n,cap,rfl,by rw [hput]; exact HN.out,by rw [hput]; exact HO.out,World.grownBy.refl _ _,.inl rfl⟩
        · have t2 : ((e : Int) == (x : Int)) = false:=by simp; omega
          have HX : Hid (l[j]? ≠ some x):=by show _ ≠ _; rw [HE.out]; simpa using hqe
          clear hqe hq
          -- the three appends
          go_wp2_with (first
            | (at_builtin; refine wpList_app_ints _ rfl (.tmp 34) (.tmp 37) rfl w.heap.size w.heap.size 0 0 [] (l.drop j) rfl (OwnInts.empty w _ _ rfl (Nat.le_refl _)) ⟨g,j,none⟩ (n - j) (cap - j) (by rw [List.length_drop,HN.out]) rfl rfl ?c1 ?c2 ?c3 ?_)
            | go_in)
          case c1=>exact OwnInts.rest (HO.out.grown (World.grownBy_alloc w _ none) (by simp)) HN.out
          case c2=>omega
          case c3=>simp
          intro g1 cap1 w1 hend1
          have HT : Hid (OwnInts w1 w.heap.size (.slice (some ⟨g1,0,none⟩) (n - j) cap1) (l.drop j)):=by show OwnInts _ _ _ _; simpa using hend1.own
          have HL : Hid (OwnInts w1 B (.slice (some ⟨g,0,none⟩) j cap) (l.take j)):=((HO.out.grown (World.grownBy_alloc w _ none) (by simp)).grown hend1.grown (by simp; omega)).cut HN.out hj
          have HG1 : Hid (w.grownBy w1 (some g)):=(World.grownBy_alloc w (Obj.cells #[] 3) (some g)).andThen hend1.grown (fun k hk=>by simp at hk; omega)
          have hg1 : w.heap.size ≤ g1:=by
            rcases hend1.at_ with h | h
            · omega
            · simp at h; omega
          have hg1':=hend1.lt
          have hzz : w.heap.size + 1 ≤ w1.heap.size:=by simpa using hend1.grown.size
          have hg1n : g1 ≠ g:=by omega
          have hlen1 : Hid (j = (l.take j).length):=by show _ = _; have:=HN.out; simp; omega
          have hlen2 : Hid (n - j = (l.drop j).length):=by show _ = _; have:=HN.out; simp; omega
          have hjc : j ≤ cap:=by omega
          clear hend1
          go_wp2_with (first
            | (at_builtin; refine wpList_app_ints _ rfl (.tmp 41) (.tmp 43) rfl B g j cap (l.take j) [x] hlen1.out (World.ownsRow.alloc HL.out _) ⟨w1.heap.size,0,none⟩ 1 1 rfl rfl rfl (fun i u hu=>one_at hu) (by omega) (by simp; omega) ?_)
            | go_in)
          intro g2 cap2 w2 hend2
          go_wp2_with (first
            | (at_builtin; refine wpList_app_ints _ rfl (.tmp 44) (.tmp 45) rfl B g2 (j + 1) cap2 (l.take j ++ [x]) (l.drop j) (putI_len hlen1.out) hend2.own ⟨g1,0,none⟩ (n - j) cap1 hlen2.out rfl rfl (putI_news hend2.grown hg1n (World.ownsRow.alloc HT.out _)) (by omega) (by have:=hend2.grown.size; simp at this; omega) ?_)
            | go_in)
          intro g3 cap3 w3 hend3
          go_wp2_with fail
          go_ret
          exact putI_end HP.out HX.out (by omega) HN.out HG1.out hzz hend2 (by simpa using hend3)
    · have HP : Hid (placeI x l = j):=placeI_at hless.out (.inl (by have:=HN.out; omega))
      have HX : Hid (l[j]? ≠ some x):=by show _ ≠ _; rw [List.getElem?_eq_none (by have:=HN.out; omega)]; simp
      have hlt3 : decide (j < n) = false:=by simpa using hlt
      have HLT : Hid (¬ j < n):=hlt
      clear hlt
      by_cases hcj : j = cap
      · subst hcj
        clear hcap
        -- the three appends
        go_wp2_with (first
          | (at_builtin; refine wpList_app_ints _ rfl (.tmp 34) (.tmp 37) rfl w.heap.size w.heap.size 0 0 [] (l.drop j) rfl (OwnInts.empty w _ _ rfl (Nat.le_refl _)) ⟨g,0,none⟩ (n - j) 0 (by rw [List.length_drop,HN.out]) rfl rfl ?c1 ?c2 ?c3 ?_)
          | go_in)
        case c1=>intro i u hu; rw [List.drop_of_length_le (by have:=HN.out; have:=HLT.out; omega)] at hu; simp [intCells] at hu
        case c2=>omega
        case c3=>simp
        intro g1 cap1 w1 hend1
        have HT : Hid (OwnInts w1 w.heap.size (.slice (some ⟨g1,0,none⟩) (n - j) cap1) (l.drop j)):=by show OwnInts _ _ _ _; simpa using hend1.own
        have HL : Hid (OwnInts w1 B (.slice (some ⟨g,0,none⟩) j j) (l.take j)):=((HO.out.grown (World.grownBy_alloc w _ none) (by simp)).grown hend1.grown (by simp; omega)).cut HN.out hj
        have HG1 : Hid (w.grownBy w1 (some g)):=(World.grownBy_alloc w (Obj.cells #[] 3) (some g)).andThen hend1.grown (fun k hk=>by simp at hk; omega)
        have hg1 : w.heap.size ≤ g1:=by
          rcases hend1.at_ with h | h
          · omega
          · simp at h; omega
        have hg1':=hend1.lt
        have hzz : w.heap.size + 1 ≤ w1.heap.size:=by simpa using hend1.grown.size
        have hg1n : g1 ≠ g:=by omega
        have hlen1 : Hid (j = (l.take j).length):=by show _ = _; have:=HN.out; simp; omega
        have hlen2 : Hid (n - j = (l.drop j).length):=by show _ = _; have:=HN.out; simp; omega
        have hjc : j ≤ j:=by omega
        clear hend1
        go_wp2_with (first
          | (at_builtin; refine wpList_app_ints _ rfl (.tmp 41) (.tmp 43) rfl B g j j (l.take j) [x] hlen1.out (World.ownsRow.alloc HL.out _) ⟨w1.heap.size,0,none⟩ 1 1 rfl rfl rfl (fun i u hu=>one_at hu) (by omega) (by simp; omega) ?_)
          | go_in)
        intro g2 cap2 w2 hend2
        go_wp2_with (first
          | (at_builtin; refine wpList_app_ints _ rfl (.tmp 44) (.tmp 45) rfl B g2 (j + 1) cap2 (l.take j ++ [x]) (l.drop j) (putI_len hlen1.out) hend2.own ⟨g1,0,none⟩ (n - j) cap1 hlen2.out rfl rfl (putI_news hend2.grown hg1n (World.ownsRow.alloc HT.out _)) (by omega) (by have:=hend2.grown.size; simp at this; omega) ?_)
          | go_in)
        intro g3 cap3 w3 hend3
        go_wp2_with fail
        go_ret
        exact putI_end HP.out HX.out (by omega) HN.out HG1.out hzz hend2 (by simpa using hend3)
      · -- the three appends
        go_wp2_with (first
          | (at_builtin; refine wpList_app_ints _ rfl (.tmp 34) (.tmp 37) rfl w.heap.size w.heap.size 0 0 [] (l.drop j) rfl (OwnInts.empty w _ _ rfl (Nat.le_refl _)) ⟨g,j,none⟩ (n - j) (cap - j) (by rw [List.length_drop,HN.out]) rfl rfl ?c1 ?c2 ?c3 ?_)
          | go_in)
        case c1=>intro i u hu; rw [List.drop_of_length_le (by have:=HN.out; have:=HLT.out; omega)] at hu; simp [intCells] at hu
        case c2=>omega
        case c3=>simp
        intro g1 cap1 w1 hend1
        have HT : Hid (OwnInts w1 w.heap.size (.slice (some ⟨g1,0,none⟩) (n - j) cap1) (l.drop j)):=by show OwnInts _ _ _ _; simpa using hend1.own
        have HL : Hid (OwnInts w1 B (.slice (some ⟨g,0,none⟩) j cap) (l.take j)):=((HO.out.grown (World.grownBy_alloc w _ none) (by simp)).grown hend1.grown (by simp; omega)).cut HN.out hj
        have HG1 : Hid (w.grownBy w1 (some g)):=(World.grownBy_alloc w (Obj.cells #[] 3) (some g)).andThen hend1.grown (fun k hk=>by simp at hk; omega)
        have hg1 : w.heap.size ≤ g1:=by
          rcases hend1.at_ with h | h
          · omega
          · simp at h; omega
        have hg1':=hend1.lt
        have hzz : w.heap.size + 1 ≤ w1.heap.size:=by simpa using hend1.grown.size
        have hg1n : g1 ≠ g:=by omega
        have hlen1 : Hid (j = (l.take j).length):=by show _ = _; have:=HN.out; simp; omega
        have hlen2 : Hid (n - j = (l.drop j).length):=by show _ = _; have:=HN.out; simp; omega
        have hjc : j ≤ cap:=by omega
        clear hend1
        go_wp2_with (first
          | (at_builtin; refine wpList_app_ints _ rfl (.tmp 41) (.tmp 43) rfl B g j cap (l.take j) [x] hlen1.out (World.ownsRow.alloc HL.out _) ⟨w1.heap.size,0,none⟩ 1 1 rfl rfl rfl (fun i u hu=>one_at hu) (by omega) (by simp; omega) ?_)
          | go_in)
        intro g2 cap2 w2 hend2
        go_wp2_with (first
          | (at_builtin; refine wpList_app_ints _ rfl (.tmp 44) (.tmp 45) rfl B g2 (j + 1) cap2 (l.take j ++ [x]) (l.drop j) (putI_len hlen1.out) hend2.own ⟨g1,0,none⟩ (n - j) cap1 hlen2.out rfl rfl (putI_news hend2.grown hg1n (World.ownsRow.alloc HT.out _)) (by omega) (by have:=hend2.grown.size; simp at this; omega) ?_)
          | go_in)
        intro g3 cap3 w3 hend3
        go_wp2_with fail
        go_ret
        exact putI_end HP.out HX.out (by omega) HN.out HG1.out hzz hend2 (by simpa using hend3)
theorem putI_any (B g cap n x : Nat) (l : List Nat) (w : World) (hn : n = l.length) (hn2 : n ≤ 1000000) (hB : B ≤ w.heap.size) (H : OwnInts w B (.slice (some ⟨g,0,none⟩) n cap) l) :
    Calls Tryz.prog 172 #[.slice (some ⟨g,0,none⟩) n cap,.int .i64 (x : Int)] w fun e w'=>PutIEnd w B g x l e w' :=
  (putI_anyF B g cap n x l w hn hn2 hB H).mono fun _ _ h=>h.plain
end
end Go.Proofs.YtloopeipheklpaaGreatDoor
