/- Lemmas that the proofs of this seat share: InsB, DelA, TrialA, Fresh. -/
import Derived.Test.YtloopeipheklpaaGreatDoorW01
import Derived.Test.YtloopeipheklpaaGreatDoorW17
import Derived.Test.YtloopeipheklpaaGreatDoorW04
import Derived.Test.YtloopeipheklpaaGreatDoorW15
import Derived.Test.YtloopeipheklpaaGreatDoorW10
import Derived.Test.YtloopeipheklpaaGreatDoorW03
namespace Go.Proofs.YtloopeipheklpaaGreatDoor
section
open Go.RowKit
def InsPost (w w' : World) (B : Nat) (v v' : Value) (es' : List LEnt) : Prop:=OwnEnts w' B v' es' ∧ w.grownBy w' v.ownBlock ∧ ∀ g,v'.ownBlock = some g → v.ownBlock = some g ∨ w.heap.size ≤ g
def InsEnd (w : World) (B : Nat) (v : Value) (n : Nat) (es' : List LEnt) (e : Ending) (w' : World) : Prop:=∃ a' c',e = .returned (.slice a' n c') ∧ InsPost w w' B v (.slice a' n c') es'
theorem run_app_one (w : World) (ty : TypeId) (B n c0 : Nat) (a0 : Option Addr) (es : List LEnt) (x : LEnt) (ad : Addr) (c : Nat) (hn : n = es.length) (hown : OwnEnts w B (.slice a0 n c0) es) (hB : B ≤ w.heap.size) (hbd : n ≤ 1000000)
    (hsrc : ∀ j u,(entCells [x])[j]? = some u → w.cell? (ad.add j) = some u) :
    ∃ a' c' w',(Builtin.append_ #[163,163] ty #[.slice a0 n c0,.slice (some ad) 1 c]).run Tryz.prog w = .ok (.slice a' (n + 1) c') w' ∧ InsPost w w' B (.slice a0 n c0) (.slice a' (n + 1) c') (es ++ [x]):=by
  obtain ⟨i0,hi,hz0,hz1,hz2⟩:=info_parts info47'
  subst hn
  obtain ⟨v',w',hr,h2,h3,h4,h5⟩:=run_append_own_at (P:=Tryz.prog) w B 163 ty 247 i0 _ 2 24 Tryz.underlying163 hi hz0 hz1 hz2 rfl (by decide) _ _ _ hown ad 1 c (entCells [x]) (entCells_len _) hsrc (entCells_one _) (by unfold maxLen; omega) (by omega) hB
  have h2' : OwnEnts w' B v' (es ++ [x]):=by
    unfold OwnEnts
    rw [entCells_app,List.length_append]
    exact h2
  obtain ⟨a',c',rfl⟩:=h2'.shape
  simp only [List.length_append,List.length_cons,List.length_nil,Nat.zero_add] at hr h2' h5 h4
  refine ⟨a',c',w',hr,h2',h3,fun g hg=>?_⟩
  rcases h5 with h5 | h5
  · exact .inl (by rw [← h5]; exact hg)
  · rw [hg] at h5
    simp at h5
    exact .inr (by omega)
theorem wpList_app_one (w : World) {ops : Array Oper} {rest : List Oper} {o : Oper} {a : Act} {Q : Exit → Act → World → Prop} (hgd : o.guard = none) (s x : Operand)
    (ho : o.op = .call { callee:=.builtin .append,args:=#[s,x],argTypes:=#[163,163] }) (B n c0 : Nat) (a0 : Option Addr) (es : List LEnt) (y : LEnt) (ad : Addr) (c : Nat) (hs : a.eval s = .slice a0 n c0) (hx : a.eval x = .slice (some ad) 1 c)
    (hn : n = es.length) (hown : OwnEnts w B (.slice a0 n c0) es) (hB : B ≤ w.heap.size) (hbd : n ≤ 1000000) (hsrc : ∀ j u,(entCells [y])[j]? = some u → w.cell? (ad.add j) = some u)
    (h : ∀ a' c' w',InsPost w w' B (.slice a0 n c0) (.slice a' (n + 1) c') (es ++ [y]) → wpList Tryz.prog ops Q rest (a.put o.dst (.slice a' (n + 1) c')) w') : wpList Tryz.prog ops Q (o :: rest) a w :=
  wpList_plain hgd fun _ hK=>by
    obtain ⟨a',c',w',hr,h2⟩:=run_app_one w o.type B n c0 a0 es y ad c hn hown hB hbd hsrc
    unfold Oper.wp execOp
    simp only [ho,resolve,invoke,builtin,Sem.run_bind,Sem.run_pure,Result.andThen_ok,List.map_toArray,List.map_cons,List.map_nil,hs,hx,hr]
    exact hK _ _ (h a' c' w' h2)
theorem vb_cells {w : World} {vb : Nat} {x : LEnt} (h : w.heap[vb]? = some (.cells #[.string x.name,.int .i64 x.id] 247 (0,0))) : ∀ j u,(entCells [x])[j]? = some u → w.cell? ((⟨vb,0,none⟩ : Addr).add j) = some u:=by
  intro j u hu
  match j,hu with
  | 0,hu=>simp [entCells] at hu; subst hu; simp [Addr.add,World.cell?,h]
  | 1,hu=>simp [entCells] at hu; subst hu; simp [Addr.add,World.cell?,h]
theorem add_plain' (b o j : Nat) : (⟨b,o,none⟩ : Addr).add j = ⟨b,o + j,none⟩:=by unfold Addr.add; split <;> simp_all
theorem getRow {w : World} {g : Nat} {cur : Array Value} (hg : w.heap[g]? = some (.cells cur 247 (0,0))) (k : Nat) (hk : k < cur.size) : w.cell? ⟨g,k,none⟩ = cur.toList[k]?:=by simp [World.cell?,hg,hk]
set_option maxHeartbeats 4000000 in
set_option maxRecDepth 100000 in
theorem insert_end (B : Nat) (a0 : Option Addr) (n c0 : Nat) (es : List LEnt) (x : LEnt) (vb : Nat) (w : World) (hn : n = es.length) (hbd : n ≤ 1000000) (hB : B ≤ w.heap.size) (hown : OwnEnts w B (.slice a0 n c0) es)
    (hvb : w.heap[vb]? = some (.cells #[.string x.name,.int .i64 x.id] 247 (0,0))) :
    Calls Tryz.prog 285 #[.slice a0 n c0,.int .i64 n,.slice (some ⟨vb,0,none⟩) 1 1] w fun e w'=>InsEnd w B (.slice a0 n c0) (n + 1) (es ++ [x]) e w':=by
  have HV : Hid (∀ j u,(entCells [x])[j]? = some u → w.cell? ((⟨vb,0,none⟩ : Addr).add j) = some u):=vb_cells hvb
  have HN : Hid (n = es.length):=hn
  have hnc : n ≤ c0 ∧ c0 ≤ maxLen:=by
    rcases hown.2 with ⟨h',h0⟩ | ⟨g',cap',cur,h',hb,hg,hnc,hcm,hcs,htake⟩
    · simp at h'; unfold maxLen; omega
    · simp at h'; omega
  obtain ⟨hnc,hcm⟩:=hnc
  unfold maxLen at hcm
  clear hn hvb
  by_cases hcn : n = c0
  · subst hcn
    go_enter Tryz.func285,Tryz.ntmps285
    go_wp2_with (first
      | (at_builtin; refine wpList_app_one _ rfl (.tmp 23) (.tmp 24) rfl B n n a0 es x ⟨vb,0,none⟩ 1 rfl rfl HN.out hown hB hbd HV.out ?_)
      | go_in)
    intro a' c' w1 hp
    have HP : Hid (InsPost w w1 B (.slice a0 n n) (.slice a' (n + 1) c') (es ++ [x])):=hp
    clear hp
    go_wp2_with fail
    go_ret
    exact ⟨a',c',rfl,HP.out⟩
  · have hcn' : ¬ (c0 = n):=fun h=>hcn h.symm
    go_enter Tryz.func285,Tryz.ntmps285
    go_wp2_with (first
      | (at_builtin; refine wpList_app_one _ rfl (.tmp 23) (.tmp 24) rfl B n c0 a0 es x ⟨vb,0,none⟩ 1 rfl rfl HN.out hown hB hbd HV.out ?_)
      | go_in)
    intro a' c' w1 hp
    have HP : Hid (InsPost w w1 B (.slice a0 n c0) (.slice a' (n + 1) c') (es ++ [x])):=hp
    clear hp
    go_wp2_with fail
    go_ret
    exact ⟨a',c',rfl,HP.out⟩
set_option maxHeartbeats 4000000 in
set_option maxRecDepth 100000 in
theorem insert_room (B g n cap i : Nat) (es : List LEnt) (x : LEnt) (vb : Nat) (w : World) (hn : n = es.length) (hi : i < n) (hbd : n ≤ 1000000) (hroom : n + 1 ≤ cap) (hown : OwnEnts w B (.slice (some ⟨g,0,none⟩) n cap) es)
    (hvb : w.heap[vb]? = some (.cells #[.string x.name,.int .i64 x.id] 247 (0,0))) (hne : vb ≠ g) :
    Calls Tryz.prog 285 #[.slice (some ⟨g,0,none⟩) n cap,.int .i64 i,.slice (some ⟨vb,0,none⟩) 1 1] w fun e w'=>InsEnd w B (.slice (some ⟨g,0,none⟩) n cap) (n + 1) (es.take i ++ [x] ++ es.drop i) e w':=by
  obtain ⟨cur,hBg,hg,-,hnc,hcm,hcs,htake⟩:=hown.open_
  obtain ⟨i0,hi0,hz0,hz1,hz2⟩:=info_parts info47'
  have hsz : (Tryz.prog.info? 247).map (·.size) = some 2:=by rw [hi0]; simp [hz1]
  have hzs : ∀ w,(Go.sizeOf 247).run Tryz.prog w = .ok 2 w:=fun w=>by simp [sizeOf,typeInfo,hi0,hz1]
  have hov : ∀ lb cb,(callFunc 289 #[.slice (some ⟨vb,0,none⟩) 1 1,.slice (some ⟨g,(i + 1) * 2,none⟩) lb cb]).run Tryz.prog w = .ok (.value (.bool false)) w:=fun lb cb=>by
    rw [run_callFunc_extern Tryz.func289 (by kernel_rfl) (by kernel_rfl) (by kernel_rfl) (e:=Extern.SlicesOverlaps.overlaps #[163,163] #[4]) (by kernel_rfl),
      Lib.run_overlaps_apart w 163 4 247 Tryz.underlying163 2 hzs ⟨vb,0,none⟩ ⟨g,(i + 1) * 2,none⟩ 1 1 lb cb hne 247 247 2 (cap * 2) (by simp [World.shape?,hvb]) (by simp [World.shape?,hg,hcs]) (by omega) (by simp [World.frozen?,hvb]) (by simp [World.frozen?,hvb])]
    rfl
  have HB : Hid (B ≤ g):=hBg
  have HOW : Hid (OwnEnts w B (.slice (some ⟨g,0,none⟩) n cap) es):=hown
  have HG : Hid (w.heap[g]? = some (.cells cur 247 (0,0)) ∧ cur.size = cap * 2 ∧ cur.toList.take (n * 2) = entCells es ∧ n = es.length):=⟨hg,hcs,htake,hn⟩
  obtain ⟨W1,hW1⟩ : ∃ W1 : World,W1 = w.drew.setRow g (splice cur.toList ((i + 1) * 2) ((entCells es).drop (i * 2))).toArray:=⟨_,rfl⟩
  have hEl : (entCells es).length = n * 2:=by rw [entCells_len,hn]
  have hcp1 : ∀ ty dl dc sl sc,dl = n - i → sl = n + 1 - i → (Builtin.copy_ #[163,163] ty #[.slice (some ⟨g,(i + 1) * 2,none⟩) dl dc,.slice (some ⟨g,i * 2,none⟩) sl sc]).run Tryz.prog w.drew = .ok (goInt (Nat.min sl dl)) W1:=fun ty dl dc sl sc h1 h2=>by
    subst h1 h2
    rw [hW1]
    refine run_copy_row2 w.drew 163 163 ty 247 g ((i + 1) * 2) (n - i) dc ⟨g,i * 2,none⟩ (n + 1 - i) sc cur 247 ((entCells es).drop (i * 2)) Tryz.underlying163 hsz hg ?_ (fun j v hj=>?_) ?_ (fun v hv=>entCells_one es v (List.mem_of_mem_drop hv))
    · rw [List.length_drop,hEl]; simp only [Nat.min_def]; split <;> omega
    · rw [add_plain',List.getElem?_drop] at *
      have hlt:=(List.getElem?_eq_some_iff.1 hj).1
      rw [← htake] at hj
      rw [List.getElem?_take] at hj
      rw [World.cell?_drew,getRow hg _ (by omega)]
      split at hj
      · exact hj
      · cases hj
    · rw [List.length_drop,hEl,hcs]; omega
  have hg1 : W1.heap[g]? = some (.cells (splice cur.toList ((i + 1) * 2) ((entCells es).drop (i * 2))).toArray 247 (0,0)):=by
    rw [hW1]; exact setRow_heap w.drew g cur _ 247 (0,0) hg
  have hv1 : W1.heap[vb]? = some (.cells #[.string x.name,.int .i64 x.id] 247 (0,0)):=by
    rw [hW1,setRow_other _ _ _ _ hne]; exact hvb
  have hL1 : (splice cur.toList ((i + 1) * 2) ((entCells es).drop (i * 2))).length = cap * 2:=by rw [splice_len _ _ _ (by rw [List.length_drop,hEl]; simp [hcs]; omega)]; simp [hcs]
  obtain ⟨W2,hW2⟩ : ∃ W2 : World,W2 = W1.setRow g (splice (splice cur.toList ((i + 1) * 2) ((entCells es).drop (i * 2))) (i * 2) [.string x.name,.int .i64 x.id]).toArray:=⟨_,rfl⟩
  have hcp2 : ∀ ty dl dc,dl = n + 1 - i → (Builtin.copy_ #[163,163] ty #[.slice (some ⟨g,i * 2,none⟩) dl dc,.slice (some ⟨vb,0,none⟩) 1 1]).run Tryz.prog W1 = .ok (goInt (Nat.min 1 dl)) W2:=fun ty dl dc h1=>by
    subst h1
    rw [hW2]
    refine run_copy_row2 W1 163 163 ty 247 g (i * 2) (n + 1 - i) dc ⟨vb,0,none⟩ 1 1 _ 247 [.string x.name,.int .i64 x.id] Tryz.underlying163 hsz hg1 ?_ (fun j v hj=>vb_cells hv1 j v (by simpa [entCells] using hj)) ?_ (fun v hv=>by simp at hv; rcases hv with rfl | rfl <;> rfl)
    · simp only [List.length_cons,List.length_nil,Nat.min_def]; split <;> omega
    · show i * 2 + 2 ≤ (splice cur.toList ((i + 1) * 2) ((entCells es).drop (i * 2))).toArray.size
      rw [List.size_toArray,hL1]; omega
  have HPOST : Hid (InsPost w W2 B (.slice (some ⟨g,0,none⟩) n cap) (.slice (some ⟨g,0,none⟩) (n + 1) cap) (es.take i ++ [x] ++ es.drop i)):=by
    refine ⟨OwnEnts.mk_ hBg (by rw [hW2]; exact setRow_heap W1 g _ _ 247 (0,0) hg1) (by simp; omega) hroom hcm ?_ ?_,?_,fun g' h'=>.inl h'⟩
    · simp only [List.size_toArray]
      rw [splice_len _ _ _ (by rw [hL1]; simp; omega),hL1]
    · rw [List.toList_toArray,← entCells_ins,show (n + 1) * 2 = (entCells es).length + 2 by rw [hEl]; omega]
      rw [show (i + 1) * 2 = i * 2 + 2 by omega]
      refine splice_shift cur.toList (entCells es) (i * 2) _ _ (by rw [hEl]; omega) (by rw [hEl]; simp [hcs]; omega) (by rw [hEl]; exact htake)
    · rw [hW2,hW1]
      exact setRow_grown (setRow_grown (w0:=w) (w:=w.drew) ⟨rfl,rfl,rfl,Nat.le_refl _,fun _ _ _=>rfl⟩ (.inl rfl)) (.inl rfl)
  clear hW1 hW2 hg1 hv1 hL1 hg hcs htake hown hvb hBg hEl hn
  unfold maxLen at hcm
  have hw1 : IntKind.i64.wrap ((i : Int) + 1) = (i : Int) + 1:=by rw [IntKind.wrap_i64]; omega
  have hb1 : (0 : Int) ≤ (i : Int) + 1:=by omega
  have hi0' : (0 : Int) ≤ (i : Int):=by omega
  have hin : (i : Int) ≤ (n : Int):=by omega
  have htn : ((i : Int) + 1).toNat = i + 1:=by omega
  have hb2 : ¬ (cap = i + 1):=by omega
  have hb3 : (i : Int) ≤ (n : Int) + 1:=by omega
  have hb4 : ¬ (cap = i):=by omega
  have hz2' : ¬ ((i : Int) = (n : Int)):=by omega
  go_enter Tryz.func285,Tryz.ntmps285
  go_wp2_with (simp only [hov])
  refine wp_region_held_drew (S:=(fun _ : World=>True)) (by kernel_rfl) ?_ (fun hHeld=>?_)
  · trivial
  refine listH (l2:=#[false,false,false,false,false,false,false,false,false]) (by kernel_rfl) ?_
  refine takeH (i:=0) (oi:=_) (v:=?vt1x0) 69 #[true,false,false,false,false,false,false,false,false] rfl (by kernel_rfl) (by kernel_rfl) (by kernel_rfl) rfl (by kernel_rfl) (fun _ _ _ h=>h) (Or.inl ⟨by rfl,?yt1x0⟩) (by assumption) ?rt1x0
  case yt1x0=>(intro w' hSw; (try dsimp only at hSw); go_simp; try with_reducible rfl)
  simp only [Act.put,sT,sS,sZ]
  refine takeH (i:=1) (oi:=_) (v:=?vt1x1) 70 #[true,true,false,false,false,false,false,false,false] rfl (by kernel_rfl) (by kernel_rfl) (by kernel_rfl) rfl (by kernel_rfl) (fun _ _ _ h=>h) (Or.inl ⟨by rfl,?yt1x1⟩) (by assumption) ?rt1x1
  case yt1x1=>(intro w' hSw; (try dsimp only at hSw); go_simp; try with_reducible rfl)
  simp only [Act.put,sT,sS,sZ]
  refine takeH (i:=2) (oi:=_) (v:=?vt1x2) 71 #[true,true,true,false,false,false,false,false,false] rfl (by kernel_rfl) (by kernel_rfl) (by kernel_rfl) rfl (by kernel_rfl) (fun _ _ _ h=>h) (Or.inl ⟨by rfl,?yt1x2⟩) (by assumption) ?rt1x2
  case yt1x2=>(intro w' hSw; (try dsimp only at hSw); go_simp; try with_reducible rfl)
  simp only [Act.put,sT,sS,sZ]
  refine takeH (i:=3) (oi:=_) (v:=?vt1x3) 72 #[true,true,true,true,false,false,false,false,false] rfl (by kernel_rfl) (by kernel_rfl) (by kernel_rfl) rfl (by kernel_rfl) (fun _ _ _ h=>h) (Or.inl ⟨by rfl,?yt1x3⟩) (by assumption) ?rt1x3
  case yt1x3=>(intro w' hSw; (try dsimp only at hSw); go_simp; try with_reducible rfl)
  simp only [Act.put,sT,sS,sZ]
  refine takeH (i:=4) (oi:=_) (v:=?vt1x4) 73 #[true,true,true,true,true,false,false,false,false] rfl (by kernel_rfl) (by kernel_rfl) (by kernel_rfl) rfl (by kernel_rfl) (fun _ _ _ h=>h) (Or.inl ⟨by rfl,?yt1x4⟩) (by assumption) ?rt1x4
  case yt1x4=>(intro w' hSw; (try dsimp only at hSw); go_simp; try with_reducible rfl)
  simp only [Act.put,sT,sS,sZ]
  refine takeH (i:=5) (oi:=_) (v:=?vt1x5) 74 #[true,true,true,true,true,true,false,false,false] rfl (by kernel_rfl) (by kernel_rfl) (by kernel_rfl) rfl (by kernel_rfl) (fun _ _ _ h=>h) (Or.inl ⟨by rfl,?yt1x5⟩) (by assumption) ?rt1x5
  case yt1x5=>(intro w' hSw; (try dsimp only at hSw); go_simp; try with_reducible rfl)
  simp only [Act.put,sT,sS,sZ]
  refine takeH (i:=6) (oi:=_) (v:=?vt1x6) 75 #[true,true,true,true,true,true,true,false,false] rfl (by kernel_rfl) (by kernel_rfl) (by kernel_rfl) rfl (by kernel_rfl) (fun _ _ _ h=>h) (Or.inl ⟨by rfl,?yt1x6⟩) (by assumption) ?rt1x6
  case yt1x6=>(intro w' hSw; (try dsimp only at hSw); go_simp; try with_reducible rfl)
  simp only [Act.put,sT,sS,sZ]
  refine takeH (i:=7) (oi:=_) (v:=?vt1x7) 76 #[true,true,true,true,true,true,true,true,false] rfl (by kernel_rfl) (by kernel_rfl) (by kernel_rfl) rfl (by kernel_rfl) (fun _ _ _ h=>h) (Or.inl ⟨by rfl,?yt1x7⟩) (by assumption) ?rt1x7
  case yt1x7=>(intro w' hSw; (try dsimp only at hSw); go_simp; try with_reducible rfl)
  simp only [Act.put,sT,sS,sZ]
  refine wpAnyH_ready (rs:=[8]) (by kernel_rfl) (by simp) ?_
  refine AllReadyH.cons (o:=_) rfl (fun K hK=>?_) AllReadyH.nil
  refine wp_copy_run' _ (.tmp 73) (.tmp 76) 163 163 rfl _ _ rfl rfl (hcp1 _ _ _ _ _ (by omega) (by omega)) ?_
  refine hK.out _ _ ?_ (fun hHeld=>?_)
  · trivial
  clear hK K
  try simp only [Act.put]
  refine listH (l2:=#[true,true,true,true,true,true,true,true,true]) (by kernel_rfl) ?_
  refine wpAnyH_done (by kernel_rfl) ?_ _
  go_wp2_with (at_builtin; refine wpList_copy_run' _ rfl _ _ 163 163 rfl _ _ rfl rfl (hcp2 _ _ _ (by omega)) ?_)
  go_ret
  exact ⟨_,_,rfl,HPOST.out⟩
theorem zc_size (k : Nat) : (Builtin.zeroCells (Value.agg #[.string ⟨#[]⟩,.int .i64 0]).cells k).size = k * 2:=by simp [Builtin.zeroCells,Value.cells]
set_option maxHeartbeats 4000000 in
set_option maxRecDepth 100000 in
theorem insert_grow (B g n cap i : Nat) (es : List LEnt) (x : LEnt) (vb : Nat) (w : World) (hn : n = es.length) (hi : i < n) (hbd : n ≤ 1000000) (hroom : cap < n + 1) (hB : B ≤ w.heap.size) (hown : OwnEnts w B (.slice (some ⟨g,0,none⟩) n cap) es)
    (hvb : w.heap[vb]? = some (.cells #[.string x.name,.int .i64 x.id] 247 (0,0))) :
    Calls Tryz.prog 285 #[.slice (some ⟨g,0,none⟩) n cap,.int .i64 i,.slice (some ⟨vb,0,none⟩) 1 1] w fun e w'=>InsEnd w B (.slice (some ⟨g,0,none⟩) n cap) (n + 1) (es.take i ++ [x] ++ es.drop i) e w':=by
  obtain ⟨cur,hBg,hg,-,hnc,hcm,hcs,htake⟩:=hown.open_
  obtain ⟨i0,hi0,hz0,hz1,hz2⟩:=info_parts info47'
  have hsz : (Tryz.prog.info? 247).map (·.size) = some 2:=by rw [hi0]; simp [hz1]
  have hEl : (entCells es).length = n * 2:=by rw [entCells_len,hn]
  have hgl : g < w.heap.size:=(Array.getElem?_eq_some_iff.1 hg).1
  have hvl : vb < w.heap.size:=(Array.getElem?_eq_some_iff.1 hvb).1
  have hat : ∀ j v,(entCells es)[j]? = some v → w.cell? ⟨g,j,none⟩ = some v:=fun j v hj=>by
    have hlt:=(List.getElem?_eq_some_iff.1 hj).1
    rw [← htake,List.getElem?_take] at hj
    rw [getRow hg _ (by omega)]
    split at hj
    · exact hj
    · cases hj
  have hold : (Builtin.firstCells i0.size i (.slice (some ⟨g,0,none⟩) i cap)).run Tryz.prog w.drew = .ok ((entCells es).take (i * 2)).toArray w.drew:=by
    rw [hz1]
    exact run_firstCells_some w.drew 2 i ⟨g,0,none⟩ i cap ((entCells es).take (i * 2)) (by rw [List.length_take,hEl]; omega) (fun j v hj=>by
      rw [add_plain',Nat.zero_add,World.cell?_drew]
      rw [List.getElem?_take] at hj
      split at hj
      · exact hat j v hj
      · cases hj)
  have hkk : (n : Int) + 1 - (i : Int) = ((n + 1 - i : Nat) : Int):=by omega
  have hik : i + (n + 1 - i) = n + 1:=by omega
  obtain ⟨G,hG⟩ : ∃ G,G = grownCap w (n + 1) cap 247:=⟨_,rfl⟩
  obtain ⟨ROW,hROW⟩ : ∃ ROW : Array Value,ROW = ((entCells es).take (i * 2)).toArray ++ Builtin.zeroCells (Value.agg #[.string ⟨#[]⟩,.int .i64 0]).cells (n + 1 - i) ++ Builtin.zeroCells (Value.agg #[.string ⟨#[]⟩,.int .i64 0]).cells (G - (n + 1)):=⟨_,rfl⟩
  obtain ⟨W1,hW1⟩ : ∃ W1 : World,W1 = w.drew.alloc (.cells ROW 247):=⟨_,rfl⟩
  have hrz : ∀ ty,(Builtin.append_ #[163,3] ty #[.slice (some ⟨g,0,none⟩) i cap,.int .i64 ((n + 1 - i : Nat) : Int)]).run Tryz.prog w = .ok (.slice (some ⟨w.heap.size,0,none⟩) (n + 1) G) W1:=fun ty=>by
    have h:=Lib.run_append_grow_zeros w 163 3 ty 247 i0 _ .i64 .i64 Tryz.underlying163 Tryz.underlying3 hi0 hz0 (some ⟨g,0,none⟩) i cap _ hold (n + 1 - i) (by omega) (by omega) (by omega) (by omega) (by rw [hz2]; omega) (by rw [hz2,hik]; exact growslice_fits hroom (by omega))
    rw [hik] at h
    rw [hW1,hROW,hG]
    exact h
  have hGn : n + 1 ≤ G:=by rw [hG]; exact grownCap_ge w _ _ _
  have hGm : G ≤ maxLen:=by rw [hG]; exact grownCap_le_maxLen w (n + 1) cap 247 (by unfold maxLen; omega)
  have hRs : ROW.toList.length = G * 2:=by
    rw [hROW]
    simp only [Array.length_toList,Array.size_append,List.size_toArray,zc_size,List.length_take,hEl]
    omega
  have hRt : ROW.toList.take (i * 2) = (entCells es).take (i * 2):=by
    rw [hROW]
    simp only [Array.toList_append,List.append_assoc]
    rw [List.take_left' (by simp [hEl]; omega)]
  have hg1 : W1.heap[w.heap.size]? = some (.cells ROW 247 (0,0)):=by rw [hW1]; exact heap_alloc_new w.drew _
  have hv1 : W1.heap[vb]? = some (.cells #[.string x.name,.int .i64 x.id] 247 (0,0)):=by
    rw [hW1,(World.grownBy_alloc w.drew (.cells ROW 247) none).block vb hvl (by simp)]; exact hvb
  obtain ⟨R2,hR2⟩ : ∃ R2 : List Value,R2 = splice ROW.toList (i * 2) [.string x.name,.int .i64 x.id]:=⟨_,rfl⟩
  have hR2l : R2.length = G * 2:=by rw [hR2,splice_len _ _ _ (by rw [hRs]; simp; omega),hRs]
  obtain ⟨W2,hW2⟩ : ∃ W2 : World,W2 = W1.setRow w.heap.size R2.toArray:=⟨_,rfl⟩
  have hcpA : ∀ ty dl dc,dl = n + 1 - i → (Builtin.copy_ #[163,163] ty #[.slice (some ⟨w.heap.size,i * 2,none⟩) dl dc,.slice (some ⟨vb,0,none⟩) 1 1]).run Tryz.prog W1 = .ok (goInt (Nat.min 1 dl)) W2:=fun ty dl dc h1=>by
    subst h1
    rw [hW2,hR2]
    refine run_copy_row2 W1 163 163 ty 247 w.heap.size (i * 2) (n + 1 - i) dc ⟨vb,0,none⟩ 1 1 ROW 247 [.string x.name,.int .i64 x.id] Tryz.underlying163 hsz hg1 ?_ (fun j v hj=>vb_cells hv1 j v (by simpa [entCells] using hj)) ?_ (fun v hv=>by simp at hv; rcases hv with rfl | rfl <;> rfl)
    · simp only [List.length_cons,List.length_nil,Nat.min_def]; split <;> omega
    · rw [← Array.length_toList,hRs]; simp; omega
  have hg2 : W2.heap[w.heap.size]? = some (.cells R2.toArray 247 (0,0)):=by rw [hW2]; exact setRow_heap W1 _ ROW _ 247 (0,0) hg1
  have hgo : ∀ k,W2.cell? ⟨g,k,none⟩ = w.cell? ⟨g,k,none⟩:=fun k=>World.cell?_of_block (w:=w) (by
    show W2.heap[g]? = w.heap[g]?
    rw [hW2,setRow_other _ _ _ _ (by omega),hW1,(World.grownBy_alloc w.drew (.cells ROW 247) none).block g hgl (by simp)]; rfl)
  obtain ⟨W3,hW3⟩ : ∃ W3 : World,W3 = W2.drew.setRow w.heap.size (splice R2 ((i + 1) * 2) ((entCells es).drop (i * 2))).toArray:=⟨_,rfl⟩
  have hcpB : ∀ ty dl dc sl sc,dl = n - i → sl = n - i → (Builtin.copy_ #[163,163] ty #[.slice (some ⟨w.heap.size,(i + 1) * 2,none⟩) dl dc,.slice (some ⟨g,i * 2,none⟩) sl sc]).run Tryz.prog W2.drew = .ok (goInt (Nat.min sl dl)) W3:=fun ty dl dc sl sc h1 h2=>by
    subst h1 h2
    rw [hW3]
    refine run_copy_row2 W2.drew 163 163 ty 247 w.heap.size ((i + 1) * 2) (n - i) dc ⟨g,i * 2,none⟩ (n - i) sc R2.toArray 247 ((entCells es).drop (i * 2)) Tryz.underlying163 hsz hg2 ?_ (fun j v hj=>?_) ?_ (fun v hv=>entCells_one es v (List.mem_of_mem_drop hv))
    · rw [List.length_drop,hEl]; simp only [Nat.min_def]; split <;> omega
    · rw [add_plain',World.cell?_drew,hgo]
      rw [List.getElem?_drop] at hj
      exact hat _ v hj
    · rw [List.size_toArray,hR2l,List.length_drop,hEl]; omega
  have HPOST : Hid (InsPost w W3 B (.slice (some ⟨g,0,none⟩) n cap) (.slice (some ⟨w.heap.size,0,none⟩) (n + 1) G) (es.take i ++ [x] ++ es.drop i)):=by
    refine ⟨OwnEnts.mk_ hB (by rw [hW3]; exact setRow_heap W2.drew _ _ _ 247 (0,0) hg2) (by simp; omega) hGn hGm ?_ ?_,?_,fun g' h'=>.inr (by simp [Value.ownBlock] at h'; omega)⟩
    · rw [List.size_toArray,splice_len _ _ _ (by rw [hR2l,List.length_drop,hEl]; omega),hR2l]
    · rw [List.toList_toArray,← entCells_ins,show (n + 1) * 2 = (entCells es).length + 2 by rw [hEl]; omega,hR2,show (i + 1) * 2 = i * 2 + 2 by omega]
      exact splice_new ROW.toList (entCells es) (i * 2) _ _ (by rw [hEl]; omega) (by rw [hEl,hRs]; omega) hRt
    · rw [hW3,hW2,hW1]
      refine setRow_grown (w0:=w) (w:=World.drew _) ?_ (.inr (Nat.le_refl _))
      have h1:=setRow_grown (w0:=w) (w:=w.drew.alloc (.cells ROW 247)) (g:=w.heap.size) (c:=R2.toArray) (row:=some g) ⟨rfl,rfl,rfl,by simp,fun k hk hne=>(World.grownBy_alloc w.drew _ (some g)).block k hk hne⟩ (.inr (Nat.le_refl _))
      exact ⟨h1.os,h1.tape,h1.output,h1.size,h1.block⟩
  clear hW1 hW2 hW3 hg1 hg2 hv1 hg hcs htake hown hvb hBg hEl hn hRs hRt hR2 hR2l hG hROW hold hat hgo hgl hvl
  unfold maxLen at hcm hGm
  have hw1 : IntKind.i64.wrap ((i : Int) + 1) = (i : Int) + 1:=by rw [IntKind.wrap_i64]; omega
  have hb1 : (0 : Int) ≤ (i : Int) + 1:=by omega
  have hi0' : (0 : Int) ≤ (i : Int):=by omega
  have hin : (i : Int) ≤ (n : Int):=by omega
  have hic : (i : Int) ≤ (cap : Int):=by omega
  have htn : ((i : Int) + 1).toNat = i + 1:=by omega
  have hb2 : ¬ (cap = i + 1) ∨ cap = i + 1:=by omega
  have hb3 : (i : Int) ≤ (n : Int) + 1:=by omega
  have hb4 : ¬ (cap = i):=by omega
  have hb5 : ¬ (G = i):=by omega
  have hb6 : ¬ (G = i + 1):=by omega
  have hz2' : ¬ ((i : Int) = (n : Int)):=by omega
  have hz3 : (cap : Int) < (n : Int) + 1:=by omega
  clear hb2
  go_enter Tryz.func285,Tryz.ntmps285
  go_wp2_with (first
    | (at_builtin; refine Lib.wpList_append_run _ rfl _ _ 163 3 rfl _ _ rfl rfl _ _ (hrz _) ?_)
    | (at_builtin; refine wpList_copy_run' _ rfl _ _ 163 163 rfl _ _ rfl rfl (hcpA _ _ _ (by omega)) ?_))
  refine wp_region_held_drew (S:=(fun _ : World=>True)) (by kernel_rfl) ?_ (fun hHeld=>?_)
  · trivial
  refine listH (l2:=#[false,false,false,false,false,false,false,false,false]) (by kernel_rfl) ?_
  refine takeH (i:=0) (oi:=_) (v:=?vt2x0) 46 #[true,false,false,false,false,false,false,false,false] rfl (by kernel_rfl) (by kernel_rfl) (by kernel_rfl) rfl (by kernel_rfl) (fun _ _ _ h=>h) (Or.inl ⟨by rfl,?yt2x0⟩) (by assumption) ?rt2x0
  case yt2x0=>(intro w' hSw; (try dsimp only at hSw); go_simp; try with_reducible rfl)
  simp only [Act.put,sT,sS,sZ]
  refine takeH (i:=1) (oi:=_) (v:=?vt2x1) 47 #[true,true,false,false,false,false,false,false,false] rfl (by kernel_rfl) (by kernel_rfl) (by kernel_rfl) rfl (by kernel_rfl) (fun _ _ _ h=>h) (Or.inl ⟨by rfl,?yt2x1⟩) (by assumption) ?rt2x1
  case yt2x1=>(intro w' hSw; (try dsimp only at hSw); go_simp; try with_reducible rfl)
  simp only [Act.put,sT,sS,sZ]
  refine takeH (i:=2) (oi:=_) (v:=?vt2x2) 48 #[true,true,true,false,false,false,false,false,false] rfl (by kernel_rfl) (by kernel_rfl) (by kernel_rfl) rfl (by kernel_rfl) (fun _ _ _ h=>h) (Or.inl ⟨by rfl,?yt2x2⟩) (by assumption) ?rt2x2
  case yt2x2=>(intro w' hSw; (try dsimp only at hSw); go_simp; try with_reducible rfl)
  simp only [Act.put,sT,sS,sZ]
  refine takeH (i:=3) (oi:=_) (v:=?vt2x3) 49 #[true,true,true,true,false,false,false,false,false] rfl (by kernel_rfl) (by kernel_rfl) (by kernel_rfl) rfl (by kernel_rfl) (fun _ _ _ h=>h) (Or.inl ⟨by rfl,?yt2x3⟩) (by assumption) ?rt2x3
  case yt2x3=>(intro w' hSw; (try dsimp only at hSw); go_simp; try with_reducible rfl)
  simp only [Act.put,sT,sS,sZ]
  refine takeH (i:=4) (oi:=_) (v:=?vt2x4) 50 #[true,true,true,true,true,false,false,false,false] rfl (by kernel_rfl) (by kernel_rfl) (by kernel_rfl) rfl (by kernel_rfl) (fun _ _ _ h=>h) (Or.inl ⟨by rfl,?yt2x4⟩) (by assumption) ?rt2x4
  case yt2x4=>(intro w' hSw; (try dsimp only at hSw); go_simp; try with_reducible rfl)
  simp only [Act.put,sT,sS,sZ]
  refine takeH (i:=5) (oi:=_) (v:=?vt2x5) 51 #[true,true,true,true,true,true,false,false,false] rfl (by kernel_rfl) (by kernel_rfl) (by kernel_rfl) rfl (by kernel_rfl) (fun _ _ _ h=>h) (Or.inl ⟨by rfl,?yt2x5⟩) (by assumption) ?rt2x5
  case yt2x5=>(intro w' hSw; (try dsimp only at hSw); go_simp; try with_reducible rfl)
  simp only [Act.put,sT,sS,sZ]
  refine takeH (i:=6) (oi:=_) (v:=?vt2x6) 52 #[true,true,true,true,true,true,true,false,false] rfl (by kernel_rfl) (by kernel_rfl) (by kernel_rfl) rfl (by kernel_rfl) (fun _ _ _ h=>h) (Or.inl ⟨by rfl,?yt2x6⟩) (by assumption) ?rt2x6
  case yt2x6=>(intro w' hSw; (try dsimp only at hSw); go_simp; try with_reducible rfl)
  simp only [Act.put,sT,sS,sZ]
  refine takeH (i:=7) (oi:=_) (v:=?vt2x7) 53 #[true,true,true,true,true,true,true,true,false] rfl (by kernel_rfl) (by kernel_rfl) (by kernel_rfl) rfl (by kernel_rfl) (fun _ _ _ h=>h) (Or.inl ⟨by rfl,?yt2x7⟩) (by assumption) ?rt2x7
  case yt2x7=>(intro w' hSw; (try dsimp only at hSw); go_simp; try with_reducible rfl)
  simp only [Act.put,sT,sS,sZ]
  refine wpAnyH_ready (rs:=[8]) (by kernel_rfl) (by simp) ?_
  refine AllReadyH.cons (o:=_) rfl (fun K hK=>?_) AllReadyH.nil
  refine wp_copy_run' _ (.tmp 50) (.tmp 53) 163 163 rfl _ _ rfl rfl (hcpB _ _ _ _ _ (by omega) (by omega)) ?_
  refine hK.out _ _ ?_ (fun hHeld=>?_)
  · trivial
  clear hK K
  try simp only [Act.put]
  refine listH (l2:=#[true,true,true,true,true,true,true,true,true]) (by kernel_rfl) ?_
  refine wpAnyH_done (by kernel_rfl) ?_ _
  go_wp2_with fail
  go_ret
  exact ⟨_,_,rfl,HPOST.out⟩
theorem insert_any (B : Nat) (a0 : Option Addr) (n c0 i : Nat) (es : List LEnt) (x : LEnt) (vb : Nat) (w : World) (hn : n = es.length) (hi : i ≤ n) (hbd : n ≤ 1000000) (hB : B ≤ w.heap.size) (hown : OwnEnts w B (.slice a0 n c0) es)
    (hvb : w.heap[vb]? = some (.cells #[.string x.name,.int .i64 x.id] 247 (0,0))) (hne : (Value.slice a0 n c0).ownBlock ≠ some vb) :
    Calls Tryz.prog 285 #[.slice a0 n c0,.int .i64 i,.slice (some ⟨vb,0,none⟩) 1 1] w fun e w'=>InsEnd w B (.slice a0 n c0) (n + 1) (es.take i ++ [x] ++ es.drop i) e w':=by
  by_cases h : i = n
  · subst h
    have:=insert_end B a0 i c0 es x vb w hn hbd hB hown hvb
    rwa [List.take_of_length_le (by omega),List.drop_of_length_le (by omega),List.append_nil]
  · rcases hown.2 with ⟨h',h0⟩ | ⟨g',cap',cur,h',hb,hg,hnc,hcm,hcs,htake⟩
    · omega
    · simp only [Value.slice.injEq] at h'
      obtain ⟨rfl,-,rfl⟩:=h'
      by_cases hr : n + 1 ≤ c0
      · exact insert_room B g' n c0 i es x vb w hn (by omega) hbd hr hown hvb (fun e=>hne (by simp [Value.ownBlock,e]))
      · exact insert_grow B g' n c0 i es x vb w hn (by omega) hbd (by omega) hB hown hvb
end
section
open Go.RowKit
theorem run_append_row2 {P : Program} (w : World) (t tx ty e : TypeId) (i : TypeInfo) (ht : P.underlying t = some (.slice e)) (hi : P.info? e = some i) (h2 : i.size = 2) (g sLen sCap : Nat) (x : Value) (n : Nat) (news : List Value) (hs : Src P 2 tx x n news w)
    (hroom : sLen + n ≤ sCap) (cur : Array Value) (tr : TypeId) (hg : w.heap[g]? = some (.cells cur tr (0,0))) (hfit : sLen * 2 + news.length ≤ cur.size) :
    (Builtin.append_ #[t,tx] ty #[.slice (some ⟨g,0,none⟩) sLen sCap,x]).run P w = .ok (.slice (some ⟨g,0,none⟩) (sLen + n) sCap) (w.setRow g (splice cur.toList (sLen * 2) news).toArray):=by
  have hst:=run_storeCells_at P g (sLen * 2) tr news 0 cur w hg (by simpa using hfit) hs.one
  have hc:=hs.cells
  rcases hs.kind with ⟨e',hk⟩ | hk <;> simp [Builtin.append_,run_underlying ht,run_underlying hk,sizeOf,typeInfo,hi,h2,hs.len,hroom,hc,Addr.add_lit,hst,splice]
theorem splice_out (l E : List Value) (p : Nat) (u v : Value) (hp : p + 2 ≤ E.length) (hl : E.length ≤ l.length) (hE : l.take E.length = E) :
    (splice (splice l p (E.drop (p + 2))) (E.length - 2) [u,v]).take (E.length - 2) = E.take p ++ E.drop (p + 2):=by
  have hget : ∀ j,j < E.length → l[j]? = E[j]?:=fun j hj=>by rw [← hE]; simp [hj]
  apply List.ext_getElem?
  intro j
  rw [List.getElem?_take]
  by_cases h0 : j < E.length - 2
  · rw [if_pos h0,splice_get _ _ _ (by rw [splice_len _ _ _ (by simp; omega)]; simp; omega),if_pos h0,splice_get _ _ _ (by simp; omega)]
    by_cases h1 : j < p
    · rw [if_pos h1,List.getElem?_append_left (by simp; omega),List.getElem?_take,if_pos h1]
      exact hget j (by omega)
    · rw [if_neg h1,if_pos (by simp; omega),List.getElem?_append_right (by simp; omega)]
      congr 1
      simp [show min p E.length = p by omega]
  · rw [if_neg h0]
    symm
    apply List.getElem?_eq_none
    simp; omega
set_option maxHeartbeats 4000000 in
set_option maxRecDepth 100000 in
theorem delete_any (B g n cap i : Nat) (es : List LEnt) (w : World) (hn : n = es.length) (hi : i < n) (hbd : n ≤ 1000000) (hown : OwnEnts w B (.slice (some ⟨g,0,none⟩) n cap) es) :
    Calls Tryz.prog 297 #[.slice (some ⟨g,0,none⟩) n cap,.int .i64 i,.int .i64 ((i : Int) + 1)] w fun e w'=>InsEnd w B (.slice (some ⟨g,0,none⟩) n cap) (n - 1) (es.take i ++ es.drop (i + 1)) e w':=by
  obtain ⟨cur,hBg,hg,-,hnc,hcm,hcs,htake⟩:=hown.open_
  obtain ⟨i0,hi0,hz0,hz1,hz2⟩:=info_parts info47'
  have hEl : (entCells es).length = n * 2:=by rw [entCells_len,hn]
  have hat : ∀ j v,(entCells es)[j]? = some v → w.cell? ⟨g,j,none⟩ = some v:=fun j v hj=>by
    have hlt:=(List.getElem?_eq_some_iff.1 hj).1
    rw [← htake,List.getElem?_take] at hj
    rw [getRow hg _ (by omega)]
    split at hj
    · exact hj
    · cases hj
  obtain ⟨R1,hR1⟩ : ∃ R1 : List Value,R1 = splice cur.toList (i * 2) ((entCells es).drop ((i + 1) * 2)):=⟨_,rfl⟩
  have hR1l : R1.length = cap * 2:=by rw [hR1,splice_len _ _ _ (by rw [List.length_drop,hEl,Array.length_toList,hcs]; omega)]; simp [hcs]
  obtain ⟨W1,hW1⟩ : ∃ W1 : World,W1 = w.drew.setRow g R1.toArray:=⟨_,rfl⟩
  have hap : ∀ (oa : Option Addr) c ty m,(m = n - (i + 1) ∧ ∃ ad,oa = some ad ∧ (m = 0 ∨ ad = ⟨g,(i + 1) * 2,none⟩)) → (Builtin.append_ #[163,163] ty #[.slice (some ⟨g,0,none⟩) i cap,.slice oa m c]).run Tryz.prog w.drew = .ok (.slice (some ⟨g,0,none⟩) (n - 1) cap) W1:=fun oa c ty m hm=>by
    obtain ⟨rfl,ad,rfl,had⟩:=hm
    have hs : Src Tryz.prog 2 163 (.slice (some ad) (n - (i + 1)) c) (n - (i + 1)) ((entCells es).drop ((i + 1) * 2)) w.drew:=by
      refine Src.ofSlice w.drew Tryz.underlying163 ad (n - (i + 1)) c _ (by rw [List.length_drop,hEl]; omega) (fun j u hu=>?_) (fun v hv=>entCells_one es v (List.mem_of_mem_drop hv))
      rw [List.getElem?_drop] at hu
      have hlt:=(List.getElem?_eq_some_iff.1 hu).1
      rcases had with h0 | rfl
      · omega
      · rw [add_plain',World.cell?_drew]
        exact hat _ u hu
    have h:=run_append_row2 (P:=Tryz.prog) w.drew 163 163 ty 247 i0 Tryz.underlying163 hi0 hz1 g i cap _ _ _ hs (by omega) cur 247 hg (by rw [List.length_drop,hEl,hcs]; omega)
    rw [show i + (n - (i + 1)) = n - 1 by omega,← hR1] at h
    rw [hW1]
    exact h
  have hg1 : W1.heap[g]? = some (.cells R1.toArray 247 (0,0)):=by rw [hW1]; exact setRow_heap w.drew g cur _ 247 (0,0) hg
  obtain ⟨W2,hW2⟩ : ∃ W2 : World,W2 = W1.setRow g (splice R1 ((n - 1) * 2) [.string ⟨#[]⟩,.int .i64 0]).toArray:=⟨_,rfl⟩
  have hcl : ∀ ty c,(Builtin.clear_ #[163] ty #[.slice (some ⟨g,(n - 1) * 2,none⟩) 1 c]).run Tryz.prog W1 = .ok (.tuple #[]) W2:=fun ty c=>by
    have hst:=run_storeCells_at Tryz.prog g ((n - 1) * 2) 247 [.string ⟨#[]⟩,.int .i64 0] 0 R1.toArray W1 hg1 (by rw [List.size_toArray,hR1l]; simp; omega) (fun v hv=>by simp at hv; rcases hv with rfl | rfl <;> rfl)
    have hzc : (Builtin.zeroCells (Value.agg #[.string ⟨#[]⟩,.int .i64 0]).cells 1).toList = [.string ⟨#[]⟩,.int .i64 0]:=by kernel_rfl
    rw [hW2]
    simp [Builtin.clear_,run_underlying Tryz.underlying163,zeroValue,typeInfo,hi0,hz0,hzc,hst,splice]
  have HPOST : Hid (InsPost w W2 B (.slice (some ⟨g,0,none⟩) n cap) (.slice (some ⟨g,0,none⟩) (n - 1) cap) (es.take i ++ es.drop (i + 1))):=by
    refine ⟨OwnEnts.mk_ hBg (by rw [hW2]; exact setRow_heap W1 g _ _ 247 (0,0) hg1) (by simp; omega) (by omega) hcm ?_ ?_,?_,fun g' h'=>.inl h'⟩
    · rw [List.size_toArray,splice_len _ _ _ (by rw [hR1l]; simp; omega),hR1l]
    · have hsp:=splice_out cur.toList (entCells es) (i * 2) (.string ⟨#[]⟩) (.int .i64 0) (by rw [hEl]; omega) (by rw [hEl]; simp [hcs]; omega) (by rw [hEl]; exact htake)
      rw [hEl,show n * 2 - 2 = (n - 1) * 2 by omega,show i * 2 + 2 = (i + 1) * 2 by omega,← hR1] at hsp
      rw [List.toList_toArray,hsp,entCells_take,entCells_drop,← entCells_app]
    · rw [hW2,hW1]
      exact setRow_grown (setRow_grown (w0:=w) (w:=w.drew) ⟨rfl,rfl,rfl,Nat.le_refl _,fun _ _ _=>rfl⟩ (.inl rfl)) (.inl rfl)
  clear hW1 hW2 hg1 hg hcs htake hown hBg hEl hn hR1 hR1l hat
  unfold maxLen at hcm
  have hi0' : (0 : Int) ≤ (i : Int):=by omega
  have hb1 : (0 : Int) ≤ (i : Int) + 1:=by omega
  have hw1 : IntKind.i64.wrap ((i : Int) + 1) = (i : Int) + 1:=by rw [IntKind.wrap_i64]; omega
  have hin : (i : Int) ≤ (n : Int):=by omega
  have hjn : (i : Int) + 1 ≤ (n : Int):=by omega
  have hic : (i : Int) ≤ (cap : Int):=by omega
  have hncI : (n : Int) ≤ (cap : Int):=by omega
  have htn : ((i : Int) + 1).toNat = i + 1:=by omega
  have hz1' : ¬ ((i : Int) = (i : Int) + 1):=by omega
  have hni : ¬ (n = i):=by omega
  have hb4 : ¬ (cap = i):=by omega
  have hb5 : ¬ (cap = n - 1):=by omega
  have hnn : n - (n - 1) = 1:=by omega
  have hn1 : ((n - 1 : Nat) : Int) ≤ (n : Int):=by omega
  have hn0 : (0 : Int) ≤ ((n - 1 : Nat) : Int):=by omega
  go_enter Tryz.func297,Tryz.ntmps297
  go_wp2_with fail
  refine wp_region_held_drew (S:=(fun _ : World=>True)) (by kernel_rfl) ?_ (fun hHeld=>?_)
  · trivial
  refine listH (l2:=#[false,false,false,false,false,false,false,false]) (by kernel_rfl) ?_
  refine takeH (i:=0) (oi:=_) (v:=?vt1x0) 20 #[true,false,false,false,false,false,false,false] rfl (by kernel_rfl) (by kernel_rfl) (by kernel_rfl) rfl (by kernel_rfl) (fun _ _ _ h=>h) (Or.inl ⟨by rfl,?yt1x0⟩) (by assumption) ?rt1x0
  case yt1x0=>(intro w' hSw; (try dsimp only at hSw); go_simp; try with_reducible rfl)
  simp only [Act.put,sT,sS,sZ]
  refine takeH (i:=1) (oi:=_) (v:=?vt1x1) 21 #[true,true,false,false,false,false,false,false] rfl (by kernel_rfl) (by kernel_rfl) (by kernel_rfl) rfl (by kernel_rfl) (fun _ _ _ h=>h) (Or.inl ⟨by rfl,?yt1x1⟩) (by assumption) ?rt1x1
  case yt1x1=>(intro w' hSw; (try dsimp only at hSw); go_simp; try with_reducible rfl)
  simp only [Act.put,sT,sS,sZ]
  refine takeH (i:=2) (oi:=_) (v:=?vt1x2) 22 #[true,true,true,false,false,false,false,false] rfl (by kernel_rfl) (by kernel_rfl) (by kernel_rfl) rfl (by kernel_rfl) (fun _ _ _ h=>h) (Or.inl ⟨by rfl,?yt1x2⟩) (by assumption) ?rt1x2
  case yt1x2=>(intro w' hSw; (try dsimp only at hSw); go_simp; try with_reducible rfl)
  simp only [Act.put,sT,sS,sZ]
  refine takeH (i:=3) (oi:=_) (v:=?vt1x3) 23 #[true,true,true,true,false,false,false,false] rfl (by kernel_rfl) (by kernel_rfl) (by kernel_rfl) rfl (by kernel_rfl) (fun _ _ _ h=>h) (Or.inl ⟨by rfl,?yt1x3⟩) (by assumption) ?rt1x3
  case yt1x3=>(intro w' hSw; (try dsimp only at hSw); go_simp; try with_reducible rfl)
  simp only [Act.put,sT,sS,sZ]
  refine takeH (i:=4) (oi:=_) (v:=?vt1x4) 24 #[true,true,true,true,true,false,false,false] rfl (by kernel_rfl) (by kernel_rfl) (by kernel_rfl) rfl (by kernel_rfl) (fun _ _ _ h=>h) (Or.inl ⟨by rfl,?yt1x4⟩) (by assumption) ?rt1x4
  case yt1x4=>(intro w' hSw; (try dsimp only at hSw); go_simp; try with_reducible rfl)
  simp only [Act.put,sT,sS,sZ]
  refine takeH (i:=5) (oi:=_) (v:=?vt1x5) 25 #[true,true,true,true,true,true,false,false] rfl (by kernel_rfl) (by kernel_rfl) (by kernel_rfl) rfl (by kernel_rfl) (fun _ _ _ h=>h) (Or.inl ⟨by rfl,?yt1x5⟩) (by assumption) ?rt1x5
  case yt1x5=>(intro w' hSw; (try dsimp only at hSw); go_simp; try with_reducible rfl)
  simp only [Act.put,sT,sS,sZ]
  refine wpAnyH_ready (rs:=[6]) (by kernel_rfl) (by simp) ?_
  refine AllReadyH.cons (o:=_) rfl (fun K hK=>?_) AllReadyH.nil
  refine Lib.wp_append_run _ (.tmp 22) (.tmp 25) 163 163 rfl _ _ rfl rfl _ _ (hap _ _ _ _ ⟨by omega,by split <;> exact ⟨_,rfl,by first | exact .inr rfl | (left; omega)⟩⟩) ?_
  refine hK.out _ _ ?_ (fun hHeld=>?_)
  · trivial
  clear hK K
  try simp only [Act.put]
  refine listH (l2:=#[true,true,true,true,true,true,true,false]) (by kernel_rfl) ?_
  refine wpAnyH_ready (rs:=[7]) (by kernel_rfl) (by simp) ?_
  refine AllReadyH.cons (o:=_) rfl (fun K hK=>?_) AllReadyH.nil
  go_simp
  refine hK.out _ _ ?_ (fun hHeld=>?_)
  · trivial
  clear hK K
  try simp only [Act.put]
  refine listH (l2:=#[true,true,true,true,true,true,true,true]) (by kernel_rfl) ?_
  refine wpAnyH_done (by kernel_rfl) ?_ _
  go_wp2_with (at_builtin; refine wpList_clear_run' _ rfl _ 163 rfl _ rfl (hcl _ _) ?_)
  all_goals
    have h9:=HPOST.out
    go_ret
    first
      | exact ⟨_,_,rfl,h9⟩
      | exact ⟨_,_,rfl,by rw [‹cap = i + 1›] at h9; exact h9⟩
end
section
open Go.RowKit
structure MixT (w : World) (B b c j : Nat) (os : List LObj) (ks vs : Nat → Value) : Prop where
  lo : B ≤ b
  row : ∃ cur,w.heap[b]? = some (.cells cur 165 (0,0)) ∧ cur.size = c * 4 ∧ os.length ≤ c ∧ c ≤ maxLen
  at_ : ∀ i o,os[i]? = some o → w.cell? ⟨b,i * 4,none⟩ = some (.int .i64 o.kind) ∧ w.cell? ⟨b,i * 4 + 1,none⟩ = some (.int .i64 o.ver) ∧ w.cell? ⟨b,i * 4 + 2,none⟩ = some (.string o.text) ∧ w.cell? ⟨b,i * 4 + 3,none⟩ = some (if i < j then vs i else ks i)
  own : ∀ i o,i < j → os[i]? = some o → OwnEnts w B (vs i) o.kids
  apart : ∀ i k g,i < j → k < j → i ≠ k → (vs i).ownBlock = some g → (vs k).ownBlock ≠ some g
theorem MixT.lt {w : World} {B b c j : Nat} {os : List LObj} {ks vs : Nat → Value} (h : MixT w B b c j os ks vs) : b < w.heap.size:=by
  obtain ⟨cur,hg,_⟩:=h.row
  exact (Array.getElem?_eq_some_iff.1 hg).1
theorem MixT.frozen {w : World} {B b c j : Nat} {os : List LObj} {ks vs : Nat → Value} (h : MixT w B b c j os ks vs) (k : Nat) : w.frozen? ⟨b,k,none⟩ = false:=by
  obtain ⟨cur,hg,_⟩:=h.row
  exact frozen_of_row w b k cur 165 hg
theorem ent_ne {w : World} {B b : Nat} {cur : Array Value} {v : Value} {es : List LEnt} (hr : w.heap[b]? = some (.cells cur 165 (0,0))) (ho : OwnEnts w B v es) : v.ownBlock ≠ some b:=by
  intro hv
  rcases ho.2 with ⟨rfl,_⟩ | ⟨g,cap,cur',rfl,_,hg',_⟩
  · simp [Value.ownBlock] at hv
  · simp [Value.ownBlock] at hv
    subst hv
    rw [hr] at hg'
    simp at hg'
theorem MixT.start {w : World} {B g cap n : Nat} {os : List LObj} {ks : Nat → Value} (hn : n = os.length) (h : w.ownsRow B 165 4 (.slice (some ⟨g,0,none⟩) n cap) n (objCells os ks n)) : MixT w B g cap 0 os ks ks:=by
  have hat : ∀ j,j < n * 4 → w.cell? ⟨g,j,none⟩ = (objCells os ks n)[j]?:=fun j hj=>World.ownsRow.cellAt h j hj
  rcases h.2 with ⟨h',_⟩ | ⟨g',cap',cur,h',hb,hg,hnc,hcm,hcs,_⟩
  · simp at h'
  · simp only [Value.slice.injEq,Option.some.injEq,Addr.mk.injEq,and_true,true_and] at h'
    obtain ⟨rfl,rfl⟩:=h'
    refine ⟨hb,⟨cur,hg,hcs,by omega,hcm⟩,fun i o ho=>?_,fun i o hi=>by omega,fun i k g hi=>by omega⟩
    have hi : i < n:=by rw [hn]; exact (List.getElem?_eq_some_iff.1 ho).1
    obtain ⟨q0,q1,q2,q3⟩:=objCells_at os ks n (by omega) i o hi ho
    exact ⟨by rw [hat _ (by omega),q0],by rw [hat _ (by omega),q1],by rw [hat _ (by omega),q2],by rw [hat _ (by omega),q3]; simp⟩
theorem MixT.next {w w1 : World} {B b c j : Nat} {os : List LObj} {ks vs : Nat → Value} {v : Value} {o : LObj} (h : MixT w B b c j os ks vs) (ho : os[j]? = some o) (hv : NewEnts w w1 B v o.kids) :
    MixT (w1.setCell ⟨b,j * 4 + 3,none⟩ v) B b c (j + 1) os ks (fun i=>if i = j then v else vs i):=by
  obtain ⟨cur,hr,hcs,hlc,hcm⟩:=h.row
  obtain ⟨hown,hgr,hnew⟩:=hv
  have hr1 : w1.heap[b]? = some (.cells cur 165 (0,0)):=by rw [hgr.block b h.lt (by simp)]; exact hr
  have hc1 : ∀ k,w1.cell? ⟨b,k,none⟩ = w.cell? ⟨b,k,none⟩:=fun k=>World.cell?_of_block (w:=w) (hgr.block b h.lt (by simp))
  have hold : ∀ i p,i < j → os[i]? = some p → OwnEnts w1 B (vs i) p.kids:=fun i p hi hp=>World.ownsRow.kept (h.own i p hi hp) hgr (by cases hv : (vs i).ownBlock <;> simp)
  have hltv : ∀ i g,i < j → (vs i).ownBlock = some g → g < w.heap.size:=fun i g hi hg=>by
    have hp : os[i]? = some (os[i]'(by have:=(List.getElem?_eq_some_iff.1 ho).1; omega)):=by simp [show i < os.length by have:=(List.getElem?_eq_some_iff.1 ho).1; omega]
    exact (World.ownsRow.lt (h.own i _ hi hp) g hg).2
  refine ⟨h.lo,⟨_,heap_setCell_same w1 b (j * 4 + 3) cur 165 _ hr1,by simpa using hcs,hlc,hcm⟩,fun i p hp=>?_,fun i p hi hp=>?_,fun i k g hi hk hne hg=>?_⟩
  · obtain ⟨q0,q1,q2,q3⟩:=h.at_ i p hp
    rw [← hc1] at q0 q1 q2 q3
    refine ⟨by rw [World.cell?_setCell_other _ _ _ _ (by simp <;> omega)]; exact q0,by rw [World.cell?_setCell_other _ _ _ _ (by simp <;> omega)]; exact q1,by rw [World.cell?_setCell_other _ _ _ _ (by simp <;> omega)]; exact q2,?_⟩
    by_cases hij : i = j
    · subst hij
      rw [World.cell?_setCell_same _ _ _ q3]
      simp
    · rw [World.cell?_setCell_other _ _ _ _ (by simp <;> omega),q3]
      by_cases hlt : i < j
      · simp [hlt,hij,show i < j + 1 by omega]
      · simp [hlt,show ¬ i < j + 1 by omega]
  · by_cases hij : i = j
    · subst hij
      rw [ho] at hp
      cases hp
      simp only [if_true]
      exact kept_set hown (ent_ne hr1 hown)
    · simp only [hij,if_false]
      exact kept_set (hold i p (by omega) hp) (ent_ne hr1 (hold i p (by omega) hp))
  · by_cases hij : i = j
    · have hkj : k ≠ j:=by omega
      simp only [hij,if_true] at hg
      simp only [hkj,if_false]
      intro hk2
      have h1:=hltv k g (by omega) hk2
      rcases hnew with h2 | h2 <;> rw [hg] at h2 <;> simp at h2
      omega
    · simp only [hij,if_false] at hg
      by_cases hkj : k = j
      · simp only [hkj,if_true]
        intro hk2
        have h1:=hltv i g (by omega) hg
        rcases hnew with h2 | h2 <;> rw [hk2] at h2 <;> simp at h2
        omega
      · simp only [hkj,if_false]
        exact h.apart i k g (by omega) (by omega) hne hg
theorem MixT.done {w : World} {L U B b c n : Nat} {os : List LObj} {ks vs : Nat → Value} {W : World} (h : MixT w B b c n os ks vs) (hn : n = os.length) (hk : KidsV W L U os ks) : OwnT w B b c os vs:=by
  refine ⟨h.lo,h.row,fun i o ho=>?_,fun i k g hi hk=>h.apart i k g (by omega) (by omega)⟩
  have hi : i < n:=by rw [hn]; exact (List.getElem?_eq_some_iff.1 ho).1
  obtain ⟨q0,q1,q2,q3⟩:=h.at_ i o ho
  obtain ⟨ht,ka,kc,_,hE⟩:=hk.at_ i o ho
  refine ⟨ht,q0,q1,q2,by rw [q3]; simp [hi],h.own i o hi ho,fun e he=>?_⟩
  obtain ⟨j,hj,rfl⟩:=List.getElem_of_mem he
  obtain ⟨b',off,_,_,_,hc⟩:=hE.at_ (by omega)
  obtain ⟨e',he',hs,_⟩:=hc j hj
  simp [hj] at he'
  rw [he']
  exact hs
def TrialEnd (w : World) (n : Nat) (os : List LObj) (e : Ending) (w' : World) : Prop:=(∃ b c vs,e = .returned (.agg #[.slice (some ⟨b,0,none⟩) n c]) ∧ OwnT w' (w.heap.size + 2) b c os vs) ∧ Below w.heap.size w w'
set_option maxHeartbeats 2000000 in
set_option maxRecDepth 20000 in
theorem copyTree_any (a : Option Addr) (n c : Nat) (os : List LObj) (L U : Nat) (w : World) (h1 : 1 ≤ n) (hn : n ≤ 1048576) (hS : Sizes os 1048576) (hU : U ≤ w.heap.size) (H : ObjsAt w L U a n os) :
    Calls Tryz.prog 185 #[.agg #[.slice a n c]] w fun e w'=>TrialEnd w n os e w':=by
  obtain ⟨b0,off,ks,rfl,hL,hbU,hcells,hKV⟩:=ks_of H (by omega)
  have HKV : Hid (KidsV w L U os ks):=hKV
  have HLN : Hid (n = os.length):=H.len
  have hA : ∀ o1 o2 : Obj,Below w.heap.size w ((w.alloc o1).alloc o2):=fun o1 o2=>((Below.refl _ _).alloc (Nat.le_refl _) _).alloc (by simp) _
  have HCL : Hid (∀ j u,(objCells os ks n)[j]? = some u → w.cell? ((⟨b0,off,none⟩ : Addr).add j) = some u):=hcells
  clear hcells hKV H
  go_enter Tryz.func185,Tryz.ntmps185
  go_wp2_with fail
  refine (copy_objs b0 off n c os ks _ HLN.out (by omega) (by omega) HKV.out.one (fun j u hu=>?_)).mono ?_
  · have hadd : ((⟨b0,off,none⟩ : Addr).add j).block = b0:=by unfold Addr.add; split <;> rfl
    rw [(hA _ _).cell (by rw [hadd]; omega)]
    exact HCL.out j u hu
  rintro e w1 ⟨⟨g,cap,rfl,hrow⟩,hb1⟩
  have hz1 : w.heap.size + 2 ≤ w1.heap.size:=by have:=hb1.size; simpa using this
  have HM : Hid (MixT w1 (w.heap.size + 2) g cap 0 os ks ks):=by
    show MixT _ _ _ _ _ _ _ _
    exact MixT.start HLN.out (by simpa using hrow)
  have r0 : w1.cell? ⟨w.heap.size + 1,0,none⟩ = some (.slice none 0 0):=by rw [hb1.cell (by simp)]; simp [go_sem]
  have r1 : w1.frozen? ⟨w.heap.size + 1,0,none⟩ = false:=by rw [hb1.frozen (by simp)]; simp [go_sem]
  have HB1 : Hid (Below w.heap.size w w1):=(hA _ _).trans (hb1.mono (by simp <;> omega))
  clear hb1 hrow HCL
  go_wp2_with fail
  go_loopg [10] n (fun k i wr=>∃ j : Nat,j ≤ n ∧ Hid (k = n - j) ∧ i = .int .i64 j ∧ (∃ vs,Hid (MixT wr (w.heap.size + 2) g cap j os ks vs)) ∧ Below (w.heap.size + 2) w1 wr)
  case atStart=>exact ⟨0,Nat.zero_le _,rfl,rfl,⟨ks,HM.out⟩,Below.refl _ _⟩
  case round =>
    obtain ⟨j,hj,hk,rfl,⟨vs,hM⟩,hb⟩:=hrel
    by_cases hlt : j < n
    · obtain ⟨o,ho⟩ : ∃ o,os[j]? = some o:=⟨os[j]'(by rw [← HLN.out]; exact hlt),by simp⟩
      have HO : Hid (os[j]? = some o):=ho
      obtain ⟨_,ka,kc,hks,hE⟩:=HKV.out.at_ j o ho
      have hc3 : wr.cell? ⟨g,j * 4 + 3,none⟩ = some (.slice ka o.kids.length kc):=by
        rw [(hM.out.at_ j o ho).2.2.2,if_neg (by omega),hks]
      have hf3 : wr.frozen? ⟨g,j * 4 + 3,none⟩ = false:=hM.out.frozen _
      have hks' : o.kids.length ≤ 1048576:=hS o (List.mem_of_getElem? ho)
      have hE' : Hid (EntsAt wr L U ka o.kids.length o.kids):=hE.below (HB1.out.trans (hb.mono (by omega))) hU
      have hltI : (j : Int) < (n : Int):=by omega
      have hgl:=hM.out.lt
      clear ho hks hE
      go_wp2_with fail
      refine (copy_ents (w.heap.size + 2) ka o.kids.length kc o.kids L U wr (by have:=hb.size; omega) hks' hE'.out).mono ?_
      rintro e w2 ⟨a',c',rfl,hnew⟩
      have hgrow : wr.grownBy w2 none:=hnew.2.1
      have s0 : w2.cell? ⟨g,j * 4 + 3,none⟩ = some (.slice ka o.kids.length kc):=by rw [hgrow.cell_far _ hgl (by simp)]; exact hc3
      have s1 : w2.frozen? ⟨g,j * 4 + 3,none⟩ = false:=by rw [hgrow.frozen_far _ hgl (by simp)]; exact hf3
      have HNX : Hid (MixT (w2.setCell ⟨g,j * 4 + 3,none⟩ (.slice a' o.kids.length c')) (w.heap.size + 2) g cap (j + 1) os ks (fun i=>if i = j then .slice a' o.kids.length c' else vs i)):=hM.out.next HO.out hnew
      have hb2 : Below (w.heap.size + 2) w1 w2:=below_grown hb hgrow (fun k hk=>by cases hk) (by have:=hb.size; omega)
      have hlo:=hM.out.lo
      clear hnew hgrow hc3 hf3 hM
      go_wp2_with fail
      go_roundg (n - (j + 1))
      case measure=>have:=hk.out; omega
      case rel=>exact ⟨j + 1,by omega,rfl,by go_num,⟨_,HNX.out⟩,hb2.setCell hlo _⟩
    · obtain rfl : j = n:=by omega
      have t0 : wr.cell? ⟨w.heap.size + 1,0,none⟩ = some (.slice none 0 0):=by rw [hb.cell (by simp)]; exact r0
      have t1 : wr.frozen? ⟨w.heap.size + 1,0,none⟩ = false:=by rw [hb.frozen (by simp)]; exact r1
      have hO:=hM.out.done HLN.out HKV.out
      have HOT : Hid (OwnT wr (w.heap.size + 2) g cap os vs):=hO
      clear hO
      go_wp2_with fail
      refine bodyPost_ret (v:=.agg #[.slice (some ⟨g,0,none⟩) j cap]) (by rw [results,Tryz.results185]; simp [go_sem,World.cell?_setCell_same _ _ _ t0]) rfl ⟨⟨g,cap,vs,rfl,?_⟩,?_⟩
      case refine_2=>exact (HB1.out.trans (hb.mono (by omega))).setCell (by show _ ≤ w.heap.size + 1; omega) _
      refine HOT.out.grown (row:=some (w.heap.size + 1)) ⟨rfl,rfl,rfl,by simp,fun k _ hk=>Below.heap_setCell wr ⟨w.heap.size + 1,0,none⟩ _ k (by intro e; exact hk (by simp [e]))⟩ (by have:=HOT.out.lo; simp; omega) fun i hi=>?_
      obtain ⟨o,ho⟩ : ∃ o,os[i]? = some o:=⟨os[i]'hi,by simp⟩
      cases hv : (vs i).ownBlock with
      | none=>exact .inl rfl
      | some q =>
        have:=(World.ownsRow.lt (HOT.out.at_ i o ho).2.2.2.2.2.1 q hv).1
        exact .inr (by simp; omega)
set_option maxRecDepth 20000 in
theorem trialOf_any (a : Option Addr) (n c : Nat) (os : List LObj) (L U : Nat) (w : World) (h1 : 1 ≤ n) (hn : n ≤ 1048576) (hS : Sizes os 1048576) (hU : U ≤ w.heap.size) (H : ObjsAt w L U a n os) :
    Calls Tryz.prog 183 #[.agg #[.slice a n c]] w fun e w'=>TrialEnd w n os e w':=by
  have hA : ∀ o1 o2 : Obj,Below w.heap.size w ((w.alloc o1).alloc o2):=fun o1 o2=>((Below.refl _ _).alloc (Nat.le_refl _) _).alloc (by simp) _
  have HO : Hid (ObjsAt w L U a n os):=H
  clear H
  go_enter Tryz.func183,Tryz.ntmps183
  go_wp2_with fail
  refine (copyTree_any a n c os L U _ h1 hn hS (by simp; omega) (HO.out.below (hA _ _) hU)).mono ?_
  rintro e w1 ⟨⟨b,cap,vs,rfl,hO⟩,hb1⟩
  have hz1 : w.heap.size + 2 ≤ w1.heap.size:=by have:=hb1.size; simpa using this
  have HOT : Hid (OwnT w1 (w.heap.size + 2) b cap os vs):=hO.base' (by simp)
  have r0 : w1.cell? ⟨w.heap.size + 1,0,none⟩ = some (.slice none 0 0):=by rw [hb1.cell (by simp)]; simp [go_sem]
  have r1 : w1.frozen? ⟨w.heap.size + 1,0,none⟩ = false:=by rw [hb1.frozen (by simp)]; simp [go_sem]
  have HB1 : Hid (Below w.heap.size w w1):=(hA _ _).trans (hb1.mono (by simp <;> omega))
  clear hO hb1 HO
  go_wp2_with fail
  refine bodyPost_ret (v:=.agg #[.slice (some ⟨b,0,none⟩) n cap]) (by rw [results,Tryz.results183]; simp [go_sem,World.cell?_setCell_same _ _ _ r0]) rfl ⟨⟨b,cap,vs,rfl,?_⟩,?_⟩
  case refine_2=>exact HB1.out.setCell (by show _ ≤ w.heap.size + 1; omega) _
  refine HOT.out.grown (row:=some (w.heap.size + 1)) ⟨rfl,rfl,rfl,by simp,fun k _ hk=>Below.heap_setCell w1 ⟨w.heap.size + 1,0,none⟩ _ k (by intro e; exact hk (by simp [e]))⟩ (by have:=HOT.out.lo; simp; omega) fun i hi=>?_
  obtain ⟨o,ho⟩ : ∃ o,os[i]? = some o:=⟨os[i]'hi,by simp⟩
  cases hv : (vs i).ownBlock with
  | none=>exact .inl rfl
  | some q =>
    have:=(World.ownsRow.lt (HOT.out.at_ i o ho).2.2.2.2.2.1 q hv).1
    exact .inr (by simp; omega)
end
section
open Go.RowKit
set_option maxHeartbeats 1000000 in
theorem isFresh_any (b off n c : Nat) (k : Nat) (kd vr : Int) (w : World) (hk : k < n) (hb : b < w.heap.size) (h0 : w.cell? ⟨b,off + k * 4,none⟩ = some (.int .i64 kd)) (h1 : w.cell? ⟨b,off + k * 4 + 1,none⟩ = some (.int .i64 vr)) :
    Calls Tryz.prog 281 #[.agg #[.slice (some ⟨b,off,none⟩) n c],.int .i64 k] w fun e w'=>e = .returned (.bool (decide (k ≠ 0) && decide (kd = 0) && decide (vr = 0))) ∧ Below w.heap.size w w':=by
  have hkI : (k : Int) < (n : Int):=by omega
  have hk0 : (0 : Int) ≤ (k : Int):=by omega
  by_cases hz : k = 0
  · have t0 : ((k : Int) != 0) = false:=by simp [hz]
    have HV : Hid ((decide (k ≠ 0) && decide (kd = 0) && decide (vr = 0)) = false):=by show _ = _; simp [hz]
    clear hz
    go_enter Tryz.func281,Tryz.ntmps281
    go_wp2_with fail
    go_ret
    exact ⟨ret_bool HV.out.symm,(Below.refl _ _).alloc (Nat.le_refl _) _⟩
  · have t0 : ((k : Int) != 0) = true:=by simp; omega
    by_cases hlive : kd = 0
    · have t1 : (kd == 0) = true:=by simpa using hlive
      have HV : Hid ((decide (k ≠ 0) && decide (kd = 0) && decide (vr = 0)) = (vr == 0)):=by show _ = _; simp [hz,hlive]; rfl
      clear hz hlive
      go_enter Tryz.func281,Tryz.ntmps281
      go_wp2_with fail
      go_ret
      exact ⟨ret_bool HV.out.symm,(Below.refl _ _).alloc (Nat.le_refl _) _⟩
    · have t1 : (kd == 0) = false:=by simpa using hlive
      have HV : Hid ((decide (k ≠ 0) && decide (kd = 0) && decide (vr = 0)) = false):=by show _ = _; simp [hlive]
      clear hz hlive
      go_enter Tryz.func281,Tryz.ntmps281
      go_wp2_with fail
      go_ret
      exact ⟨ret_bool HV.out.symm,(Below.refl _ _).alloc (Nat.le_refl _) _⟩
end
end Go.Proofs.YtloopeipheklpaaGreatDoor
