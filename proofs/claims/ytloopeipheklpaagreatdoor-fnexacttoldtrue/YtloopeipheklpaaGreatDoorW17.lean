/- Lemmas that the proofs of this seat share: OkF, ActOk, ActOkB, ActOkC, Place. -/
import Derived.Test.YtloopeipheklpaaGreatDoorW15
import Derived.Test.YtloopeipheklpaaGreatDoorW16
import Derived.Test.YtloopeipheklpaaGreatDoorW08
import Derived.Lib.Bytealg
import Derived.Lib.Walk
namespace Go.Proofs.YtloopeipheklpaaGreatDoor
section
theorem ok_len {os : List LObj} (hs : specOk os = true) : os.length = 32:=by
  simp [specOk] at hs; exact hs.1.1.1
theorem ok_obj {os : List LObj} (hs : specOk os = true) {i : Nat} {o : LObj} (ho : os[i]? = some o) : objB o = true:=by
  simp [specOk] at hs
  exact hs.1.2 o (List.mem_of_getElem? ho)
theorem ok_ver {os : List LObj} (hs : specOk os = true) {i : Nat} {o : LObj} (ho : os[i]? = some o) : 0 ≤ o.ver ∧ o.ver ≤ 1000000:=by
  have h:=ok_obj hs ho
  simp [objB,verB] at h
  obtain ⟨⟨h1,h2⟩,_⟩:=h
  refine ⟨?_,h2⟩
  split at h1 <;> omega
theorem ok_asc {os : List LObj} (hs : specOk os = true) {i : Nat} {o : LObj} (ho : os[i]? = some o) : Asc o.kids:=by
  by_cases h : o.kids = []
  · rw [h]; intro i j x y _ hx _; simp at hx
  · exact asc_of (kids_dir (ok_obj hs ho) h).2
theorem ok_ent {os : List LObj} (hs : specOk os = true) {i : Nat} {o : LObj} (ho : os[i]? = some o) {e : LEnt} (he : e ∈ o.kids) : 0 < e.id ∧ e.id < 32:=by
  have hi:=ids_of_ok (t:=os) (fun i o h=>ok_obj hs h)
  exact hi o (List.mem_of_getElem? ho) e he
theorem pigeonE : ∀ (m : Nat) (l : List LEnt),(∀ e ∈ l,0 ≤ e.id ∧ e.id < (m : Int)) → (∀ k : Nat,l.countP (fun e=>e.id == (k : Int)) ≤ 1) → l.length ≤ m
  | 0,l,h,_=>by
    cases l with
    | nil=>simp
    | cons e r=>have:=h e (by simp); omega
  | m + 1,l,h,hc=>by
    have h1:=List.length_eq_countP_add_countP (fun e : LEnt=>e.id == (m : Int)) (l:=l)
    have h2:=hc m
    have h3:=pigeonE m (l.filter fun e=>!(e.id == (m : Int))) (fun e he=>by
      have hm:=List.mem_filter.1 he
      have:=h e hm.1
      have hne : e.id ≠ (m : Int):=by simpa using hm.2
      omega) (fun k=>by
      refine Nat.le_trans ?_ (hc k)
      exact List.Sublist.countP_le List.filter_sublist)
    have h4 : l.countP (fun e=>!(e.id == (m : Int))) = (l.filter fun e=>!(e.id == (m : Int))).length:=List.countP_eq_length_filter
    have h5 : l.countP (fun a=>decide ¬(a.id == (m : Int)) = true) = l.countP (fun e=>!(e.id == (m : Int))):=by
      congr 1; funext e; cases e.id == (m : Int) <;> rfl
    omega
theorem flat_subF : ∀ (os : List LObj) (d i : Nat) (o : LObj),os[i]? = some o → (tagged (d + i) o.kids).Sublist (flatFrom d os)
  | [],_,_,_,h=>by simp at h
  | x :: r,d,0,o,h=>by
    simp at h
    subst h
    exact List.sublist_append_left _ _
  | x :: r,d,i + 1,o,h=>by
    have ih:=flat_subF r (d + 1) i o (by simpa using h)
    rw [show d + (i + 1) = d + 1 + i by omega]
    exact ih.trans (List.sublist_append_right _ _)
theorem flat_sub {os : List LObj} {i : Nat} {o : LObj} (h : os[i]? = some o) : (tagged i o.kids).Sublist (flat os):=by
  have:=flat_subF os 0 i o h
  rwa [Nat.zero_add] at this
theorem ok_kids {os : List LObj} (hs : specOk os = true) {i : Nat} {o : LObj} (ho : os[i]? = some o) : o.kids.length ≤ 32:=by
  refine pigeonE 32 o.kids (fun e he=>by have:=ok_ent hs ho he; omega) (fun k=>?_)
  have hcnt : cnt (flat os) (k : Int) ≤ 1:=by
    by_cases hk : 1 ≤ k ∧ k < 32
    · have h:=hs
      simp [specOk] at h
      have h2:=h.2 (k - 1) (by omega)
      rw [show k - 1 + 1 = k by omega] at h2
      unfold specAt at h2
      split at h2 <;> simp at h2 <;> omega
    · have : cnt (flat os) (k : Int) = 0:=by
        unfold cnt
        rw [List.countP_eq_zero]
        intro x hx
        obtain ⟨q,h1,h2,h3⟩:=flat_ids (ids_of_ok (t:=os) (fun i o h=>ok_obj hs h)) hx
        simp only [beq_iff_eq]
        omega
      omega
  refine Nat.le_trans ?_ hcnt
  unfold cnt
  have hsub : (tagged i o.kids).Sublist (flat os):=flat_sub ho
  have h1:=hsub.countP_le (p:=fun x : Nat × LEnt=>x.2.id == (k : Int))
  refine Nat.le_trans (Nat.le_of_eq ?_) h1
  unfold tagged
  rw [List.countP_map]
  rfl
theorem findV_or (es : List LEnt) (name : ByteArray) : (findV es name = -1 ∧ ∀ e ∈ es,e.name ≠ name) ∨ ∃ (k : Nat) (e : LEnt),es[k]? = some e ∧ e.name = name ∧ findV es name = e.id:=by
  unfold findV
  cases h : es.find? (fun e=>sEq e.name name) with
  | none =>
    refine .inl ⟨rfl,fun e he hn=>?_⟩
    have:=List.find?_eq_none.1 h e he
    rw [hn] at this
    simp [sEq] at this
  | some e =>
    have h1:=List.find?_some h
    have h2:=List.mem_of_find?_eq_some h
    obtain ⟨k,hk,rfl⟩:=List.getElem_of_mem h2
    exact .inr ⟨k,es[k],by simp [hk],(by
      have h3 : es[k].name.toList = name.toList:=by simpa [sEq] using h1
      rw [Go.ByteArray.toList_eq,Go.ByteArray.toList_eq] at h3
      exact Go.WideShapes.bytes_inj h3),rfl⟩
theorem findV_neg {os : List LObj} (hs : specOk os = true) {i : Nat} {o : LObj} (ho : os[i]? = some o) (name : ByteArray) : (findV o.kids name != -1) = decide (0 ≤ findV o.kids name):=by
  rcases findV_or o.kids name with ⟨h,_⟩ | ⟨k,e,he,_,h⟩
  · rw [h]; rfl
  · have:=ok_ent hs ho (List.mem_of_getElem? he)
    rw [h]
    simp only [bne]
    have h1 : (e.id == -1) = false:=by simp; omega
    have h2 : decide (0 ≤ e.id) = true:=by simp; omega
    rw [h1,h2]; rfl
theorem asc_out {es : List LEnt} (ha : Asc es) (name : ByteArray) : Asc (outL name es):=by
  have hp : es.Pairwise (fun x y=>Op.bytesLess (nm x) (nm y) = true):=by
    rw [List.pairwise_iff_getElem]
    intro i j hi hj hij
    exact ha i j _ _ hij (by simp [hi]) (by simp [hj])
  have hq:=hp.filter (fun e=>!(e.name.toList == name.toList))
  intro i j x y hij hx hy
  rw [List.pairwise_iff_getElem] at hq
  obtain ⟨hi,hx'⟩:=List.getElem?_eq_some_iff.1 hx
  obtain ⟨hj,hy'⟩:=List.getElem?_eq_some_iff.1 hy
  have h:=hq i j hi hj hij
  have e1 : (es.filter fun e=>!(e.name.toList == name.toList))[i] = x:=hx'
  have e2 : (es.filter fun e=>!(e.name.toList == name.toList))[j] = y:=hy'
  rw [e1,e2] at h
  exact h
end
section
def cntE (es : List LEnt) (i : Int) : Nat:=es.countP (fun e=>e.id == i)
theorem cnt_tagged (d : Nat) (es : List LEnt) (i : Int) : cnt (tagged d es) i = cntE es i:=by
  unfold cnt tagged cntE
  rw [List.countP_map]
  rfl
theorem cnt_flatFrom_set : ∀ (os : List LObj) (d k : Nat) (o o' : LObj) (i : Int),os[k]? = some o → cnt (flatFrom d (os.set k o')) i + cntE o.kids i = cnt (flatFrom d os) i + cntE o'.kids i
  | [],_,_,_,_,_,h=>by simp at h
  | x :: r,d,0,o,o',i,h=>by
    simp at h
    subst h
    simp only [List.set_cons_zero,flatFrom]
    rw [cnt_append,cnt_append,cnt_tagged,cnt_tagged]
    omega
  | x :: r,d,k + 1,o,o',i,h=>by
    have ih:=cnt_flatFrom_set r (d + 1) k o o' i (by simpa using h)
    simp only [List.set_cons_succ,flatFrom]
    rw [cnt_append,cnt_append]
    omega
theorem cnt_set {os : List LObj} {k : Nat} {o : LObj} (h : os[k]? = some o) (o' : LObj) (i : Int) : cnt (flat (os.set k o')) i + cntE o.kids i = cnt (flat os) i + cntE o'.kids i:=cnt_flatFrom_set os 0 k o o' i h
theorem flatFrom_same : ∀ (os : List LObj) (d k : Nat) (o o' : LObj),os[k]? = some o → o'.kids = o.kids → flatFrom d (os.set k o') = flatFrom d os
  | [],_,_,_,_,h,_=>by simp at h
  | x :: r,d,0,o,o',h,hk=>by
    simp at h
    subst h
    simp only [List.set_cons_zero,flatFrom,hk]
  | x :: r,d,k + 1,o,o',h,hk=>by
    have ih:=flatFrom_same r (d + 1) k o o' (by simpa using h) hk
    simp only [List.set_cons_succ,flatFrom,ih]
theorem flat_same {os : List LObj} {k : Nat} {o : LObj} (h : os[k]? = some o) (o' : LObj) (hk : o'.kids = o.kids) : flat (os.set k o') = flat os:=flatFrom_same os 0 k o o' h hk
theorem mem_flatE {os : List LObj} {d : Nat} {e : LEnt} : (d,e) ∈ flat os ↔ ∃ o,os[d]? = some o ∧ e ∈ o.kids:=by
  constructor
  · intro h
    obtain ⟨i,o,k,h1,h2,h3⟩:=mem_flatFrom h
    simp at h3
    subst h3
    exact ⟨o,h1,List.mem_of_getElem? h2⟩
  · rintro ⟨o,h1,h2⟩
    obtain ⟨k,hk,rfl⟩:=List.getElem_of_mem h2
    obtain ⟨r,hr⟩:=flat_at (t:=os) (i:=d) (k:=k) h1 (List.getElem?_eq_getElem hk)
    rw [hr]
    simp
theorem cntE_put (x : LEnt) (es : List LEnt) (i : Int) : cntE (putL x es) i = cntE es i + (if x.id = i then 1 else 0):=by
  unfold cntE putL
  have h : es.countP (fun e=>e.id == i) = (es.take (placeL x.name es)).countP (fun e=>e.id == i) + (es.drop (placeL x.name es)).countP (fun e=>e.id == i):=by
    rw [← List.countP_append,List.take_append_drop]
  rw [List.countP_append,List.countP_append,h]
  simp only [List.countP_cons,List.countP_nil,beq_iff_eq]
  omega
theorem mem_put (x e : LEnt) (es : List LEnt) : e ∈ putL x es ↔ e = x ∨ e ∈ es:=by
  unfold putL
  have h : e ∈ es ↔ e ∈ es.take (placeL x.name es) ∨ e ∈ es.drop (placeL x.name es):=by
    rw [← List.mem_append,List.take_append_drop]
  rw [List.mem_append,List.mem_append,h]
  simp
  constructor
  · rintro ((h | h) | h) <;> simp [h]
  · rintro (h | h | h) <;> simp [h]
theorem list_inj {a b : ByteArray} (h : a.toList = b.toList) : a = b:=by
  rw [Go.ByteArray.toList_eq,Go.ByteArray.toList_eq] at h
  exact Go.WideShapes.bytes_inj h
theorem mem_out (name : ByteArray) (e : LEnt) (es : List LEnt) : e ∈ outL name es ↔ e ∈ es ∧ e.name ≠ name:=by
  unfold outL
  rw [List.mem_filter]
  constructor
  · rintro ⟨h1,h2⟩
    exact ⟨h1,fun h=>by rw [h] at h2; simp at h2⟩
  · rintro ⟨h1,h2⟩
    refine ⟨h1,?_⟩
    simp only [Bool.not_eq_true',beq_eq_false_iff_ne,ne_eq]
    exact fun h=>h2 (list_inj h)
theorem asc_pair {es : List LEnt} (h : Asc es) : es.Pairwise (fun x y=>Op.bytesLess (nm x) (nm y) = true):=by
  rw [List.pairwise_iff_getElem]
  intro i j hi hj hij
  exact h i j _ _ hij (by simp [hi]) (by simp [hj])
theorem less_irr (a : List UInt8) : Op.bytesLess a a = false:=by
  have:=less_tri a a
  cases h : Op.bytesLess a a
  · rfl
  · rw [h] at this; simp at this
theorem asc_one {es : List LEnt} (h : Asc es) {x y : LEnt} (hx : x ∈ es) (hy : y ∈ es) (hn : x.name = y.name) : x = y:=by
  obtain ⟨i,hi,rfl⟩:=List.getElem_of_mem hx
  obtain ⟨j,hj,rfl⟩:=List.getElem_of_mem hy
  rcases Nat.lt_trichotomy i j with k | k | k
  · have:=h i j _ _ k (List.getElem?_eq_getElem hi) (List.getElem?_eq_getElem hj)
    unfold nm at this
    rw [hn,less_irr] at this
    cases this
  · subst k; rfl
  · have:=h j i _ _ k (List.getElem?_eq_getElem hj) (List.getElem?_eq_getElem hi)
    unfold nm at this
    rw [hn,less_irr] at this
    cases this
theorem cntE_out {es : List LEnt} (ha : Asc es) {e0 : LEnt} (h0 : e0 ∈ es) (i : Int) : cntE (outL e0.name es) i + (if e0.id = i then 1 else 0) = cntE es i:=by
  obtain ⟨k,hk,he⟩:=List.getElem_of_mem h0
  have e1 : es = es.take k ++ e0 :: es.drop (k + 1):=by
    rw [← he,← List.drop_eq_getElem_cons hk,List.take_append_drop]
  have hout : outL e0.name es = es.take k ++ es.drop (k + 1):=by
    have h1 : (es.take k).filter (fun e=>!(e.name.toList == e0.name.toList)) = es.take k:=by
      rw [List.filter_eq_self]
      intro x hx
      obtain ⟨j,hj,hxe⟩:=List.mem_take_iff_getElem.1 hx
      have:=ha j k x e0 (by omega) (by rw [List.getElem?_eq_some_iff]; exact ⟨by omega,hxe⟩) (by rw [List.getElem?_eq_some_iff]; exact ⟨hk,he⟩)
      simp only [Bool.not_eq_true',beq_eq_false_iff_ne,ne_eq]
      intro hn
      have hn:=list_inj hn
      unfold nm at this
      rw [hn,less_irr] at this
      cases this
    have h2 : (es.drop (k + 1)).filter (fun e=>!(e.name.toList == e0.name.toList)) = es.drop (k + 1):=by
      rw [List.filter_eq_self]
      intro x hx
      obtain ⟨j,hj,hxe⟩:=List.mem_drop_iff_getElem.1 hx
      have:=ha k (k + 1 + j) e0 x (by omega) (by rw [List.getElem?_eq_some_iff]; exact ⟨hk,he⟩) (by rw [List.getElem?_eq_some_iff]; exact ⟨by omega,hxe⟩)
      simp only [Bool.not_eq_true',beq_eq_false_iff_ne,ne_eq]
      intro hn
      have hn:=list_inj hn
      unfold nm at this
      rw [hn,less_irr] at this
      cases this
    conv=>lhs; rw [e1]
    unfold outL
    rw [List.filter_append,List.filter_cons,h1,h2]
    simp
  rw [hout]
  conv=>rhs; rw [e1]
  unfold cntE
  rw [List.countP_append,List.countP_append,List.countP_cons]
  simp only [beq_iff_eq]
  omega
theorem kidsB_of {es : List LEnt} (h1 : ∀ e ∈ es,entB e = true) (h2 : es.Pairwise (fun x y=>Op.bytesLess (nm x) (nm y) = true)) : kidsB es = true:=by
  refine kidsB_yes fun i hi=>?_
  have hx : es[i]? = some es[i]:=by simp [hi]
  cases i with
  | zero=>exact kidAt_zero hx (h1 _ (List.getElem_mem _))
  | succ j =>
    have hp : es[j]? = some es[j]:=by simp
    rw [kidAt_succ hx hp (h1 _ (List.getElem_mem _))]
    rw [List.pairwise_iff_getElem] at h2
    have:=h2 j (j + 1) (by omega) hi (by omega)
    unfold nameLess
    rw [Go.ByteArray.toList_eq,Go.ByteArray.toList_eq]
    exact this
theorem kids_ents {es : List LEnt} (h : kidsB es = true) : ∀ e ∈ es,entB e = true:=by
  intro e he
  obtain ⟨i,hi,rfl⟩:=List.getElem_of_mem he
  apply Classical.byContradiction
  intro hc
  rw [kidsB_no hi (kidAt_ent (List.getElem?_eq_getElem hi) (by simpa using hc))] at h
  cases h
theorem kidsB_out {es : List LEnt} (h : kidsB es = true) (name : ByteArray) : kidsB (outL name es) = true :=
  kidsB_of (fun e he=>kids_ents h e ((mem_out _ _ _).1 he).1) (asc_pair (asc_out (asc_of h) name))
theorem less_no {a b : List UInt8} (h : Op.bytesLess a b = false) (hn : a ≠ b) : Op.bytesLess b a = true:=by
  have:=less_tri a b
  rw [h] at this
  have hb : (a == b) = false:=by simpa using hn
  rw [hb] at this
  simpa using this.symm
theorem kidsB_put {es : List LEnt} (h : kidsB es = true) {x : LEnt} (hx : entB x = true) (hn : ∀ e ∈ es,e.name ≠ x.name) : kidsB (putL x es) = true:=by
  refine kidsB_of (fun e he=>?_) ?_
  · rcases (mem_put _ _ _).1 he with rfl | he
    · exact hx
    · exact kids_ents h e he
  · have hp:=asc_pair (asc_of h)
    have hsplit : es = es.take (placeL x.name es) ++ es.drop (placeL x.name es):=(List.take_append_drop _ _).symm
    have hp2:=hp
    rw [hsplit,List.pairwise_append] at hp2
    have hlt : ∀ e ∈ es.take (placeL x.name es),Op.bytesLess (nm e) (nm x) = true:=by
      intro e he
      have e1 : es.take (placeL x.name es) = es.takeWhile (lessN x.name):=by
        unfold placeL
        exact (List.prefix_iff_eq_take.1 (List.takeWhile_prefix _)).symm
      rw [e1] at he
      have:=List.all_eq_true.1 (List.all_takeWhile (p:=lessN x.name) (l:=es)) e he
      unfold lessN at this
      rw [Go.ByteArray.toList_eq,Go.ByteArray.toList_eq] at this
      exact this
    have hgt : ∀ e ∈ es.drop (placeL x.name es),Op.bytesLess (nm x) (nm e) = true:=by
      have e1 : es.drop (placeL x.name es) = es.dropWhile (lessN x.name):=by
        have:=List.takeWhile_append_dropWhile (p:=lessN x.name) (l:=es)
        unfold placeL
        conv=>lhs; arg 2; rw [← this]
        rw [List.drop_left]
      cases hd : es.dropWhile (lessN x.name) with
      | nil=>rw [e1,hd]; intro e he; simp at he
      | cons y r =>
        have hy : lessN x.name y = false:=by
          have:=List.head?_dropWhile_not (lessN x.name) es
          rw [hd] at this
          simpa using this
        have hym : y ∈ es:=by
          have : y ∈ es.dropWhile (lessN x.name):=by rw [hd]; simp
          exact (List.dropWhile_sublist _).subset this
        have hyx : Op.bytesLess (nm x) (nm y) = true:=by
          refine less_no ?_ ?_
          · unfold lessN at hy
            rw [Go.ByteArray.toList_eq,Go.ByteArray.toList_eq] at hy
            exact hy
          · intro hne
            refine hn y hym (list_inj ?_)
            rw [Go.ByteArray.toList_eq,Go.ByteArray.toList_eq]
            exact hne
        intro e he
        rw [e1,hd] at he
        rcases List.mem_cons.1 he with rfl | he
        · exact hyx
        · have h3:=hp2.2.1
          rw [e1,hd,List.pairwise_cons] at h3
          exact less_trans _ _ _ hyx (h3.1 e he)
    unfold putL
    rw [List.append_assoc,List.pairwise_append]
    refine ⟨hp2.1,?_,?_⟩
    · rw [List.singleton_append,List.pairwise_cons]
      exact ⟨fun e he=>hgt e he,hp2.2.1⟩
    · intro a ha b hb
      rw [List.singleton_append,List.mem_cons] at hb
      rcases hb with rfl | hb
      · exact hlt a ha
      · exact hp2.2.2 a ha b hb
end
section
inductive Up (t : List LObj) : Int → Prop
  | top : Up t 0
  | step {i : Int} (h : 0 < i) (u : Up t (homeIn (flat t) i)) : Up t i
theorem Up.climb {t : List LObj} {i : Int} (h : Up t i) : ∃ m,climb t m i = 0:=by
  induction h with
  | top=>exact ⟨0,rfl⟩
  | step h _ ih=>obtain ⟨m,hm⟩:=ih; exact ⟨m + 1,by rw [climb_step t m h]; exact hm⟩
theorem up_of {t : List LObj} : ∀ (m : Nat) {i : Int},Go.Proofs.YtloopeipheklpaaGreatDoor.climb t m i = 0 → Up t i
  | 0,i,h=>by
    have : i = 0:=h
    subst this; exact .top
  | m + 1,i,h=>by
    by_cases h0 : 0 < i
    · rw [climb_step t m h0] at h; exact .step h0 (up_of m h)
    · rw [climb_stop t (m + 1) h0] at h; subst h; exact .top
theorem specOk_of {t : List LObj} (h0 : t.length = 32) (h1 : kindOf t 0 = 2) (h2 : ∀ (i : Nat) o,t[i]? = some o → objB o = true)
    (hc : ∀ i : Nat,1 ≤ i → i < 32 → cnt (flat t) i = if kindOf t i = 0 then 0 else 1)
    (hu : ∀ i : Nat,1 ≤ i → i < 32 → kindOf t i ≠ 0 → Up t i) : specOk t = true:=by
  have hids:=ids_of_ok h2
  have hlive : Live t (flat t):=fun x hx=>by
    obtain ⟨k,e,k1,k2⟩:=flat_ids hids hx
    rw [e,Int.toNat_natCast]
    intro hk
    have:=hc k k1 k2
    rw [if_pos hk] at this
    exact cnt_zero.1 this x hx e
  have hn : Named t:=⟨hlive,uniq_cnt (fun x hx=>by
      obtain ⟨k,e,k1,k2⟩:=flat_ids hids hx
      have hl:=hlive x hx
      rw [e,Int.toNat_natCast] at hl
      rw [e,hc k k1 k2,if_neg hl]
      exact Nat.le_refl _),fun i h0 hi hk ho=>by
        have:=hc i h0 hi
        rw [cnt_zero.2 ho,if_neg hk] at this
        cases this⟩
  refine (specOk_iff t).2 ⟨h0,h2,h1,hn,fun i hi hk=>?_⟩
  by_cases hz : i = 0
  · subst hz; exact climb_stop t 31 (by simp)
  obtain ⟨m,hm⟩:=(hu i (by omega) hi hk).climb
  apply Classical.byContradiction
  intro h31
  have hd : ∀ k,climb t k i = ((climb t k i).toNat : Nat) ∧ (climb t k i).toNat < 32:=fun k=>by
    obtain ⟨d,h1,h2,_⟩:=climb_in h0 h2 hn hi hk k
    rw [h1]; simpa using h2
  have hnz : ∀ k,k ≤ 31 → climb t k i ≠ 0:=fun k hk e=>h31 (climb_zero e 31 hk)
  obtain ⟨a,b,k1,k2,k3⟩:=pigeon 31 (fun k=>(climb t k i).toNat) (fun k hk=>by
    have q1:=hd k
    have q2:=hnz k hk
    omega)
  have e : climb t a i = climb t b i:=by rw [(hd a).1,(hd b).1]; rw [k3]
  have key : ∀ m,climb t m i ≠ 0:=by
    intro m
    induction m using Nat.strongRecOn with
    | _ m ih =>
      intro hm
      by_cases hb : m ≤ 31
      · exact hnz m hb hm
      · have h4:=climb_add t (m - b) b i
        rw [show b + (m - b) = m by omega,hm,← e,← climb_add] at h4
        exact ih (a + (m - b)) (by omega) h4.symm
  exact key m hm
theorem home_of {t : List LObj} {d : Nat} {e : LEnt} (h : (d,e) ∈ flat t) (hc : cnt (flat t) e.id ≤ 1) : homeIn (flat t) e.id = d:=by
  have hno : ¬ Off (flat t) e.id:=fun ho=>ho _ h rfl
  obtain ⟨pre,x,post,h1,h2,h3⟩:=split_first hno
  rw [h1,homeIn_at h2 h3]
  rw [h1] at h hc
  rcases List.mem_append.1 h with h | h
  · exact absurd rfl (h2 _ h)
  · rcases List.mem_cons.1 h with h | h
    · rw [← h]
    · have hp : 0 < cnt post e.id:=List.countP_pos_iff.2 ⟨_,h,by simp⟩
      rw [cnt_append] at hc
      have : cnt (x :: post) e.id = cnt post e.id + 1:=by
        unfold cnt
        rw [List.countP_cons,if_pos (by simp [h3])]
      omega
theorem home_memE {t : List LObj} {i : Int} (h : ¬ Off (flat t) i) : ∃ (d : Nat) (e : LEnt),(d,e) ∈ flat t ∧ e.id = i ∧ homeIn (flat t) i = d:=by
  obtain ⟨pre,x,post,h1,h2,h3⟩:=split_first h
  exact ⟨x.1,x.2,by rw [h1]; simp,h3,by rw [h1,homeIn_at h2 h3]⟩
theorem ok_cnt {t : List LObj} (hs : specOk t = true) {i : Nat} (h1 : 1 ≤ i) (h2 : i < 32) : cnt (flat t) i = if kindOf t i = 0 then 0 else 1:=by
  have h:=hs
  simp [specOk] at h
  have h3:=h.2 (i - 1) (by omega)
  rw [show i - 1 + 1 = i by omega] at h3
  by_cases hk : kindOf t i = 0
  · rw [specAt_none hk] at h3; rw [if_pos hk]; simpa using h3
  · rw [specAt_live hk] at h3; rw [if_neg hk]; simp at h3; exact h3.1
theorem ok_top {t : List LObj} (hs : specOk t = true) : kindOf t 0 = 2:=by
  simp [specOk] at hs; exact hs.1.1.2
theorem ok_up {t : List LObj} (hs : specOk t = true) {i : Nat} (h2 : i < 32) (hk : kindOf t i ≠ 0) : Up t i :=
  up_of 31 (((specOk_iff t).1 hs).2.2.2.2 i h2 hk)
theorem ok_home {t : List LObj} (hs : specOk t = true) {i : Nat} (h1 : 1 ≤ i) (h2 : i < 32) (hk : kindOf t i ≠ 0) : ∃ (d : Nat) (e : LEnt),(d,e) ∈ flat t ∧ e.id = i ∧ homeIn (flat t) i = d ∧ d < 32 ∧ kindOf t d = 2:=by
  have hno : ¬ Off (flat t) i:=fun ho=>by
    have:=ok_cnt hs h1 h2
    rw [cnt_zero.2 ho,if_neg hk] at this
    cases this
  obtain ⟨d,e,m1,m2,m3⟩:=home_memE hno
  obtain ⟨o,m4,m5⟩:=mem_flatE.1 m1
  have hd : d < 32:=by have:=(List.getElem?_eq_some_iff.1 m4).1; have:=ok_len hs; omega
  have:=(kids_dir (ok_obj hs m4) (by intro h; rw [h] at m5; simp at m5)).1
  exact ⟨d,e,m1,m2,m3,hd,by rw [kindOf_at m4]; exact this⟩
theorem up_keep {t t' : List LObj} (S : Nat → Prop) (hS : ∀ j,S j → 1 ≤ j → ∃ d : Nat,homeIn (flat t) j = d ∧ homeIn (flat t') j = d ∧ S d) {i : Int} (h : Up t i) : ∀ j : Nat,i = j → S j → Up t' i:=by
  induction h with
  | top=>intro _ _ _; exact .top
  | @step i h u ih =>
    intro j hj hs
    obtain ⟨d,h1,h2,h3⟩:=hS j hs (by omega)
    refine .step h ?_
    rw [hj,h2]
    have:=ih d (by rw [hj,h1]) h3
    rw [hj,h1] at this
    exact this
def AllOb (t : List LObj) : Prop:=∀ (i : Nat) o,t[i]? = some o → objB o = true
theorem AllOb.set {t : List LObj} (h : AllOb t) {o' : LObj} (ho : objB o' = true) (k : Nat) : AllOb (t.set k o'):=by
  intro i o hi
  rw [List.getElem?_set] at hi
  split at hi
  · split at hi
    · cases hi; exact ho
    · cases hi
  · exact h i o hi
theorem kindOf_set {t : List LObj} {k : Nat} (o' : LObj) (hk : k < t.length) (i : Nat) : kindOf (t.set k o') i = if i = k then o'.kind else kindOf t i:=by
  unfold kindOf
  rw [List.getElem?_set]
  by_cases h : k = i
  · rw [if_pos h,if_pos (h ▸ hk),if_pos h.symm]
  · rw [if_neg h,if_neg (Ne.symm h)]
theorem kindOf_same {t : List LObj} {k : Nat} {o : LObj} (h : t[k]? = some o) {o' : LObj} (hk : o'.kind = o.kind) (i : Nat) : kindOf (t.set k o') i = kindOf t i:=by
  rw [kindOf_set o' (List.getElem?_eq_some_iff.1 h).1]
  split
  · next e=>rw [e,kindOf_at h,hk]
  · rfl
theorem dir_parts {o : LObj} (h : objB o = true) (hk : o.kind = 2) : 1 ≤ o.ver ∧ o.ver ≤ 1000000 ∧ emp o.text = true ∧ kidsB o.kids = true:=by
  simp [objB,verB,partsB,hk] at h
  exact ⟨h.1.1,h.1.2,h.2.1,h.2.2⟩
theorem dir_ok {o : LObj} (hk : o.kind = 2) (h1 : 1 ≤ o.ver) (h2 : o.ver ≤ 1000000) (h3 : emp o.text = true) (h4 : kidsB o.kids = true) : objB o = true:=by
  simp [objB,verB,partsB,hk,h1,h2,h3,h4]
theorem file_parts {o : LObj} (h : objB o = true) (hk : o.kind = 1) : 1 ≤ o.ver ∧ o.ver ≤ 1000000 ∧ o.kids = []:=by
  simp [objB,verB,partsB,hk,nil?] at h
  exact ⟨h.1.1,h.1.2,h.2.2⟩
theorem none_kids {o : LObj} (h : objB o = true) (hk : o.kind ≠ 2) : o.kids = []:=by
  apply Classical.byContradiction
  intro hn
  exact hk (kids_dir h hn).1
theorem obj_ver {o : LObj} (h : objB o = true) : 0 ≤ o.ver:=by
  simp [objB,verB] at h
  have:=h.1.1
  split at this <;> omega
theorem turn_ob {o : LObj} (h : objB o = true) (hv : o.ver < 1000000) : objB { o with ver:=o.ver + 1 } = true:=by
  have h0:=obj_ver h
  simp only [objB,verB,Bool.and_eq_true,decide_eq_true_eq] at h ⊢
  refine ⟨⟨?_,by omega⟩,?_⟩
  · have:=h.1.1
    split at this <;> split <;> omega
  · have:=h.2
    unfold partsB at this ⊢
    exact this
theorem worn_no {os : List LObj} {l : List Nat} (h : wornB os l = false) {i : Nat} (hi : i ∈ l) {o : LObj} (ho : os[i]? = some o) : o.ver < 1000000:=by
  unfold wornB at h
  rw [List.any_eq_false] at h
  have:=h i hi
  unfold oldB at this
  rw [ho] at this
  simpa using this
theorem find_name {es : List LEnt} {name : ByteArray} {i : Int} (h : findV es name = i) (hi : 0 < i) : ∃ e ∈ es,e.name = name ∧ e.id = i:=by
  rcases findV_or es name with ⟨h1,_⟩ | ⟨k,e,h1,h2,h3⟩
  · omega
  · exact ⟨e,List.mem_of_getElem? h1,h2,by omega⟩
theorem find_no {es : List LEnt} {name : ByteArray} (h : ¬ 0 ≤ findV es name) (hp : ∀ e ∈ es,0 < e.id) : ∀ e ∈ es,e.name ≠ name:=by
  rcases findV_or es name with ⟨_,h2⟩ | ⟨k,e,h1,h2,h3⟩
  · exact h2
  · have:=hp e (List.mem_of_getElem? h1); omega
end
section
theorem id_in {o : LOp} (hk : opOk o = true) : o.id.toNat ∈ opIds o:=by
  have h1 : o.id.toNat ∈ opIds1 o:=by
    unfold opIds1
    split
    · simp
    · rw [mem_putI]; simp
  unfold opIds
  rw [if_pos hk]
  split
  · rw [mem_putI]; exact .inr h1
  · exact h1
theorem dir_in {o : LOp} (hk : opOk o = true) (h5 : o.kind ≠ 5) : o.dir.toNat ∈ opIds o:=by
  have h1 : o.dir.toNat ∈ opIds1 o:=by
    unfold opIds1
    rw [if_neg h5,mem_putI]; simp
  unfold opIds
  rw [if_pos hk]
  split
  · rw [mem_putI]; exact .inr h1
  · exact h1
theorem dir2_in {o : LOp} (hk : opOk o = true) (h4 : o.kind = 4) : o.dir2.toNat ∈ opIds o:=by
  unfold opIds
  rw [if_pos hk,if_pos h4,mem_putI]
  simp
theorem op_word {o : LOp} (hk : opOk o = true) (h5 : o.kind ≠ 5) : word o.name.data.toList = true:=by
  unfold opOk at hk
  split at hk
  · simp [opSlot] at hk; exact hk.1.1.2.2
  · split at hk
    · simp [opSlot] at hk; exact hk.1.1.2.2
    · simp at hk
theorem op_word2 {o : LOp} (hk : opOk o = true) (h4 : o.kind = 4) : word o.name2.data.toList = true:=by
  unfold opOk at hk
  rw [if_neg (by omega),if_pos h4] at hk
  simp [opSlot2] at hk; exact hk.1.2.2
theorem op_body {o : LOp} (hk : opOk o = true) (h1 : ¬ (o.kind = 1 ∨ o.kind = 2)) (h3 : o.kind ≠ 3) (h4 : o.kind ≠ 4) : body o.text.data.toList = true:=by
  unfold opOk at hk
  rw [if_neg (by omega),if_neg h4] at hk
  split at hk
  · simp at hk; exact hk.2
  · cases hk
theorem at_ {os : List LObj} {i : Int} (hl : os.length = 32) (h0 : 0 ≤ i) (h1 : i < 32) : ∃ o,os[i.toNat]? = some o:=⟨_,List.getElem?_eq_getElem (by omega)⟩
theorem ents_pos {os : List LObj} (hs : specOk os = true) {i : Nat} {o : LObj} (ho : os[i]? = some o) : ∀ e ∈ o.kids,0 < e.id:=fun _ he=>(ok_ent hs ho he).1
theorem emp_nil : emp ⟨#[]⟩ = true:=by unfold emp; rw [Go.ByteArray.toList_eq]; rfl
theorem new_ok {os : List LObj} {o : LOp} (hs : specOk os = true) (hk : opOk o = true) (hw : wornB os (opIds o) = false) (hkind : o.kind = 1 ∨ o.kind = 2) (hf : (actNew os o).2 = 0) : specOk (actNew os o).1 = true:=by
  obtain ⟨i1,i2⟩:=opOk_id hk
  obtain ⟨d1,d2⟩:=opOk_dir hk
  have hl:=ok_len hs
  have hDin:=dir_in hk (by omega)
  have hwd:=op_word hk (by omega)
  obtain ⟨d,hd⟩:=at_ (os:=os) hl d1 d2
  obtain ⟨x,hx⟩:=at_ (os:=os) hl (by omega) i2
  have hdv:=worn_no hw hDin hd
  obtain ⟨I,hI⟩ : ∃ I : Nat,o.id.toNat = I:=⟨_,rfl⟩
  obtain ⟨D,hD⟩ : ∃ D : Nat,o.dir.toNat = D:=⟨_,rfl⟩
  unfold actNew at hf ⊢
  rw [hI] at hx
  rw [hD] at hd
  simp only [hI,hD,hd,hx] at hf ⊢
  have hid : o.id = (I : Int):=by omega
  by_cases g1 : d.kind ≠ 2
  · rw [if_pos g1] at hf; simp at hf
  by_cases g2 : 0 ≤ findV d.kids o.name
  · rw [if_neg g1,if_pos g2] at hf; simp at hf
  by_cases g3 : x.kind ≠ 0 ∨ 0 < x.ver
  · rw [if_neg g1,if_neg g2,if_pos g3] at hf; simp at hf
  rw [if_neg g1,if_neg g2,if_neg g3]
  clear hf
  have g1 : d.kind = 2:=by simpa using g1
  have g3 : x.kind = 0:=by omega
  have hne : D ≠ I:=by
    rintro rfl
    rw [hd] at hx; cases hx; omega
  have hIl : I < os.length:=by omega
  have hxk : x.kids = []:=none_kids (ok_obj hs hx) (by omega)
  obtain ⟨N,hN⟩ : ∃ N : LObj,N = ⟨if o.kind = 2 then 2 else 1,1,⟨#[]⟩,[]⟩:=⟨_,rfl⟩
  have hNk : N.kind ≠ 0:=by rw [hN]; dsimp only; split <;> omega
  have hNe : N.kids = []:=by rw [hN]
  have hNo : objB N = true:=by
    rw [hN]
    rcases hkind with h | h
    · rw [h]; decide
    · rw [h,if_pos rfl]
      exact dir_ok rfl (by decide) (by decide) emp_nil rfl
  rw [← hN]
  have hd1 : (os.set I N)[D]? = some d:=by rw [List.getElem?_set_ne (Ne.symm hne)]; exact hd
  obtain ⟨q1,q2,q3,q4⟩:=dir_parts (ok_obj hs hd) g1
  have hnm:=find_no g2 (ents_pos hs hd)
  have hdo : objB { d with kids:=putL ⟨o.name,o.id⟩ d.kids,ver:=d.ver + 1 } = true :=
    dir_ok g1 (by show 1 ≤ d.ver + 1; omega) (by show d.ver + 1 ≤ _; omega) q3 (kidsB_put q4 (entB_yes hwd (by show 0 < o.id; omega) i2) hnm)
  obtain ⟨M,hM⟩ : ∃ M : LObj,M = { d with kids:=putL ⟨o.name,o.id⟩ d.kids,ver:=d.ver + 1 }:=⟨_,rfl⟩
  rw [← hM] at hdo ⊢
  have hMk : M.kind = d.kind:=by rw [hM]
  have hMe : M.kids = putL ⟨o.name,o.id⟩ d.kids:=by rw [hM]
  have hkd : ∀ i,kindOf ((os.set I N).set D M) i = if i = I then N.kind else kindOf os i:=fun i=>by
    rw [kindOf_same hd1 hMk,kindOf_set N hIl]
  have hct : ∀ i : Int,cnt (flat ((os.set I N).set D M)) i = cnt (flat os) i + (if (I : Int) = i then 1 else 0):=fun i=>by
    have h1:=cnt_set hd1 M i
    have h2:=cnt_set hx N i
    rw [hxk,hNe] at h2
    rw [hMe,cntE_put] at h1
    simp only [hid] at h1
    omega
  have hm : ∀ a e,(a,e) ∈ flat os → (a,e) ∈ flat ((os.set I N).set D M):=by
    intro a e h
    obtain ⟨oo,p1,p2⟩:=mem_flatE.1 h
    rw [mem_flatE]
    by_cases ha : a = D
    · subst ha
      rw [hd] at p1; cases p1
      exact ⟨M,by rw [List.getElem?_set_self (by simp; omega)],by rw [hMe,mem_put]; exact .inr p2⟩
    · by_cases hb : a = I
      · subst hb
        rw [hx] at p1; cases p1
        rw [hxk] at p2; simp at p2
      · exact ⟨oo,by rw [List.getElem?_set_ne (Ne.symm ha),List.getElem?_set_ne (Ne.symm hb)]; exact p1,p2⟩
  have mi : (D,(⟨o.name,(I : Int)⟩ : LEnt)) ∈ flat ((os.set I N).set D M):=by
    rw [mem_flatE]
    exact ⟨M,by rw [List.getElem?_set_self (by simp; omega)],by rw [hMe,mem_put,hid]; exact .inl rfl⟩
  have hcn : ∀ i : Nat,1 ≤ i → i < 32 → cnt (flat ((os.set I N).set D M)) i = if kindOf ((os.set I N).set D M) i = 0 then 0 else 1:=fun i h1 h2=>by
    rw [hct,hkd,ok_cnt hs h1 h2]
    by_cases e : i = I
    · subst e
      rw [if_pos (by rw [kindOf_at hx]; exact g3),if_pos rfl,if_pos rfl,if_neg hNk]
    · rw [if_neg (show ¬ ((I : Int) = i) by omega),if_neg e,Nat.add_zero]
  have hone : ∀ j : Nat,1 ≤ j → j < 32 → cnt (flat ((os.set I N).set D M)) j ≤ 1:=fun j h1 h2=>by
    rw [hcn j h1 h2]; split <;> omega
  have keep : ∀ j : Nat,j < 32 ∧ kindOf os j ≠ 0 → Up ((os.set I N).set D M) j:=fun j hj =>
    up_keep (fun j=>j < 32 ∧ kindOf os j ≠ 0) (fun j hj h1=>by
      obtain ⟨a,e,m1,m2,m3,m4,m5⟩:=ok_home hs h1 hj.1 hj.2
      exact ⟨a,m3,by have:=home_of (hm _ _ m1) (by rw [m2]; exact hone j h1 hj.1); rw [m2] at this; exact this,m4,by omega⟩) (ok_up hs hj.1 hj.2) j rfl hj
  refine specOk_of (by simp [hl]) ?_ (AllOb.set (AllOb.set (fun i o h=>ok_obj hs h) hNo I) hdo D) hcn fun i h1 h2 hk=>?_
  · rw [hkd,if_neg (by omega)]; exact ok_top hs
  · by_cases e : i = I
    · subst e
      refine .step (by omega) ?_
      have:=home_of mi (hone i h1 h2)
      rw [show ((⟨o.name,(i : Int)⟩ : LEnt)).id = (i : Int) from rfl] at this
      rw [this]
      exact keep D ⟨by omega,by rw [kindOf_at hd]; omega⟩
    · rw [hkd,if_neg e] at hk
      exact keep i ⟨h2,hk⟩
theorem gone_ok {os : List LObj} {o : LOp} (hs : specOk os = true) (hk : opOk o = true) (hw : wornB os (opIds o) = false) (hkind : o.kind = 3) (hf : (actGone os o).2 = 0) : specOk (actGone os o).1 = true:=by
  obtain ⟨i1,i2⟩:=opOk_id hk
  obtain ⟨d1,d2⟩:=opOk_dir hk
  have hl:=ok_len hs
  have hDin:=dir_in hk (by omega)
  have hIin:=id_in hk
  obtain ⟨d,hd⟩:=at_ (os:=os) hl d1 d2
  obtain ⟨x,hx⟩:=at_ (os:=os) hl (by omega) i2
  have hdv:=worn_no hw hDin hd
  have hxv:=worn_no hw hIin hx
  obtain ⟨I,hI⟩ : ∃ I : Nat,o.id.toNat = I:=⟨_,rfl⟩
  obtain ⟨D,hD⟩ : ∃ D : Nat,o.dir.toNat = D:=⟨_,rfl⟩
  unfold actGone at hf ⊢
  rw [hI] at hx
  rw [hD] at hd
  simp only [hI,hD,hd,hx] at hf ⊢
  have hid : o.id = (I : Int):=by omega
  by_cases g1 : d.kind ≠ 2
  · rw [if_pos g1] at hf; simp at hf
  by_cases g2 : findV d.kids o.name ≠ o.id
  · rw [if_neg g1,if_pos g2] at hf; simp at hf
  by_cases g3 : 0 < x.kids.length
  · rw [if_neg g1,if_neg g2,if_pos g3] at hf; simp at hf
  rw [if_neg g1,if_neg g2,if_neg g3]
  clear hf
  have g1 : d.kind = 2:=by simpa using g1
  have g2 : findV d.kids o.name = o.id:=by simpa using g2
  have hxk : x.kids = []:=List.eq_nil_of_length_eq_zero (by omega)
  obtain ⟨e0,m0,n0,k0⟩:=find_name g2 (by omega)
  have hne : D ≠ I:=by
    rintro rfl
    rw [hd] at hx; cases hx
    rw [hxk] at m0; simp at m0
  have hIl : I < os.length:=by omega
  obtain ⟨q1,q2,q3,q4⟩:=dir_parts (ok_obj hs hd) g1
  have hdo : objB { d with kids:=outL o.name d.kids,ver:=d.ver + 1 } = true :=
    dir_ok g1 (by show 1 ≤ d.ver + 1; omega) (by show d.ver + 1 ≤ _; omega) q3 (kidsB_out q4 _)
  obtain ⟨M,hM⟩ : ∃ M : LObj,M = { d with kids:=outL o.name d.kids,ver:=d.ver + 1 }:=⟨_,rfl⟩
  rw [← hM] at hdo ⊢
  have hMk : M.kind = d.kind:=by rw [hM]
  have hMe : M.kids = outL o.name d.kids:=by rw [hM]
  have hxv0:=obj_ver (ok_obj hs hx)
  obtain ⟨N,hN⟩ : ∃ N : LObj,N = ⟨0,x.ver + 1,⟨#[]⟩,[]⟩:=⟨_,rfl⟩
  have hNk : N.kind = 0:=by rw [hN]
  have hNe : N.kids = []:=by rw [hN]
  have hNo : objB N = true:=by
    rw [hN]
    have h1 : verB 0 (x.ver + 1) = true:=by simp [verB]; omega
    have h2 : partsB ⟨0,x.ver + 1,⟨#[]⟩,[]⟩ = true:=by unfold partsB; rw [if_pos rfl,emp_nil]; rfl
    unfold objB
    rw [h2,h1]
    rfl
  rw [← hN]
  have hx1 : (os.set D M)[I]? = some x:=by rw [List.getElem?_set_ne hne]; exact hx
  have hkd : ∀ i,kindOf ((os.set D M).set I N) i = if i = I then 0 else kindOf os i:=fun i=>by
    rw [kindOf_set N (by simp; omega),hNk,kindOf_same hd hMk]
  have hct : ∀ i : Int,cnt (flat ((os.set D M).set I N)) i + (if (I : Int) = i then 1 else 0) = cnt (flat os) i:=fun i=>by
    have h1:=cnt_set hx1 N i
    have h2:=cnt_set hd M i
    have h3:=cntE_out (ok_asc hs hd) m0 i
    rw [n0,k0,hid] at h3
    rw [hxk,hNe] at h1
    rw [hMe] at h2
    omega
  have hm : ∀ a e,(a,e) ∈ flat os → e.id ≠ (I : Int) → (a,e) ∈ flat ((os.set D M).set I N):=by
    intro a e h hei
    obtain ⟨oo,p1,p2⟩:=mem_flatE.1 h
    rw [mem_flatE]
    by_cases hb : a = I
    · subst hb
      rw [hx] at p1; cases p1
      rw [hxk] at p2; simp at p2
    · by_cases ha : a = D
      · subst ha
        rw [hd] at p1; cases p1
        refine ⟨M,by rw [List.getElem?_set_ne (Ne.symm hb),List.getElem?_set_self (by omega)],?_⟩
        rw [hMe,mem_out]
        refine ⟨p2,fun hn=>hei ?_⟩
        rw [asc_one (ok_asc hs hd) p2 m0 (by rw [hn,n0]),k0,hid]
      · exact ⟨oo,by rw [List.getElem?_set_ne (Ne.symm hb),List.getElem?_set_ne (Ne.symm ha)]; exact p1,p2⟩
  have hcn : ∀ i : Nat,1 ≤ i → i < 32 → cnt (flat ((os.set D M).set I N)) i = if kindOf ((os.set D M).set I N) i = 0 then 0 else 1:=fun i h1 h2=>by
    have h3:=hct i
    rw [ok_cnt hs h1 h2] at h3
    rw [hkd]
    by_cases e : i = I
    · subst e
      rw [if_pos rfl] at h3
      rw [if_pos (show (if i = i then (0 : Int) else kindOf os i) = 0 from if_pos rfl)]
      split at h3 <;> omega
    · rw [if_neg (by omega)] at h3
      rw [if_neg e]
      exact h3
  have hone : ∀ j : Nat,1 ≤ j → j < 32 → cnt (flat ((os.set D M).set I N)) j ≤ 1:=fun j h1 h2=>by
    rw [hcn j h1 h2]; split <;> omega
  have keep : ∀ j : Nat,j < 32 ∧ kindOf os j ≠ 0 ∧ j ≠ I → Up ((os.set D M).set I N) j:=fun j hj =>
    up_keep (fun j=>j < 32 ∧ kindOf os j ≠ 0 ∧ j ≠ I) (fun j hj h1=>by
      obtain ⟨a,e,m1,m2,m3,m4,m5⟩:=ok_home hs h1 hj.1 hj.2.1
      refine ⟨a,m3,by have:=home_of (hm _ _ m1 (by rw [m2]; omega)) (by rw [m2]; exact hone j h1 hj.1); rw [m2] at this; exact this,m4,by omega,?_⟩
      rintro rfl
      obtain ⟨oo,p1,p2⟩:=mem_flatE.1 m1
      rw [hx] at p1; cases p1
      rw [hxk] at p2; simp at p2) (ok_up hs hj.1 hj.2.1) j rfl hj
  refine specOk_of (by simp [hl]) ?_ (AllOb.set (AllOb.set (fun i o h=>ok_obj hs h) hdo D) hNo I) hcn fun i h1 h2 hk=>?_
  · rw [hkd,if_neg (by omega)]; exact ok_top hs
  · rw [hkd] at hk
    by_cases e : i = I
    · rw [if_pos e] at hk; exact absurd rfl hk
    · rw [if_neg e] at hk
      exact keep i ⟨h2,hk,e⟩
theorem Up.congr {t t' : List LObj} (hf : flat t' = flat t) {i : Int} (h : Up t i) : Up t' i:=by
  induction h with
  | top=>exact .top
  | step h _ ih=>exact .step h (by rw [hf]; exact ih)
theorem ok_like {t t' : List LObj} (hs : specOk t = true) (hl : t'.length = t.length) (hk : ∀ i,kindOf t' i = kindOf t i) (hf : flat t' = flat t) (ho : AllOb t') : specOk t' = true :=
  specOk_of (by rw [hl]; exact ok_len hs) (by rw [hk]; exact ok_top hs) ho (fun i h1 h2=>by rw [hf,hk]; exact ok_cnt hs h1 h2) (fun i _ h2 h3=>(ok_up hs h2 (by rw [← hk]; exact h3)).congr hf)
theorem text_ok {os : List LObj} {o : LOp} (hs : specOk os = true) (hk : opOk o = true) (hw : wornB os (opIds o) = false) (hb : body o.text.data.toList = true) (hf : (actText os o).2 = 0) : specOk (actText os o).1 = true:=by
  obtain ⟨i1,i2⟩:=opOk_id hk
  have hl:=ok_len hs
  obtain ⟨x,hx⟩:=at_ (os:=os) hl (by omega) i2
  have hxv:=worn_no hw (id_in hk) hx
  unfold actText at hf ⊢
  simp only [hx] at hf ⊢
  by_cases g1 : x.kind ≠ 1
  · rw [if_pos g1] at hf; simp at hf
  rw [if_neg g1]
  have g1 : x.kind = 1:=by simpa using g1
  obtain ⟨v1,v2,v3⟩:=file_parts (ok_obj hs hx) g1
  refine ok_like hs (by simp) (kindOf_same hx rfl) (flat_same hx _ rfl) (AllOb.set (fun i o h=>ok_obj hs h) ?_ _)
  have h1 : verB 1 (x.ver + 1) = true:=by simp [verB]; omega
  unfold objB partsB
  simp [g1,h1,hb,v3,nil?]
theorem turnL_flat (t : List LObj) (i : Nat) : flat (turnL t i) = flat t:=by
  unfold turnL
  split
  · next o h=>exact flat_same h _ rfl
  · rfl
theorem turnL_kind (t : List LObj) (i j : Nat) : kindOf (turnL t i) j = kindOf t j:=by
  unfold turnL
  split
  · next o h=>exact kindOf_same h (o':={ o with ver:=o.ver + 1 }) rfl j
  · rfl
theorem turnL_ob {t : List LObj} (h : AllOb t) {i : Nat} (hv : ∀ o,t[i]? = some o → o.ver < 1000000) : AllOb (turnL t i):=by
  unfold turnL
  split
  · next o ho=>exact h.set (turn_ob (h i o ho) (hv o ho)) i
  · exact h
theorem turnL_ne (t : List LObj) {i j : Nat} (h : i ≠ j) : (turnL t i)[j]? = t[j]?:=by
  unfold turnL
  split
  · rw [List.getElem?_set_ne h]
  · rfl
theorem kidsL_get {t : List LObj} (i : Nat) (f : List LEnt → List LEnt) {j : Nat} {o : LObj} (h : t[j]? = some o) : (kidsL t i f)[j]? = some (if j = i then { o with kids:=f o.kids } else o):=by
  unfold kidsL
  by_cases e : j = i
  · subst e
    simp only [h]
    rw [if_pos trivial,List.getElem?_set_self (List.getElem?_eq_some_iff.1 h).1]
  · rw [if_neg e]
    split
    · rw [List.getElem?_set_ne (Ne.symm e)]; exact h
    · exact h
theorem kidsL_cnt {t : List LObj} {i : Nat} (f : List LEnt → List LEnt) {o : LObj} (h : t[i]? = some o) (c : Int) : cnt (flat (kidsL t i f)) c + cntE o.kids c = cnt (flat t) c + cntE (f o.kids) c:=by
  unfold kidsL
  simp only [h]
  exact cnt_set h _ c
theorem kidsL_kind (t : List LObj) (i : Nat) (f : List LEnt → List LEnt) (j : Nat) : kindOf (kidsL t i f) j = kindOf t j:=by
  unfold kidsL
  split
  · next o h=>exact kindOf_same h (o':={ o with kids:=f o.kids }) rfl j
  · rfl
theorem kidsL_ob {t : List LObj} (ha : AllOb t) {i : Nat} {f : List LEnt → List LEnt} {o : LObj} (h : t[i]? = some o) (hk : o.kind = 2) (hf : kidsB (f o.kids) = true) : AllOb (kidsL t i f):=by
  unfold kidsL
  simp only [h]
  obtain ⟨q1,q2,q3,q4⟩:=dir_parts (ha i o h) hk
  exact ha.set (dir_ok (o:={ o with kids:=f o.kids }) hk q1 q2 q3 hf) i
theorem move_ok {os : List LObj} {o : LOp} (hs : specOk os = true) (hk : opOk o = true) (hw : wornB os (opIds o) = false) (hkind : o.kind = 4) (hf : (actMove os o).2 = 0) : specOk (actMove os o).1 = true:=by
  obtain ⟨i1,i2⟩:=opOk_id hk
  obtain ⟨d1,d2⟩:=opOk_dir hk
  obtain ⟨b1,b2⟩:=opOk_dir2 hk
  have hl:=ok_len hs
  have hDin:=dir_in hk (by omega)
  have hEin:=dir2_in hk hkind
  have hwd:=op_word2 hk hkind
  obtain ⟨d,hd⟩:=at_ (os:=os) hl d1 d2
  obtain ⟨x,hx⟩:=at_ (os:=os) hl b1 b2
  have hdv:=worn_no hw hDin hd
  have hxv:=worn_no hw hEin hx
  obtain ⟨I,hI⟩ : ∃ I : Nat,o.id.toNat = I:=⟨_,rfl⟩
  obtain ⟨D,hD⟩ : ∃ D : Nat,o.dir.toNat = D:=⟨_,rfl⟩
  obtain ⟨E,hE⟩ : ∃ E : Nat,o.dir2.toNat = E:=⟨_,rfl⟩
  unfold actMove at hf ⊢
  rw [hE] at hx
  rw [hD] at hd
  simp only [hD,hE,hd,hx] at hf ⊢
  have hid : o.id = (I : Int):=by omega
  have hie : o.dir2 = (E : Int):=by omega
  by_cases g1 : d.kind ≠ 2 ∨ x.kind ≠ 2
  · rw [if_pos g1] at hf; simp at hf
  by_cases g2 : findV d.kids o.name ≠ o.id
  · rw [if_neg g1,if_pos g2] at hf; simp at hf
  by_cases g3 : 0 ≤ findV x.kids o.name2
  · rw [if_neg g1,if_neg g2,if_pos g3] at hf; simp at hf
  by_cases g4 : under os o.id 33 o.dir2 = true
  · rw [if_neg g1,if_neg g2,if_neg g3,if_pos g4] at hf; simp at hf
  rw [if_neg g1,if_neg g2,if_neg g3,if_neg g4]
  clear hf
  have g2 : findV d.kids o.name = o.id:=by simpa using g2
  have k1 : d.kind = 2:=by omega
  have k2 : x.kind = 2:=by omega
  obtain ⟨e0,m0,n0,k0⟩:=find_name g2 (by omega)
  have hnm:=find_no g3 (ents_pos hs hx)
  have hall : AllOb os:=fun i o h=>ok_obj hs h
  obtain ⟨q1,q2,q3,q4⟩:=dir_parts (ok_obj hs hd) k1
  obtain ⟨r1,r2,r3,r4⟩:=dir_parts (ok_obj hs hx) k2
  obtain ⟨t1,ht1⟩ : ∃ t1,t1 = kidsL os D (outL o.name):=⟨_,rfl⟩
  have hx1 : t1[E]? = some (if E = D then { x with kids:=outL o.name x.kids } else x):=by rw [ht1]; exact kidsL_get D _ hx
  obtain ⟨y,hy⟩ : ∃ y,y = if E = D then { x with kids:=outL o.name x.kids } else x:=⟨_,rfl⟩
  rw [← hy] at hx1
  have yk : y.kind = 2:=by rw [hy]; split <;> exact k2
  have yv : y.ver = x.ver:=by rw [hy]; split <;> rfl
  have ys : ∀ e ∈ y.kids,e ∈ x.kids:=by
    rw [hy]
    split
    · intro e he; exact ((mem_out _ _ _).1 he).1
    · exact fun e he=>he
  have yb : kidsB y.kids = true:=by
    rw [hy]
    split
    · exact kidsB_out r4 _
    · exact r4
  have ha1 : AllOb t1:=by rw [ht1]; exact kidsL_ob hall hd k1 (kidsB_out q4 _)
  obtain ⟨t2,ht2⟩ : ∃ t2,t2 = kidsL t1 E (putL ⟨o.name2,o.id⟩):=⟨_,rfl⟩
  have ha2 : AllOb t2:=by
    rw [ht2]
    exact kidsL_ob ha1 hx1 yk (kidsB_put yb (entB_yes hwd (by show 0 < o.id; omega) i2) (fun e he=>hnm e (ys e he)))
  have hkt : ∀ i,kindOf t2 i = kindOf os i:=fun i=>by rw [ht2,kidsL_kind,ht1,kidsL_kind]
  have hlt : t2.length = 32:=by rw [ht2,kidsL_len,ht1,kidsL_len,hl]
  have hct : ∀ i : Int,cnt (flat t2) i = cnt (flat os) i:=fun i=>by
    have h1:=kidsL_cnt (outL o.name) hd i
    rw [← ht1] at h1
    have h2:=kidsL_cnt (putL ⟨o.name2,o.id⟩) hx1 i
    rw [← ht2,cntE_put] at h2
    have h3:=cntE_out (ok_asc hs hd) m0 i
    rw [n0,k0] at h3
    have h4 : ((⟨o.name2,o.id⟩ : LEnt)).id = o.id:=rfl
    rw [h4] at h2
    omega
  have hm : ∀ a e,(a,e) ∈ flat os → e.id ≠ (I : Int) → (a,e) ∈ flat t2:=by
    intro a e h hei
    obtain ⟨oo,p1,p2⟩:=mem_flatE.1 h
    rw [mem_flatE]
    have c1 : t1[a]? = some (if a = D then { oo with kids:=outL o.name oo.kids } else oo):=by rw [ht1]; exact kidsL_get D _ p1
    have c2 : ∃ z,t1[a]? = some z ∧ e ∈ z.kids:=by
      refine ⟨_,c1,?_⟩
      by_cases ha : a = D
      · rw [if_pos ha]
        subst ha
        rw [hd] at p1; cases p1
        show e ∈ outL o.name _
        rw [mem_out]
        refine ⟨p2,fun hn=>hei ?_⟩
        rw [asc_one (ok_asc hs hd) p2 m0 (by rw [hn,n0]),k0,hid]
      · rw [if_neg ha]; exact p2
    obtain ⟨z,z1,z2⟩:=c2
    have c3 : t2[a]? = some (if a = E then { z with kids:=putL ⟨o.name2,o.id⟩ z.kids } else z):=by rw [ht2]; exact kidsL_get E _ z1
    refine ⟨_,c3,?_⟩
    split
    · exact (mem_put _ _ _).2 (.inr z2)
    · exact z2
  have mi : (E,(⟨o.name2,(I : Int)⟩ : LEnt)) ∈ flat t2:=by
    rw [mem_flatE]
    have c3 : t2[E]? = some (if E = E then { y with kids:=putL ⟨o.name2,o.id⟩ y.kids } else y):=by rw [ht2]; exact kidsL_get E _ hx1
    rw [if_pos rfl] at c3
    exact ⟨_,c3,(mem_put _ _ _).2 (.inl (by rw [hid]))⟩
  have hcn : ∀ i : Nat,1 ≤ i → i < 32 → cnt (flat t2) i = if kindOf t2 i = 0 then 0 else 1:=fun i h1 h2=>by
    rw [hct,hkt]; exact ok_cnt hs h1 h2
  have hone : ∀ j : Nat,1 ≤ j → j < 32 → cnt (flat t2) j ≤ 1:=fun j h1 h2=>by
    rw [hcn j h1 h2]; split <;> omega
  have hEl : kindOf os E = 2:=by rw [kindOf_at hx]; exact k2
  have hstep : ∀ j : Nat,1 ≤ j → j < 32 → kindOf os j ≠ 0 → j ≠ I → ∃ a : Nat,homeIn (flat os) j = a ∧ homeIn (flat t2) j = a ∧ a < 32 ∧ kindOf os a ≠ 0:=fun j h1 h2 h3 h4=>by
    obtain ⟨a,e,m1,m2,m3,m4,m5⟩:=ok_home hs h1 h2 h3
    exact ⟨a,m3,by have:=home_of (hm _ _ m1 (by rw [m2]; omega)) (by rw [m2]; exact hone j h1 h2); rw [m2] at this; exact this,m4,by omega⟩
  have hring : ∀ j,it os j (E : Int) ≠ (I : Int):=by
    intro j hj
    obtain ⟨m,hm1,hm2⟩:=depth31 hs (id:=(E : Int)) (by simp [hasB,hEl]; omega)
    have:=it_end hs hm2 (j:=j) (by omega)
    apply g4
    rw [hid,hie,under_iff hs]
    exact ⟨by omega,j,by omega,hj⟩
  have upE : Up t2 E :=
    up_keep (fun j=>j < 32 ∧ kindOf os j ≠ 0 ∧ ∀ k,it os k (j : Int) ≠ (I : Int)) (fun j hj h1=>by
      obtain ⟨a,a1,a2,a3,a4⟩:=hstep j h1 hj.1 hj.2.1 (by rintro rfl; exact hj.2.2 0 rfl)
      refine ⟨a,a1,a2,a3,a4,fun k hk=>hj.2.2 (k + 1) ?_⟩
      rw [it,a1]
      exact hk) (ok_up hs (by omega) (by omega)) E rfl ⟨by omega,by omega,hring⟩
  have upI : Up t2 (I : Int):=by
    refine .step (by omega) ?_
    have:=home_of mi (hone I (by omega) (by omega))
    rw [show ((⟨o.name2,(I : Int)⟩ : LEnt)).id = (I : Int) from rfl] at this
    rw [this]
    exact upE
  have upA : ∀ {i : Int},Up os i → ∀ j : Nat,i = j → j < 32 → kindOf os j ≠ 0 → Up t2 i:=by
    intro i h
    induction h with
    | top=>intro _ _ _ _; exact .top
    | @step i h u ih =>
      intro j hj h2 h3
      by_cases e : j = I
      · rw [hj,e]; exact upI
      · obtain ⟨a,a1,a2,a3,a4⟩:=hstep j (by omega) h2 h3 e
        refine .step h ?_
        have:=ih a (by rw [hj]; exact a1) a3 a4
        rw [hj,a1] at this
        rw [hj,a2]
        exact this
  have h2ok : specOk t2 = true:=specOk_of hlt (by rw [hkt]; exact ok_top hs) ha2 hcn fun i h1 h2 h3=>upA (ok_up hs h2 (by rw [← hkt]; exact h3)) i rfl h2 (by rw [← hkt]; exact h3)
  have hD2 : ∀ z,t2[D]? = some z → z.ver < 1000000:=by
    intro z hz
    have c1 : t1[D]? = some (if D = D then { d with kids:=outL o.name d.kids } else d):=by rw [ht1]; exact kidsL_get D _ hd
    rw [if_pos rfl] at c1
    have c3:=kidsL_get E (putL ⟨o.name2,o.id⟩) c1
    rw [← ht2,hz] at c3
    have c4:=Option.some.inj c3
    rw [c4]
    split <;> exact hdv
  have hE2 : ∀ z,t2[E]? = some z → z.ver < 1000000:=by
    intro z hz
    have c3:=kidsL_get E (putL ⟨o.name2,o.id⟩) hx1
    rw [← ht2,hz,if_pos rfl] at c3
    have c4:=Option.some.inj c3
    rw [c4]
    show y.ver < _
    omega
  rw [← ht1,← ht2]
  unfold turnM
  have ht:=turnL_ob ha2 hD2
  split
  · exact ok_like h2ok (turnL_len _ _) (turnL_kind _ _) (turnL_flat _ _) ht
  · next hne =>
    refine ok_like h2ok (by rw [turnL_len,turnL_len]) (fun i=>by rw [turnL_kind,turnL_kind]) (by rw [turnL_flat,turnL_flat]) (turnL_ob ht fun z hz=>hE2 z ?_)
    rw [turnL_ne _ (fun h=>hne h.symm)] at hz
    exact hz
theorem act_ok {os : List LObj} {o : LOp} (hs : specOk os = true) (hk : opOk o = true) (hf : (actDo os o).2 = 0) : specOk (actDo os o).1 = true:=by
  unfold actDo at hf ⊢
  by_cases hw : wornB os (opIds o) = true
  · rw [if_pos hw] at hf; simp at hf
  rw [if_neg hw] at hf ⊢
  have hw : wornB os (opIds o) = false:=by simpa using hw
  by_cases h1 : o.kind = 1 ∨ o.kind = 2
  · rw [if_pos h1] at hf ⊢; exact new_ok hs hk hw h1 hf
  rw [if_neg h1] at hf ⊢
  by_cases h3 : o.kind = 3
  · rw [if_pos h3] at hf ⊢; exact gone_ok hs hk hw h3 hf
  rw [if_neg h3] at hf ⊢
  by_cases h4 : o.kind = 4
  · rw [if_pos h4] at hf ⊢; exact move_ok hs hk hw h4 hf
  rw [if_neg h4] at hf ⊢
  exact text_ok hs hk hw (op_body hk h1 h3 h4) hf
end
section
open Go.RowKit
set_option maxHeartbeats 1000000 in
set_option maxRecDepth 100000 in
theorem search2_any (a : Option Addr) (n c : Nat) (es : List LEnt) (L U : Nat) (name : ByteArray) (w : World) (hn : n ≤ 1048576) (ha : Asc es) (hU : U ≤ w.heap.size) (H : EntsAt w L U a n es) :
    Calls Tryz.prog 286 #[.slice a n c,.string name,.func (.func 287) #[] #[]] w fun e w'=>PlaceEnd es name e ∧ Below w.heap.size w w':=by
  have HL : Hid (n = es.length):=H.len
  go_enter Tryz.func286,Tryz.ntmps286
  go_wp2_with fail
  go_loopg [9,10] (n + 1) (fun g i j wr=>∃ x y : Nat,x ≤ y ∧ y ≤ n ∧ Hid (g = y - x + 1) ∧ i = .int .i64 x ∧ j = .int .i64 y ∧ Hid (Low es name x ∧ High es name y) ∧ Below w.heap.size w wr)
  case atStart=>exact ⟨0,n,by omega,by omega,by show _ = _; omega,rfl,rfl,⟨fun i hi=>by omega,fun i hi e he=>by have:=(List.getElem?_eq_some_iff.1 he).1; have:=HL.out; omega⟩,Below.refl _ _⟩
  case round =>
    obtain ⟨x,y,hxy,hy,hg,rfl,rfl,hq,hb⟩:=hrel
    by_cases hlt : x < y
    · have hlt' : (x : Int) < (y : Int):=by omega
      obtain ⟨h,hh⟩ : ∃ h : Nat,((x : Int) + (y : Int)) / 2 = (h : Int):=⟨(x + y) / 2,by omega⟩
      have hh1 : x ≤ h:=by omega
      have hh2 : h < y:=by omega
      obtain ⟨b,off,ha',hL,hbU,hc⟩:=H.at_ (by omega)
      subst ha'
      obtain ⟨e,he,hsz,hc0,hc1⟩:=hc h (by omega)
      rw [← hb.cell (by simp; omega)] at hc0 hc1
      have HE : Hid (es[h]? = some e):=he
      clear he hc
      have hhn : (h : Int) < (n : Int):=by omega
      have hh0 : (0 : Int) ≤ (h : Int):=by omega
      go_wp2_with fail
      refine (closure_any _ _ _ _).mono ?_
      rintro z w1 ⟨rfl,rfl⟩
      have hb1 : ∀ o,Below w.heap.size w (wr.alloc o):=fun o=>hb.alloc hb.size _
      by_cases hcm : Lib.compareBytes e.name.data.toList name.data.toList < 0
      · have HC : Hid (Lib.compareBytes (nm e) name.data.toList < 0):=hcm
        go_wp2_with fail
        go_roundg (y - (h + 1) + 1)
        case measure=>have:=hg.out; omega
        case rel=>exact ⟨h + 1,y,by omega,by omega,rfl,by go_num,rfl,⟨low_up ha HE.out HC.out,hq.out.2⟩,hb1 _⟩
      · have HC : Hid (¬ Lib.compareBytes (nm e) name.data.toList < 0):=hcm
        go_wp2_with fail
        go_roundg (h - x + 1)
        case measure=>have:=hg.out; omega
        case rel=>exact ⟨x,h,by omega,by omega,rfl,rfl,rfl,⟨hq.out.1,high_down ha HE.out (by have:=HC.out; omega)⟩,hb1 _⟩
    · have hxy' : x = y:=by omega
      subst hxy'
      by_cases hxn : x < n
      · obtain ⟨b,off,ha',hL,hbU,hc⟩:=H.at_ (by omega)
        subst ha'
        obtain ⟨e,he,hsz,hc0,hc1⟩:=hc x hxn
        rw [← hb.cell (by simp; omega)] at hc0 hc1
        have HE : Hid (es[x]? = some e):=he
        clear he hc
        have hxn' : (x : Int) < (n : Int):=by omega
        have hx0 : (0 : Int) ≤ (x : Int):=by omega
        have hb1 : ∀ o,Below w.heap.size w (wr.alloc o):=fun o=>hb.alloc hb.size _
        go_wp2_with fail
        refine (closure_any _ _ _ _).mono ?_
        rintro z w1 ⟨rfl,rfl⟩
        by_cases hcm : Lib.compareBytes e.name.data.toList name.data.toList = 0
        · have t1 : (Lib.compareBytes e.name.data.toList name.data.toList == 0) = true:=by simpa using hcm
          clear hcm
          go_wp2_with fail
          go_ret2
          exact ⟨⟨x,true,rfl,by have:=HL.out; omega,hq.out.1,hq.out.2⟩,hb1 _⟩
        · have t1 : (Lib.compareBytes e.name.data.toList name.data.toList == 0) = false:=by simpa using hcm
          clear hcm
          go_wp2_with fail
          go_ret2
          exact ⟨⟨x,false,rfl,by have:=HL.out; omega,hq.out.1,hq.out.2⟩,hb1 _⟩
      · have hxn' : ¬ (x : Int) < (n : Int):=by omega
        go_wp2_with fail
        go_ret2
        exact ⟨⟨x,false,rfl,by have:=HL.out; omega,hq.out.1,hq.out.2⟩,hb⟩
set_option maxHeartbeats 400000 in
theorem place2_any (a : Option Addr) (n c : Nat) (es : List LEnt) (L U : Nat) (name : ByteArray) (w : World) (hn : n ≤ 1048576) (ha : Asc es) (hU : U ≤ w.heap.size) (H : EntsAt w L U a n es) :
    Calls Tryz.prog 284 #[.slice a n c,.string name] w fun e w'=>PlaceEnd es name e ∧ Below w.heap.size w w':=by
  go_enter Tryz.func284,Tryz.ntmps284
  go_wp2_with fail
  refine (search2_any _ _ _ _ L U _ _ hn ha hU H).mono ?_
  rintro z w1 ⟨⟨x,b,rfl,hr⟩,hb⟩
  have HR : Hid (x ≤ es.length ∧ Low es name x ∧ High es name x):=hr
  clear hr
  go_wp2_with fail
  go_ret2
  exact ⟨⟨x,b,rfl,HR.out⟩,hb⟩
end
end Go.Proofs.YtloopeipheklpaaGreatDoor
