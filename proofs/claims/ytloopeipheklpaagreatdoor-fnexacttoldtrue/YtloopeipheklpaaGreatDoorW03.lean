/- Lemmas that the proofs of this seat share: OpsAll, OpSame. -/
import Derived.Test.YtloopeipheklpaaGreatDoorW02
import Derived.Deep.DeepCutAuto
import Derived.Test.YtloopeipheklpaaGreatDoorW01
import Derived.Deep.QuietTactic
import Derived.BigQuiet
namespace Go.Proofs.YtloopeipheklpaaGreatDoor
section
open Go.RowKit
structure LOp where
  kind : Int
  dir : Int
  name : ByteArray
  dir2 : Int
  name2 : ByteArray
  id : Int
  text : ByteArray
def LOp.val (o : LOp) : Array Value:=#[.int .i64 o.kind,.int .i64 o.dir,.string o.name,.int .i64 o.dir2,.string o.name2,.int .i64 o.id,.string o.text]
theorem l1Id_any (i : Int) (w : World) : Calls Tryz.prog 143 #[.int .i64 i] w fun e w'=>e = .returned (.bool (idB i)) ∧ w' = w:=by
  by_cases h0 : 0 ≤ i
  · by_cases h1 : i < 32
    · have : idB i = true:=by simp [idB,h0,h1]
      rw [this]; exact l1Id_yes i h0 h1 w
    · have : idB i = false:=by simp [idB,h1]
      rw [this]; exact l1Id_no i (.inr (by omega)) w
  · have : idB i = false:=by simp [idB,h0]
    rw [this]; exact l1Id_no i (.inl (by omega)) w
def opId (o : LOp) : Bool:=decide (1 ≤ o.id) && idB o.id
def opSlot (o : LOp) : Bool:=idB o.dir && word o.name.data.toList
def opSlot2 (o : LOp) : Bool:=idB o.dir2 && word o.name2.data.toList
def opNone2 (o : LOp) : Bool:=(o.dir2 == 0) && o.name2.toList.isEmpty
def opOk (o : LOp) : Bool :=
  if o.kind = 1 ∨ o.kind = 2 ∨ o.kind = 3 then opId o && opSlot o && opNone2 o && o.text.toList.isEmpty
  else if o.kind = 4 then opId o && opSlot o && opSlot2 o && o.text.toList.isEmpty
  else if o.kind = 5 then opId o && (o.dir == 0) && o.name.toList.isEmpty && opNone2 o && body o.text.data.toList
  else false
set_option maxHeartbeats 2000000 in
set_option maxRecDepth 20000 in
theorem opOk_any (o : LOp) (w : World) (h1 : o.name.size ≤ maxLen) (h2 : o.name2.size ≤ maxLen) (h3 : o.text.size ≤ maxLen) :
    Calls Tryz.prog 80 #[.agg o.val] w fun e w'=>e = .returned (.bool (opOk o)) ∧ w' = w.alloc (.cells o.val 130):=by
  obtain ⟨k,d,nm,d2,nm2,id,tx⟩:=o
  simp only [LOp.val] at *
  go_enter Tryz.func80,Tryz.ntmps80
  go_upto_region 1 with fail
  go_cut [3] (fun s wx=>s = .bool (opId ⟨k,d,nm,d2,nm2,id,tx⟩) ∧ wx = w.alloc (.cells #[.int .i64 k,.int .i64 d,.string nm,.int .i64 d2,.string nm2,.int .i64 id,.string tx] 130))
  case first =>
    by_cases hi : 1 ≤ id
    · go_wp2_with fail
      refine (l1Id_any _ _).mono ?_
      rintro x w1 ⟨rfl,rfl⟩
      go_wp2_with fail
      go_meet
      exact ⟨by simp [opId,hi],rfl⟩
    · go_wp2_with fail
      go_meet
      exact ⟨by simp [opId]; omega,rfl⟩
  obtain ⟨rfl,rfl⟩:=hcut
  go_upto_region 2 with fail
  go_cut [4] (fun s wx=>s = .bool (opSlot ⟨k,d,nm,d2,nm2,id,tx⟩) ∧ wx = w.alloc (.cells #[.int .i64 k,.int .i64 d,.string nm,.int .i64 d2,.string nm2,.int .i64 id,.string tx] 130))
  case first =>
    by_cases hi : idB d = true
    · go_wp2_with fail
      refine (l1Id_any _ _).mono ?_
      rintro x w1 ⟨rfl,rfl⟩
      go_wp2_with fail
      refine (specWord _ _ h1).mono ?_
      rintro x w1 ⟨rfl,rfl⟩
      go_wp2_with fail
      go_meet
      exact ⟨by simp [opSlot,hi],rfl⟩
    · have hi' : idB d = false:=by simpa using hi
      go_wp2_with fail
      refine (l1Id_any _ _).mono ?_
      rintro x w1 ⟨rfl,rfl⟩
      go_wp2_with fail
      go_meet
      exact ⟨by simp [opSlot,hi'],rfl⟩
  obtain ⟨rfl,rfl⟩:=hcut
  go_upto_region 3 with fail
  go_cut [5] (fun s wx=>s = .bool (opSlot2 ⟨k,d,nm,d2,nm2,id,tx⟩) ∧ wx = w.alloc (.cells #[.int .i64 k,.int .i64 d,.string nm,.int .i64 d2,.string nm2,.int .i64 id,.string tx] 130))
  case first =>
    by_cases hi : idB d2 = true
    · go_wp2_with fail
      refine (l1Id_any _ _).mono ?_
      rintro x w1 ⟨rfl,rfl⟩
      go_wp2_with fail
      refine (specWord _ _ h2).mono ?_
      rintro x w1 ⟨rfl,rfl⟩
      go_wp2_with fail
      go_meet
      exact ⟨by simp [opSlot2,hi],rfl⟩
    · have hi' : idB d2 = false:=by simpa using hi
      go_wp2_with fail
      refine (l1Id_any _ _).mono ?_
      rintro x w1 ⟨rfl,rfl⟩
      go_wp2_with fail
      go_meet
      exact ⟨by simp [opSlot2,hi'],rfl⟩
  obtain ⟨rfl,rfl⟩:=hcut
  go_upto_region 4 with fail
  go_cut [6] (fun s wx=>s = .bool (opNone2 ⟨k,d,nm,d2,nm2,id,tx⟩) ∧ wx = w.alloc (.cells #[.int .i64 k,.int .i64 d,.string nm,.int .i64 d2,.string nm2,.int .i64 id,.string tx] 130))
  case first =>
    by_cases hi : d2 = 0
    · have t0 : (d2 == 0) = true:=by simpa using hi
      clear hi
      go_wp2_with fail
      go_meet
      exact ⟨by simp only [opNone2,t0]; rfl,rfl⟩
    · have t0 : (d2 == 0) = false:=by simpa using hi
      go_wp2_with fail
      go_meet
      exact ⟨by simp [opNone2,hi],rfl⟩
  obtain ⟨rfl,rfl⟩:=hcut
  have HV : Hid (opOk ⟨k,d,nm,d2,nm2,id,tx⟩ = if k = 1 ∨ k = 2 ∨ k = 3 then opId ⟨k,d,nm,d2,nm2,id,tx⟩ && opSlot ⟨k,d,nm,d2,nm2,id,tx⟩ && opNone2 ⟨k,d,nm,d2,nm2,id,tx⟩ && tx.toList.isEmpty
      else if k = 4 then opId ⟨k,d,nm,d2,nm2,id,tx⟩ && opSlot ⟨k,d,nm,d2,nm2,id,tx⟩ && opSlot2 ⟨k,d,nm,d2,nm2,id,tx⟩ && tx.toList.isEmpty
      else if k = 5 then opId ⟨k,d,nm,d2,nm2,id,tx⟩ && (d == 0) && nm.toList.isEmpty && opNone2 ⟨k,d,nm,d2,nm2,id,tx⟩ && body tx.data.toList else false):=rfl
  generalize opId ⟨k,d,nm,d2,nm2,id,tx⟩ = A at HV ⊢
  generalize opSlot ⟨k,d,nm,d2,nm2,id,tx⟩ = S at HV ⊢
  generalize opSlot2 ⟨k,d,nm,d2,nm2,id,tx⟩ = S2 at HV ⊢
  generalize opNone2 ⟨k,d,nm,d2,nm2,id,tx⟩ = N at HV ⊢
  by_cases k1 : k = 1 ∨ k = 2 ∨ k = 3
  · rcases k1 with rfl | rfl | rfl
    all_goals
      cases A <;> cases S <;> cases N <;>
      (go_wp2_with fail; go_ret; exact ⟨by rw [HV.out]; simp,rfl⟩)
  · have e1 : (k == 1) = false:=by simp; omega
    have e2 : (k == 2) = false:=by simp; omega
    have e3 : (k == 3) = false:=by simp; omega
    by_cases k4 : k = 4
    · subst k4
      clear k1 e1 e2 e3
      cases A <;> cases S <;> cases S2 <;>
      (go_wp2_with fail; go_ret; exact ⟨by rw [HV.out]; simp,rfl⟩)
    · have e4 : (k == 4) = false:=by simp; omega
      by_cases k5 : k = 5
      · subst k5
        clear k1 e1 e2 e3 e4 k4
        by_cases hd : d = 0
        · have t0 : (d == 0) = true:=by simpa using hd
          have HD : Hid (d = 0):=hd
          clear hd
          rcases hn : nm.toList.isEmpty with _ | _
          all_goals
            cases A <;> cases N <;>
            (go_wp2_with (go_at_call 145; refine (specBody _ _ h3).mono ?_; rintro x w1 ⟨rfl,rfl⟩)
             go_ret
             exact ⟨by rw [HV.out]; simp [HD.out,hn],rfl⟩)
        · have t0 : (d == 0) = false:=by simpa using hd
          cases A <;> cases N <;>
          (go_wp2_with fail; go_ret; exact ⟨by rw [HV.out]; simp [hd],rfl⟩)
      · have e5 : (k == 5) = false:=by simp; omega
        have HV' : Hid (opOk ⟨k,d,nm,d2,nm2,id,tx⟩ = false):=by show _ = _; rw [HV.out]; simp [k1,k4,k5]
        clear HV k1 k4 k5
        go_wp2_with fail
        go_ret
        exact ⟨by rw [HV'.out]; rfl,rfl⟩
end
section
open Go.RowKit Go.ChangeShapes Go.WideShapes
structure OpSz (o : LOp) : Prop where
  name : o.name.size ≤ maxLen
  name2 : o.name2.size ≤ maxLen
  text : o.text.size ≤ maxLen
section
variable {H : Type} {enc : TypeId × Value → H} {w : World} {spare : Nat → Bool} {held : Bool}
theorem trod_struct7 {P : Program} {base : Nat} {t : TypeId} {f0 f1 f2 f3 f4 f5 f6 : Field} {fuel : Nat} {cs : List Value} {x : DataW H × List MemPlace} (ht : P.underlying t = some (.struct #[f0,f1,f2,f3,f4,f5,f6])) (h : DataW.trod enc P w base spare held fuel t cs = some x) :
    ∃ y0 y1 y2 y3 y4 y5 y6 n,DataW.trod enc P w base spare held n f0.type ((cs.drop f0.offset).take (P.cellsOf f0.type)) = some y0 ∧ DataW.trod enc P w base spare held n f1.type ((cs.drop f1.offset).take (P.cellsOf f1.type)) = some y1 ∧
      DataW.trod enc P w base spare held n f2.type ((cs.drop f2.offset).take (P.cellsOf f2.type)) = some y2 ∧ DataW.trod enc P w base spare held n f3.type ((cs.drop f3.offset).take (P.cellsOf f3.type)) = some y3 ∧
      DataW.trod enc P w base spare held n f4.type ((cs.drop f4.offset).take (P.cellsOf f4.type)) = some y4 ∧ DataW.trod enc P w base spare held n f5.type ((cs.drop f5.offset).take (P.cellsOf f5.type)) = some y5 ∧
      DataW.trod enc P w base spare held n f6.type ((cs.drop f6.offset).take (P.cellsOf f6.type)) = some y6:=by
  obtain ⟨xs,n,_,rfl,hl,hlen,hf⟩:=DataW.trod_struct ht h
  match xs,hlen with
  | [y0,y1,y2,y3,y4,y5,y6],_=>exact ⟨y0,y1,y2,y3,y4,y5,y6,n,by simpa using hf 0 f0 rfl,by simpa using hf 1 f1 rfl,by simpa using hf 2 f2 rfl,by simpa using hf 3 f3 rfl,by simpa using hf 4 f4 rfl,by simpa using hf 5 f5 rfl,by simpa using hf 6 f6 rfl⟩
theorem open_op_cells {fuel : Nat} {v0 v1 v2 v3 v4 v5 v6 : Value} {x : DataW H × List MemPlace} (h : DataW.trod enc Tryz.prog w 0 spare held fuel 200 [v0,v1,v2,v3,v4,v5,v6] = some x) :
    ∃ o : LOp,[v0,v1,v2,v3,v4,v5,v6] = o.val.toList ∧ OpSz o:=by
  have c3 : Tryz.prog.cellsOf 3 = 1:=by kernel_rfl
  have c9 : Tryz.prog.cellsOf 9 = 1:=by kernel_rfl
  obtain ⟨y0,y1,y2,y3,y4,y5,y6,n,t0,t1,t2,t3,t4,t5,t6⟩:=trod_struct7 Tryz.underlying200 h
  simp [c3,c9] at t0 t1 t2 t3 t4 t5 t6
  obtain ⟨k0,e0,_,_⟩:=DataW.trod_int Tryz.underlying3 t0
  obtain ⟨k1,e1,_,_⟩:=DataW.trod_int Tryz.underlying3 t1
  obtain ⟨k2,e2,_,h2⟩:=DataW.trod_string Tryz.underlying9 t2
  obtain ⟨k3,e3,_,_⟩:=DataW.trod_int Tryz.underlying3 t3
  obtain ⟨k4,e4,_,h4⟩:=DataW.trod_string Tryz.underlying9 t4
  obtain ⟨k5,e5,_,_⟩:=DataW.trod_int Tryz.underlying3 t5
  obtain ⟨k6,e6,_,h6⟩:=DataW.trod_string Tryz.underlying9 t6
  simp at e0 e1 e2 e3 e4 e5 e6
  exact ⟨⟨k0,k1,k2,k3,k4,k5,k6⟩,by simp [LOp.val,e0,e1,e2,e3,e4,e5,e6],h2,h4,h6⟩
end
theorem szOp_any (o : LOp) (left : Int) (w : World) (h0 : 0 ≤ left) (h1 : left ≤ 1048576) (hs : OpSz o) :
    Calls Tryz.prog 139 #[.agg o.val,.int .i64 left] w fun e w'=>(∃ r : Int,e = .returned (.int .i64 r) ∧ (r = -1 ∨ 0 ≤ r ∧ r = left - o.name.size - o.name2.size - o.text.size)) ∧ Below w.heap.size w w':=by
  obtain ⟨hn,hn2,ht⟩:=hs
  unfold maxLen at hn hn2 ht
  simp only [LOp.val]
  by_cases c1 : left - o.name.size < 0
  · go_enter Tryz.func139,Tryz.ntmps139
    go_wp2
    go_ret
    exact ⟨⟨-1,rfl,.inl rfl⟩,(Below.refl _ _).alloc (Nat.le_refl _) _⟩
  by_cases c2 : left - o.name.size - o.name2.size < 0
  · go_enter Tryz.func139,Tryz.ntmps139
    go_wp2
    go_ret
    exact ⟨⟨-1,rfl,.inl rfl⟩,(Below.refl _ _).alloc (Nat.le_refl _) _⟩
  by_cases c3 : left - o.name.size - o.name2.size - o.text.size < 0
  · go_enter Tryz.func139,Tryz.ntmps139
    go_wp2
    go_ret
    exact ⟨⟨-1,rfl,.inl rfl⟩,(Below.refl _ _).alloc (Nat.le_refl _) _⟩
  · go_enter Tryz.func139,Tryz.ntmps139
    go_wp2
    go_ret
    exact ⟨⟨_,rfl,.inr ⟨by omega,rfl⟩⟩,(Below.refl _ _).alloc (Nat.le_refl _) _⟩
theorem toOp_any (o : LOp) (w : World) :
    Calls Tryz.prog 148 #[.agg o.val] w fun e w'=>e = .returned (.agg o.val) ∧ Below w.heap.size w w':=by
  simp only [LOp.val]
  go_enter Tryz.func148,Tryz.ntmps148
  go_wp2
  exact bodyPost_ret (v:=.agg o.val) (by simp [results,Tryz.results148,go_sem,LOp.val]) rfl ⟨rfl,(((Below.refl _ _).alloc (Nat.le_refl _) _).alloc (by simp) _).alloc (by simp; omega) _⟩
end
section
open Go.RowKit
def kword (k : Int) : ByteArray:=if k = 1 then ⟨#[102,105,108,101]⟩ else if k = 2 then ⟨#[100,105,114]⟩ else if k = 3 then ⟨#[103,111,110,101]⟩ else if k = 4 then ⟨#[109,111,118,101]⟩ else if k = 5 then ⟨#[116,101,120,116]⟩ else ⟨#[]⟩
theorem kword_any (k : Int) (w : World) : Calls Tryz.prog 212 #[.int .i64 k] w fun e w'=>e = .returned (.string (kword k)) ∧ w' = w:=by
  by_cases h : k = 1 ∨ k = 2 ∨ k = 3 ∨ k = 4 ∨ k = 5
  · rcases h with rfl | rfl | rfl | rfl | rfl <;>
    (go_enter Tryz.func212,Tryz.ntmps212; go_wp2; go_ret; exact ⟨rfl,rfl⟩)
  · have e1 : (k == 1) = false:=by simp; omega
    have e2 : (k == 2) = false:=by simp; omega
    have e3 : (k == 3) = false:=by simp; omega
    have e4 : (k == 4) = false:=by simp; omega
    have e5 : (k == 5) = false:=by simp; omega
    have HV : Hid (kword k = ⟨#[]⟩):=by show _ = _; unfold kword; rw [if_neg (by omega),if_neg (by omega),if_neg (by omega),if_neg (by omega),if_neg (by omega)]
    clear h
    go_enter Tryz.func212,Tryz.ntmps212
    go_wp2
    go_ret
    exact ⟨by rw [HV.out]; rfl,rfl⟩
theorem inDir_any (k : Int) (w : World) : Calls Tryz.prog 232 #[.int .i64 k] w fun e w'=>e = .returned (.bool (k != 5)) ∧ w' = w:=by
  go_enter Tryz.func232,Tryz.ntmps232
  go_wp2
  go_ret
  exact ⟨rfl,rfl⟩
theorem moves_any (k : Int) (w : World) : Calls Tryz.prog 233 #[.int .i64 k] w fun e w'=>e = .returned (.bool (k == 4)) ∧ w' = w:=by
  go_enter Tryz.func233,Tryz.ntmps233
  go_wp2
  go_ret
  exact ⟨rfl,rfl⟩
theorem writes_any (k : Int) (w : World) : Calls Tryz.prog 235 #[.int .i64 k] w fun e w'=>e = .returned (.bool (k == 5)) ∧ w' = w:=by
  go_enter Tryz.func235,Tryz.ntmps235
  go_wp2
  go_ret
  exact ⟨rfl,rfl⟩
def placeB (has : Bool) (dir : Int) (name : ByteArray) : Bool:=if has then idB dir && word name.data.toList else (dir == 0) && name.toList.isEmpty
def textB (has : Bool) (text : ByteArray) : Bool:=if has then body text.data.toList else text.toList.isEmpty
theorem placeOk_any (has : Bool) (dir : Int) (name : ByteArray) (w : World) (hs : name.size ≤ maxLen) : Calls Tryz.prog 231 #[.bool has,.int .i64 dir,.string name] w fun e w'=>e = .returned (.bool (placeB has dir name)) ∧ w' = w:=by
  cases has
  · by_cases h : dir = 0
    · subst h
      go_enter Tryz.func231,Tryz.ntmps231
      go_wp2
      go_ret
      exact ⟨ret_bool (by simp [placeB]),rfl⟩
    · have t : (dir == 0) = false:=by simpa using h
      go_enter Tryz.func231,Tryz.ntmps231
      go_wp2
      go_ret
      exact ⟨ret_bool (by simp [placeB,t]),rfl⟩
  · rcases hi : idB dir with _ | _
    · have HI : Hid (idB dir = false):=hi
      clear hi
      go_enter Tryz.func231,Tryz.ntmps231
      go_wp2_with (go_at_call 213; refine (isObject_any _ _).mono ?_; rintro e w' ⟨rfl,rfl⟩; rw [HI.out])
      go_ret
      exact ⟨ret_bool (by simp [placeB,HI.out]),rfl⟩
    · have HI : Hid (idB dir = true):=hi
      clear hi
      go_enter Tryz.func231,Tryz.ntmps231
      go_wp2_with (first | (go_at_call 213; refine (isObject_any _ _).mono ?_; rintro e w' ⟨rfl,rfl⟩; rw [HI.out]) | (go_at_call 246; refine (implWord _ _ hs).mono ?_; rintro e w' ⟨rfl,rfl⟩))
      go_ret
      exact ⟨ret_bool (by simp [placeB,HI.out]),rfl⟩
theorem textOk_any (has : Bool) (text : ByteArray) (w : World) (hs : text.size ≤ maxLen) : Calls Tryz.prog 234 #[.bool has,.string text] w fun e w'=>e = .returned (.bool (textB has text)) ∧ w' = w:=by
  cases has
  · go_enter Tryz.func234,Tryz.ntmps234
    go_wp2
    go_ret
    exact ⟨ret_bool (by simp [textB]),rfl⟩
  · go_enter Tryz.func234,Tryz.ntmps234
    go_wp2_with (go_at_call 242; refine (implBody _ _ hs).mono ?_; rintro e w' ⟨rfl,rfl⟩)
    go_ret
    exact ⟨ret_bool (by simp [textB]),rfl⟩
def opPartsB (k : Int) (o : LOp) : Bool:=placeB (k != 5) o.dir o.name && placeB (k == 4) o.dir2 o.name2 && textB (k == 5) o.text
theorem placeOk_of {has : Bool} {dir : Int} {name : ByteArray} {b : Bool} (h : placeB has dir name = b) (w : World) (hs : name.size ≤ maxLen) : Calls Tryz.prog 231 #[.bool has,.int .i64 dir,.string name] w fun e w'=>e = .returned (.bool b) ∧ w' = w:=by
  rw [← h]; exact placeOk_any has dir name w hs
set_option maxHeartbeats 400000 in
theorem opPartsOk_any (k : Int) (o : LOp) (w : World) (hs : OpSz o) : Calls Tryz.prog 214 #[.int .i64 k,.agg o.val] w fun e w'=>e = .returned (.bool (opPartsB k o)) ∧ Below w.heap.size w w':=by
  simp only [LOp.val]
  have hA : ∀ ob q,Below w.heap.size w ((w.alloc ob).drewN q):=fun ob q=>((Below.refl _ _).alloc (Nat.le_refl _) _).trans ((Below.drewN _ _).mono (by simp))
  rcases h1 : placeB (k != 5) o.dir o.name with _ | _
  · have H1 : Hid (placeB (k != 5) o.dir o.name = false):=h1
    clear h1
    go_enter Tryz.func214,Tryz.ntmps214
    go_wp2_with fail
    go_quiet (first | (go_at_call 232; exact Calls.quiet_of_same (inDir_any _ _)) | (go_at_call_of 231 (Value.string o.name); exact Calls.quiet_of_same (placeOk_of H1.out _ hs.name)))
    go_wp2_with fail
    go_ret
    exact ⟨ret_bool (by simp [opPartsB,H1.out]),hA _ _⟩
  · have H1 : Hid (placeB (k != 5) o.dir o.name = true):=h1
    clear h1
    rcases h2 : placeB (k == 4) o.dir2 o.name2 with _ | _
    · have H2 : Hid (placeB (k == 4) o.dir2 o.name2 = false):=h2
      clear h2
      go_enter Tryz.func214,Tryz.ntmps214
      go_wp2_with fail
      go_quiet (first | (go_at_call 232; exact Calls.quiet_of_same (inDir_any _ _)) | (go_at_call_of 231 (Value.string o.name); exact Calls.quiet_of_same (placeOk_of H1.out _ hs.name)) | (go_at_call 233; exact Calls.quiet_of_same (moves_any _ _)) | (go_at_call_of 231 (Value.string o.name2); exact Calls.quiet_of_same (placeOk_of H2.out _ hs.name2)))
      go_wp2_with fail
      go_ret
      exact ⟨ret_bool (by simp [opPartsB,H2.out]),hA _ _⟩
    · have H2 : Hid (placeB (k == 4) o.dir2 o.name2 = true):=h2
      clear h2
      go_enter Tryz.func214,Tryz.ntmps214
      go_wp2_with fail
      go_quiet (first | (go_at_call 232; exact Calls.quiet_of_same (inDir_any _ _)) | (go_at_call_of 231 (Value.string o.name); exact Calls.quiet_of_same (placeOk_of H1.out _ hs.name)) | (go_at_call 233; exact Calls.quiet_of_same (moves_any _ _)) | (go_at_call_of 231 (Value.string o.name2); exact Calls.quiet_of_same (placeOk_of H2.out _ hs.name2)) | (go_at_call 235; exact Calls.quiet_of_same (writes_any _ _)) | (go_at_call 234; exact Calls.quiet_of_same (textOk_any _ _ _ hs.text)))
      go_wp2_with fail
      go_ret
      exact ⟨ret_bool (by simp [opPartsB,H1.out,H2.out]),hA _ _⟩
theorem opOk_parts (o : LOp) : opOk o = ((kword o.kind).toList.isEmpty == false && (idB o.id && ((o.id != 0) && opPartsB o.kind o))):=by
  obtain ⟨k,d,nm,d2,nm2,id,tx⟩:=o
  have hid : opId ⟨k,d,nm,d2,nm2,id,tx⟩ = (idB id && (id != 0)):=by
    simp only [opId,idB]
    by_cases h : id = 0
    · subst h; simp
    · have h' : (id != 0) = true:=by simpa using h
      rw [h',Bool.eq_iff_iff]; simp; omega
  by_cases h1 : k = 1
  · subst h1; simp [opOk,kword,opPartsB,placeB,textB,hid,opSlot,opNone2,Bool.and_assoc]
  by_cases h2 : k = 2
  · subst h2; simp [opOk,kword,opPartsB,placeB,textB,hid,opSlot,opNone2,Bool.and_assoc]
  by_cases h3 : k = 3
  · subst h3; simp [opOk,kword,opPartsB,placeB,textB,hid,opSlot,opNone2,Bool.and_assoc]
  by_cases h4 : k = 4
  · subst h4; simp [opOk,kword,opPartsB,placeB,textB,hid,opSlot,opSlot2,Bool.and_assoc]
  by_cases h5 : k = 5
  · subst h5; simp [opOk,kword,opPartsB,placeB,textB,hid,opNone2,Bool.and_assoc]
  · simp [opOk,kword,h1,h2,h3,h4,h5]
theorem kw1 (w : World) : Calls Tryz.prog 212 #[.int .i64 1] w fun e w'=>e = .returned (.string ⟨#[102,105,108,101]⟩) ∧ w' = w:=kword_any 1 w
theorem kw2 (w : World) : Calls Tryz.prog 212 #[.int .i64 2] w fun e w'=>e = .returned (.string ⟨#[100,105,114]⟩) ∧ w' = w:=kword_any 2 w
theorem kw3 (w : World) : Calls Tryz.prog 212 #[.int .i64 3] w fun e w'=>e = .returned (.string ⟨#[103,111,110,101]⟩) ∧ w' = w:=kword_any 3 w
theorem kw4 (w : World) : Calls Tryz.prog 212 #[.int .i64 4] w fun e w'=>e = .returned (.string ⟨#[109,111,118,101]⟩) ∧ w' = w:=kword_any 4 w
theorem kw5 (w : World) : Calls Tryz.prog 212 #[.int .i64 5] w fun e w'=>e = .returned (.string ⟨#[116,101,120,116]⟩) ∧ w' = w:=kword_any 5 w
theorem kw0 {k : Int} (h : kword k = ⟨#[]⟩) (w : World) : Calls Tryz.prog 212 #[.int .i64 k] w fun e w'=>e = .returned (.string ⟨#[]⟩) ∧ w' = w:=by rw [← h]; exact kword_any k w
theorem opOk_kind {o : LOp} (h : o.kind = 1 ∨ o.kind = 2 ∨ o.kind = 3 ∨ o.kind = 4 ∨ o.kind = 5) : opOk o = (idB o.id && ((o.id != 0) && opPartsB o.kind o)):=by
  rw [opOk_parts]
  rcases h with h | h | h | h | h <;> simp [h,kword]
theorem opOk_nokind {o : LOp} (h : ¬ (o.kind = 1 ∨ o.kind = 2 ∨ o.kind = 3 ∨ o.kind = 4 ∨ o.kind = 5)) : opOk o = false ∧ kword o.kind = ⟨#[]⟩:=by
  have hk : kword o.kind = ⟨#[]⟩:=by unfold kword; rw [if_neg (by omega),if_neg (by omega),if_neg (by omega),if_neg (by omega),if_neg (by omega)]
  refine ⟨?_,hk⟩
  unfold opOk
  rw [if_neg (by omega),if_neg (by omega),if_neg (by omega)]
set_option maxHeartbeats 1000000 in
theorem implOpOk (o : LOp) (w : World) (hs : OpSz o) : Calls Tryz.prog 179 #[.agg o.val] w fun e w'=>e = .returned (.bool (opOk o)) ∧ Below w.heap.size w w':=by
  have HPK:=fun k w=>opPartsOk_any k o w hs
  by_cases hk : o.kind = 1 ∨ o.kind = 2 ∨ o.kind = 3 ∨ o.kind = 4 ∨ o.kind = 5
  · have HV : Hid (opOk o = (idB o.id && ((o.id != 0) && opPartsB o.kind o))):=opOk_kind hk
    obtain ⟨k,d,nm,d2,nm2,id,tx⟩:=o
    simp only [LOp.val] at *
    rcases hi : idB id with _ | _
    · have HI : Hid (idB id = false):=hi
      clear hi HPK
      rcases hk with rfl | rfl | rfl | rfl | rfl
      all_goals
        go_enter Tryz.func179,Tryz.ntmps179
        go_wp2_with (first | (go_at_call_of 212 (Value.int IntKind.i64 1); refine (kw1 _).mono ?_; rintro e w' ⟨rfl,rfl⟩) | (go_at_call_of 212 (Value.int IntKind.i64 2); refine (kw2 _).mono ?_; rintro e w' ⟨rfl,rfl⟩) | (go_at_call_of 212 (Value.int IntKind.i64 3); refine (kw3 _).mono ?_; rintro e w' ⟨rfl,rfl⟩) | (go_at_call_of 212 (Value.int IntKind.i64 4); refine (kw4 _).mono ?_; rintro e w' ⟨rfl,rfl⟩) | (go_at_call_of 212 (Value.int IntKind.i64 5); refine (kw5 _).mono ?_; rintro e w' ⟨rfl,rfl⟩) | (go_at_call 213; refine (isObject_any _ _).mono ?_; rintro e w' ⟨rfl,rfl⟩; rw [HI.out]))
        go_ret
        exact ⟨ret_bool (by rw [HV.out,HI.out]; rfl),(Below.refl _ _).alloc (Nat.le_refl _) _⟩
    · have HI : Hid (idB id = true):=hi
      clear hi
      by_cases hz : id = 0
      · subst hz
        clear HPK
        rcases hk with rfl | rfl | rfl | rfl | rfl
        all_goals
          go_enter Tryz.func179,Tryz.ntmps179
          go_wp2_with (first | (go_at_call_of 212 (Value.int IntKind.i64 1); refine (kw1 _).mono ?_; rintro e w' ⟨rfl,rfl⟩) | (go_at_call_of 212 (Value.int IntKind.i64 2); refine (kw2 _).mono ?_; rintro e w' ⟨rfl,rfl⟩) | (go_at_call_of 212 (Value.int IntKind.i64 3); refine (kw3 _).mono ?_; rintro e w' ⟨rfl,rfl⟩) | (go_at_call_of 212 (Value.int IntKind.i64 4); refine (kw4 _).mono ?_; rintro e w' ⟨rfl,rfl⟩) | (go_at_call_of 212 (Value.int IntKind.i64 5); refine (kw5 _).mono ?_; rintro e w' ⟨rfl,rfl⟩) | (go_at_call 213; refine (isObject_any _ _).mono ?_; rintro e w' ⟨rfl,rfl⟩; rw [HI.out]))
          go_ret
          exact ⟨ret_bool (by rw [HV.out]; simp),(Below.refl _ _).alloc (Nat.le_refl _) _⟩
      · have t0 : (id != 0) = true:=by simpa using hz
        have HT : Hid ((id != 0) = true):=t0
        clear hz
        rcases hk with rfl | rfl | rfl | rfl | rfl
        all_goals
          go_enter Tryz.func179,Tryz.ntmps179
          go_wp2_with (first | (go_at_call_of 212 (Value.int IntKind.i64 1); refine (kw1 _).mono ?_; rintro e w' ⟨rfl,rfl⟩) | (go_at_call_of 212 (Value.int IntKind.i64 2); refine (kw2 _).mono ?_; rintro e w' ⟨rfl,rfl⟩) | (go_at_call_of 212 (Value.int IntKind.i64 3); refine (kw3 _).mono ?_; rintro e w' ⟨rfl,rfl⟩) | (go_at_call_of 212 (Value.int IntKind.i64 4); refine (kw4 _).mono ?_; rintro e w' ⟨rfl,rfl⟩) | (go_at_call_of 212 (Value.int IntKind.i64 5); refine (kw5 _).mono ?_; rintro e w' ⟨rfl,rfl⟩) | (go_at_call 213; refine (isObject_any _ _).mono ?_; rintro e w' ⟨rfl,rfl⟩; rw [HI.out]) | (go_at_call 214; refine (HPK _ _).mono ?_; rintro e w9 ⟨rfl,hb9⟩))
          go_ret
          exact ⟨ret_bool (by rw [HV.out,HI.out,HT.out]; simp),((Below.refl _ _).alloc (Nat.le_refl _) _).trans (hb9.mono (by simp))⟩
  · have HV : Hid (opOk o = false ∧ kword o.kind = ⟨#[]⟩):=opOk_nokind hk
    clear hk HPK
    obtain ⟨k,d,nm,d2,nm2,id,tx⟩:=o
    simp only [LOp.val] at *
    go_enter Tryz.func179,Tryz.ntmps179
    go_wp2_with (go_at_call 212; refine (kw0 HV.out.2 _).mono ?_; rintro e w' ⟨rfl,rfl⟩)
    go_ret
    exact ⟨ret_bool (by rw [HV.out.1]),(Below.refl _ _).alloc (Nat.le_refl _) _⟩
end
section
open Go.RowKit Go.ChangeShapes Go.WideShapes
structure OpAt (w : World) (b k : Nat) (o : LOp) : Prop where
  c0 : w.cell? ⟨b,k,none⟩ = some (.int .i64 o.kind)
  c1 : w.cell? ⟨b,k + 1,none⟩ = some (.int .i64 o.dir)
  c2 : w.cell? ⟨b,k + 2,none⟩ = some (.string o.name)
  c3 : w.cell? ⟨b,k + 3,none⟩ = some (.int .i64 o.dir2)
  c4 : w.cell? ⟨b,k + 4,none⟩ = some (.string o.name2)
  c5 : w.cell? ⟨b,k + 5,none⟩ = some (.int .i64 o.id)
  c6 : w.cell? ⟨b,k + 6,none⟩ = some (.string o.text)
theorem OpAt.of_block {w w' : World} {b k : Nat} {o : LOp} (h : OpAt w b k o) (e : w'.heap[b]? = w.heap[b]?) : OpAt w' b k o:=by
  have hc : ∀ j,w'.cell? ⟨b,j,none⟩ = w.cell? ⟨b,j,none⟩:=fun j=>World.cell?_of_block (w:=w) e
  exact ⟨by rw [hc]; exact h.c0,by rw [hc]; exact h.c1,by rw [hc]; exact h.c2,by rw [hc]; exact h.c3,by rw [hc]; exact h.c4,by rw [hc]; exact h.c5,by rw [hc]; exact h.c6⟩
structure OpsAt (w : World) (L U : Nat) (a : Option Addr) (n : Nat) (ops : List LOp) : Prop where
  len : n = ops.length
  bd : n ≤ maxLen
  at_ : n ≠ 0 → ∃ b off,a = some ⟨b,off,none⟩ ∧ L ≤ b ∧ b < U ∧ ∀ i,i < n → ∃ o,ops[i]? = some o ∧ OpSz o ∧ OpAt w b (off + i * 7) o
theorem OpsAt.below {w w' : World} {L U B : Nat} {a : Option Addr} {n : Nat} {ops : List LOp} (h : OpsAt w L U a n ops) (hb : Below B w w') (hU : U ≤ B) : OpsAt w' L U a n ops :=
  ⟨h.len,h.bd,fun hn=>by
    obtain ⟨b,off,ha,hL,hbU,hc⟩:=h.at_ hn
    refine ⟨b,off,ha,hL,hbU,fun i hi=>?_⟩
    obtain ⟨o,ho,hs,h0⟩:=hc i hi
    exact ⟨o,ho,hs,h0.of_block (hb.block b (by omega))⟩⟩
theorem OpsAt.wide {w : World} {L U L' U' : Nat} {a : Option Addr} {n : Nat} {ops : List LOp} (h : OpsAt w L U a n ops) (hL' : L' ≤ L) (hU : U ≤ U') : OpsAt w L' U' a n ops :=
  ⟨h.len,h.bd,fun hn=>by
    obtain ⟨b,off,ha,hL,hbU,hc⟩:=h.at_ hn
    exact ⟨b,off,ha,by omega,by omega,hc⟩⟩
section
variable {H : Type} {enc : TypeId × Value → H} {w : World} {spare : Nat → Bool} {held : Bool}
theorem list7 {α : Type} {l : List α} (h : l.length = 7) : ∃ a b c d e f g,l = [a,b,c,d,e,f,g]:=by
  match l,h with
  | [a,b,c,d,e,f,g],_=>exact ⟨a,b,c,d,e,f,g,rfl⟩
theorem open_ops_at {fuel : Nat} {v : Value} {x : DataW H × List MemPlace} (h : DataW.trod enc Tryz.prog w 0 spare held fuel 60 [v] = some x) :
    ∃ a n c ops,v = .slice a n c ∧ OpsAt w 0 w.heap.size a n ops:=by
  have ce : Tryz.prog.cellsOf 200 = 7:=by kernel_rfl
  rcases Go.Deep.open_slice Tryz.underlying60 h with ⟨hcs,_⟩ | ⟨a,len,cap,m,n,D,Pl,hcs,_,hl,hm,hmm,_,hx⟩
  · simp at hcs
    exact ⟨none,0,0,[],hcs,rfl,by simp,fun h=>absurd rfl h⟩
  · simp at hcs
    have hlm : len ≤ m:=by rw [hmm]; split <;> omega
    obtain ⟨ops,hos,hp⟩:=list_of (n:=len) (p:=fun i (o : LOp)=>OpSz o ∧ w.cell? (a.add (i * 7)) = some (.int .i64 o.kind) ∧ w.cell? (a.add (i * 7 + 1)) = some (.int .i64 o.dir) ∧ w.cell? (a.add (i * 7 + 2)) = some (.string o.name) ∧ w.cell? (a.add (i * 7 + 3)) = some (.int .i64 o.dir2) ∧ w.cell? (a.add (i * 7 + 4)) = some (.string o.name2) ∧ w.cell? (a.add (i * 7 + 5)) = some (.int .i64 o.id) ∧ w.cell? (a.add (i * 7 + 6)) = some (.string o.text)) (fun i hi=>by
      obtain ⟨cs',h1,h2⟩:=hx i (by omega)
      rw [ce] at h1
      obtain ⟨_,hlen,hcell⟩:=World.cells?_some h1
      obtain ⟨v0,v1,v2,v3,v4,v5,v6,rfl⟩:=list7 hlen
      obtain ⟨o,ho,hs⟩:=open_op_cells h2
      simp [LOp.val] at ho
      obtain ⟨rfl,rfl,rfl,rfl,rfl,rfl,rfl⟩:=ho
      have g0:=hcell 0 (by omega)
      have g1:=hcell 1 (by omega)
      have g2:=hcell 2 (by omega)
      have g3:=hcell 3 (by omega)
      have g4:=hcell 4 (by omega)
      have g5:=hcell 5 (by omega)
      have g6:=hcell 6 (by omega)
      rw [Go.Deep.add_add] at g0 g1 g2 g3 g4 g5 g6
      exact ⟨o,hs,by simpa using g0,by simpa using g1,by simpa using g2,by simpa using g3,by simpa using g4,by simpa using g5,by simpa using g6⟩)
    refine ⟨some a,len,cap,ops,hcs,hos.symm,by omega,fun hn=>?_⟩
    obtain ⟨b,off,spot⟩:=a
    obtain ⟨_,_,_,c0,_⟩:=hp 0 (by omega)
    have hspot : spot = none:=by simpa [Addr.add] using World.cell?_spot c0
    subst hspot
    refine ⟨b,off,rfl,Nat.zero_le _,by have:=cell_lt c0; simpa [Addr.add] using this,fun i hi=>?_⟩
    obtain ⟨o,ho,hs,q0,q1,q2,q3,q4,q5,q6⟩:=hp i hi
    exact ⟨o,ho,hs,by rw [← addr_add]; exact q0,by rw [Nat.add_assoc,← addr_add]; exact q1,by rw [Nat.add_assoc,← addr_add]; exact q2,by rw [Nat.add_assoc,← addr_add]; exact q3,by rw [Nat.add_assoc,← addr_add]; exact q4,by rw [Nat.add_assoc,← addr_add]; exact q5,by rw [Nat.add_assoc,← addr_add]; exact q6⟩
end
def totOp (o : LOp) : Nat:=o.name.size + o.name2.size + o.text.size
def totOps (ops : List LOp) : Nat:=(ops.map totOp).sum
theorem totOps_take {ops : List LOp} {j : Nat} {o : LOp} (h : ops[j]? = some o) : totOps (ops.take (j + 1)) = totOps (ops.take j) + totOp o:=by
  have hj : j < ops.length:=(List.getElem?_eq_some_iff.1 h).1
  rw [List.take_succ_eq_append_getElem hj]
  have : ops[j] = o:=(List.getElem?_eq_some_iff.1 h).2
  simp [totOps,this]
set_option maxHeartbeats 400000 in
theorem szOpS_any (a : Option Addr) (n c : Nat) (ops : List LOp) (L U : Nat) (left : Int) (w : World) (h0 : 0 ≤ left) (h1 : left ≤ 1048576) (hU : U ≤ w.heap.size) (H : OpsAt w L U a n ops) :
    Calls Tryz.prog 76 #[.slice a n c,.int .i64 left] w fun e w'=>(∃ r : Int,e = .returned (.int .i64 r) ∧ (r = -1 ∨ (0 ≤ r ∧ r = left - n - totOps ops))) ∧ Below w.heap.size w w':=by
  have hbd:=H.bd
  unfold maxLen at hbd
  by_cases h : left - n < 0
  · go_enter Tryz.func76,Tryz.ntmps76
    go_wp2
    go_ret
    exact ⟨⟨-1,rfl,.inl rfl⟩,Below.refl _ _⟩
  · go_enter Tryz.func76,Tryz.ntmps76
    go_wp2
    go_loopg [1,5] n (fun k l i wr=>∃ j : Nat,j ≤ n ∧ Hid (k = n - j) ∧ i = .int .i64 j ∧ (∃ r : Int,l = .int .i64 r ∧ 0 ≤ r ∧ r ≤ 1048576 ∧ Hid (r = left - n - totOps (ops.take j))) ∧ Below w.heap.size w wr)
    case atStart=>exact ⟨0,Nat.zero_le _,by show _ = _; omega,rfl,⟨_,rfl,by omega,by omega,by show _ = _; simp [totOps]⟩,Below.refl _ _⟩
    case round =>
      obtain ⟨j,hj,hk,rfl,⟨r,rfl,hr0,hr1,hr⟩,hb⟩:=hrel
      by_cases hlt : j < n
      · obtain ⟨b,off,ha,hL,hbU,hc⟩:=H.at_ (by omega)
        subst ha
        obtain ⟨o,he,hsz,hat⟩:=hc j hlt
        obtain ⟨d0,d1,d2,d3,d4,d5,d6⟩:=hat.of_block (hb.block b (by omega))
        have HE : Hid (ops[j]? = some o):=he
        have HSZ:=fun l w h0 h1=>szOp_any o l w h0 h1 hsz
        simp only [LOp.val] at HSZ
        have hlt' : (j : Int) < (n : Int):=by omega
        clear he hc hat
        go_wp2_with fail
        refine (HSZ _ _ hr0 hr1).mono ?_
        rintro x w1 ⟨⟨r1,rfl,hr1'⟩,hb1⟩
        have HR : Hid (r1 = -1 ∨ 0 ≤ r1 ∧ r1 = r - o.name.size - o.name2.size - o.text.size):=hr1'
        clear hr1' HSZ
        by_cases hneg : r1 < 0
        · go_wp2_with fail
          go_ret
          exact ⟨⟨-1,rfl,.inl rfl⟩,hb.trans (hb1.mono hb.size)⟩
        · go_wp2_with fail
          go_roundg (n - (j + 1))
          case measure=>have:=hk.out; omega
          case rel =>
            have:=HR.out
            have h3:=totOps_take HE.out
            have h4:=hr.out
            unfold totOp at h3
            exact ⟨j + 1,by omega,rfl,by go_num,⟨r1,rfl,by omega,by omega,by show _ = _; omega⟩,hb.trans (hb1.mono hb.size)⟩
      · go_wp2_with fail
        go_ret
        have h4:=hr.out
        rw [List.take_of_length_le (by have:=H.len; omega)] at h4
        exact ⟨⟨r,rfl,.inr ⟨hr0,h4⟩⟩,hb⟩
theorem info65 : (Tryz.prog.info? 130).map (fun i=>(i.zero.map (·.cells),i.size,i.bytes)) = some (some #[.int .i64 0,.int .i64 0,.string ByteArray.empty,.int .i64 0,.string ByteArray.empty,.int .i64 0,.string ByteArray.empty],7,80):=by kernel_rfl
def opF (f : Nat → Value) (i : Nat) (o : LOp) : Prop:=f (i * 7) = .int .i64 o.kind ∧ f (i * 7 + 1) = .int .i64 o.dir ∧ f (i * 7 + 2) = .string o.name ∧ f (i * 7 + 3) = .int .i64 o.dir2 ∧ f (i * 7 + 4) = .string o.name2 ∧ f (i * 7 + 5) = .int .i64 o.id ∧ f (i * 7 + 6) = .string o.text
set_option maxHeartbeats 1000000 in
theorem toOpS_any (a : Option Addr) (n c : Nat) (ops : List LOp) (L U : Nat) (w : World) (hn : n ≤ 1048576) (hU : U ≤ w.heap.size) (H : OpsAt w L U a n ops) :
    Calls Tryz.prog 83 #[.slice a n c] w fun e w'=>(∃ b,e = .returned (.slice (some ⟨b,0,none⟩) n n) ∧ OpsAt w' w.heap.size w'.heap.size (some ⟨b,0,none⟩) n ops) ∧ Below w.heap.size w w':=by
  have hmk:=run_make_many 66 130 _ 7 80 Tryz.underlying66 info65 n (by omega) (by omega)
  obtain ⟨f0,hf0⟩:=rowIs_many w #[.int .i64 0,.int .i64 0,.string ByteArray.empty,.int .i64 0,.string ByteArray.empty,.int .i64 0,.string ByteArray.empty] (n * 7) 130
  have HF0 : Hid ((w.alloc (.cells (madeCells #[.int .i64 0,.int .i64 0,.string ByteArray.empty,.int .i64 0,.string ByteArray.empty,.int .i64 0,.string ByteArray.empty] (n * 7)) 130)).rowIs w.heap.size 130 (n * 7) f0):=hf0
  clear hf0
  go_enter Tryz.func83,Tryz.ntmps83
  go_wp2
  go_loopg [4] n (fun k i wr=>∃ j : Nat,j ≤ n ∧ Hid (k = n - j) ∧ i = .int .i64 j ∧ (∃ f,Hid (wr.rowIs w.heap.size 130 (n * 7) f ∧ ∀ i,i < j → ∃ o,ops[i]? = some o ∧ opF f i o)) ∧ Below w.heap.size w wr)
  case atStart=>exact ⟨0,Nat.zero_le _,by show _ = _; omega,rfl,⟨f0,HF0.out,fun i hi=>by omega⟩,(Below.refl _ _).alloc (Nat.le_refl _) _⟩
  case round =>
    obtain ⟨j,hj,hk,rfl,⟨f,hf⟩,hb⟩:=hrel
    by_cases hlt : j < n
    · obtain ⟨b,off,ha,hL,hbU,hc⟩:=H.at_ (by omega)
      subst ha
      obtain ⟨o,he,hsz,hat⟩:=hc j hlt
      obtain ⟨d0,d1,d2,d3,d4,d5,d6⟩:=hat.of_block (hb.block b (by omega))
      have HE : Hid (ops[j]? = some o):=he
      have HTO:=toOp_any o
      simp only [LOp.val] at HTO
      have hlt' : (j : Int) < (n : Int):=by omega
      have hrl:=hf.out.1.lt
      clear he hc hat
      go_wp2_with fail
      refine (HTO _).mono ?_
      rintro x w1 ⟨rfl,hb1⟩
      have hrow:=hf.out.1.of_block (hb1.block w.heap.size hf.out.1.lt)
      have g0:=hrow.cell (i:=j * 7) (by omega)
      have g1:=hrow.cell (i:=j * 7 + 1) (by omega)
      have g2:=hrow.cell (i:=j * 7 + 2) (by omega)
      have g3:=hrow.cell (i:=j * 7 + 3) (by omega)
      have g4:=hrow.cell (i:=j * 7 + 4) (by omega)
      have g5:=hrow.cell (i:=j * 7 + 5) (by omega)
      have g6:=hrow.cell (i:=j * 7 + 6) (by omega)
      have z0:=hrow.frozen (j * 7)
      have z1:=hrow.frozen (j * 7 + 1)
      have z2:=hrow.frozen (j * 7 + 2)
      have z3:=hrow.frozen (j * 7 + 3)
      have z4:=hrow.frozen (j * 7 + 4)
      have z5:=hrow.frozen (j * 7 + 5)
      have z6:=hrow.frozen (j * 7 + 6)
      have HR : Hid (w1.rowIs w.heap.size 130 (n * 7) f):=hrow
      clear hrow HTO d0 d1 d2 d3 d4 d5 d6
      go_wp2_with fail
      go_roundg (n - (j + 1))
      case measure=>have:=hk.out; omega
      case rel =>
        have hbs:=hb1.size
        refine ⟨j + 1,by omega,rfl,by go_num,⟨_,(((((((HR.out.set (j * 7) (.int .i64 o.kind)).set (j * 7 + 1) (.int .i64 o.dir)).set (j * 7 + 2) (.string o.name)).set (j * 7 + 3) (.int .i64 o.dir2)).set (j * 7 + 4) (.string o.name2)).set (j * 7 + 5) (.int .i64 o.id)).set (j * 7 + 6) (.string o.text)),fun i hi=>?_⟩,((((((((hb.trans (hb1.mono hb.size)).setCell (by simp) _).setCell (by simp) _).setCell (by simp) _).setCell (by simp) _).setCell (by simp) _).setCell (by simp) _).setCell (by simp) _)⟩
        by_cases hij : i = j
        · subst hij
          exact ⟨o,HE.out,by simp,by simp,by simp,by simp,by simp,by simp,by simp⟩
        · obtain ⟨o',he',q0,q1,q2,q3,q4,q5,q6⟩:=hf.out.2 i (by omega)
          refine ⟨o',he',?_,?_,?_,?_,?_,?_,?_⟩ <;> dsimp only <;> rw [if_neg (by omega),if_neg (by omega),if_neg (by omega),if_neg (by omega),if_neg (by omega),if_neg (by omega),if_neg (by omega)] <;> assumption
    · go_wp2_with fail
      go_ret
      refine ⟨⟨w.heap.size,rfl,H.len,H.bd,fun hn0=>⟨w.heap.size,0,rfl,Nat.le_refl _,hf.out.1.lt,fun i hi=>?_⟩⟩,hb⟩
      obtain ⟨o',he',q0,q1,q2,q3,q4,q5,q6⟩:=hf.out.2 i (by omega)
      obtain ⟨b,off,ha,hL,hbU,hc⟩:=H.at_ hn0
      obtain ⟨o2,he2,hsz,_⟩:=hc i hi
      rw [he'] at he2
      cases he2
      refine ⟨o',he',hsz,by rw [← q0,Nat.zero_add]; exact hf.out.1.cell (by omega),by rw [← q1,Nat.zero_add]; exact hf.out.1.cell (by omega),by rw [← q2,Nat.zero_add]; exact hf.out.1.cell (by omega),by rw [← q3,Nat.zero_add]; exact hf.out.1.cell (by omega),by rw [← q4,Nat.zero_add]; exact hf.out.1.cell (by omega),by rw [← q5,Nat.zero_add]; exact hf.out.1.cell (by omega),by rw [← q6,Nat.zero_add]; exact hf.out.1.cell (by omega)⟩
end
section
open Go.RowKit
def opEq (x y : LOp) : Bool:=(x.kind == y.kind) && (x.dir == y.dir) && (x.name.toList == y.name.toList) && (x.dir2 == y.dir2) && (x.name2.toList == y.name2.toList) && (x.id == y.id) && (x.text.toList == y.text.toList)
def OpParts (x y : LOp) : Prop:=((x.kind == y.kind) = true ∧ (x.dir == y.dir) = true ∧ (x.name.toList == y.name.toList) = true ∧ (x.dir2 == y.dir2) = true ∧ (x.name2.toList == y.name2.toList) = true ∧ (x.id == y.id) = true ∧ (x.text.toList == y.text.toList) = true) ∨ ((x.kind == y.kind) = false) ∨ ((x.kind == y.kind) = true ∧ (x.dir == y.dir) = false) ∨ ((x.kind == y.kind) = true ∧ (x.dir == y.dir) = true ∧ (x.name.toList == y.name.toList) = false) ∨ ((x.kind == y.kind) = true ∧ (x.dir == y.dir) = true ∧ (x.name.toList == y.name.toList) = true ∧ (x.dir2 == y.dir2) = false) ∨ ((x.kind == y.kind) = true ∧ (x.dir == y.dir) = true ∧ (x.name.toList == y.name.toList) = true ∧ (x.dir2 == y.dir2) = true ∧ (x.name2.toList == y.name2.toList) = false) ∨ ((x.kind == y.kind) = true ∧ (x.dir == y.dir) = true ∧ (x.name.toList == y.name.toList) = true ∧ (x.dir2 == y.dir2) = true ∧ (x.name2.toList == y.name2.toList) = true ∧ (x.id == y.id) = false) ∨ ((x.kind == y.kind) = true ∧ (x.dir == y.dir) = true ∧ (x.name.toList == y.name.toList) = true ∧ (x.dir2 == y.dir2) = true ∧ (x.name2.toList == y.name2.toList) = true ∧ (x.id == y.id) = true ∧ (x.text.toList == y.text.toList) = false)
theorem opParts (x y : LOp) : OpParts x y:=by
  unfold OpParts
  cases h0 : (x.kind == y.kind) <;> cases h1 : (x.dir == y.dir) <;> cases h2 : (x.name.toList == y.name.toList) <;> cases h3 : (x.dir2 == y.dir2) <;> cases h4 : (x.name2.toList == y.name2.toList) <;> cases h5 : (x.id == y.id) <;> cases h6 : (x.text.toList == y.text.toList) <;> simp [*]
set_option maxHeartbeats 2000000 in
theorem equalOps (a a' : Option Addr) (n n' c c' : Nat) (ops ops' : List LOp) (L U L' U' : Nat) (w : World) (H : OpsAt w L U a n ops) (H' : OpsAt w L' U' a' n' ops') :
    Calls Tryz.prog 249 #[.slice a n c,.slice a' n' c'] w fun e w'=>e = .returned (.bool (listEq opEq ops ops')) ∧ ∃ m,w' = w.drewN m:=by
  have hbd:=H.bd
  have hbd':=H'.bd
  unfold maxLen at hbd hbd'
  by_cases hnn : n = n'
  · subst hnn
    go_enter Tryz.func249,Tryz.ntmps249
    go_wp2
    go_loopg [13] n (fun k i wr=>∃ j : Nat,j ≤ n ∧ Hid (k = n - j) ∧ i = .int .i64 j ∧ Hid (∀ i,i < j → ∀ x y,ops[i]? = some x → ops'[i]? = some y → opEq x y = true) ∧ Hid (∃ m,wr = w.drewN m))
    case atStart=>exact ⟨0,Nat.zero_le _,by show _ = _; omega,rfl,fun i hi=>by omega,⟨0,rfl⟩⟩
    case round =>
      obtain ⟨j,hj,hk,rfl,hq,hb⟩:=hrel
      obtain ⟨m,rfl⟩:=hb.out
      by_cases hlt : j < n
      · obtain ⟨b,off,ha,hL,hbU,hc⟩:=H.at_ (by omega)
        obtain ⟨b',off',ha',hL',hbU',hc'⟩:=H'.at_ (by omega)
        subst ha ha'
        obtain ⟨x,he,hsz,c0,c1,c2,c3,c4,c5,c6⟩:=hc j hlt
        obtain ⟨y,he2,hsz2,d0,d1,d2,d3,d4,d5,d6⟩:=hc' j hlt
        have HE : Hid (ops[j]? = some x ∧ ops'[j]? = some y):=⟨he,he2⟩
        have hlt' : (j : Int) < (n : Int):=by omega
        clear he he2 hc hc'
        rcases opParts x y with ⟨t0,t1,t2,t3,t4,t5,t6⟩ | t0 | ⟨t0,t1⟩ | ⟨t0,t1,t2⟩ | ⟨t0,t1,t2,t3⟩ | ⟨t0,t1,t2,t3,t4⟩ | ⟨t0,t1,t2,t3,t4,t5⟩ | ⟨t0,t1,t2,t3,t4,t5,t6⟩
        · have HY : Hid (opEq x y = true):=by show _ = _; simp only [opEq,t0,t1,t2,t3,t4,t5,t6,Bool.and_true]
          go_wp2_with fail
          go_quiet (fail)
          go_wp2_with fail
          go_roundg (n - (j + 1))
          case measure=>have:=hk.out; omega
          case rel =>
            refine ⟨j + 1,by omega,rfl,by go_num,fun i hi x' y' hx hy=>?_,⟨_,rfl⟩⟩
            by_cases e : i = j
            · subst e
              rw [HE.out.1] at hx
              rw [HE.out.2] at hy
              cases hx
              cases hy
              exact HY.out
            · exact hq.out i (by omega) x' y' hx hy
        all_goals
          have HN : Hid (opEq x y = false):=by show _ = _; simp only [opEq, *,Bool.and_true,Bool.and_false,Bool.false_and]
          go_wp2_with fail
          go_quiet (fail)
          go_wp2_with fail
          go_ret
          exact ⟨ret_bool (listEq_no HE.out.1 HE.out.2 HN.out).symm,m + nq,by rw [World.drewN_drewN]⟩
      · go_wp2_with fail
        go_ret
        exact ⟨ret_bool (listEq_yes (by rw [← H.len,← H'.len]) (fun i x y hx hy=>hq.out i (by have:=(List.getElem?_eq_some_iff.1 hx).1; have:=H.len; omega) x y hx hy)).symm,m,rfl⟩
  · have hne : ((n : Int) == n') = false:=by simp; omega
    go_enter Tryz.func249,Tryz.ntmps249
    go_wp2
    go_ret
    exact ⟨ret_bool (listEq_len (by rw [← H.len,← H'.len]; exact hnn)).symm,0,rfl⟩
theorem implOpSame (a a' : Option Addr) (n n' c c' : Nat) (ops ops' : List LOp) (L U L' U' : Nat) (w : World) (H : OpsAt w L U a n ops) (H' : OpsAt w L' U' a' n' ops') :
    Calls Tryz.prog 245 #[.slice a n c,.slice a' n' c'] w fun e w'=>e = .returned (.bool (listEq opEq ops ops')) ∧ ∃ m,w' = w.drewN m:=by
  go_enter Tryz.func245,Tryz.ntmps245
  go_wp2_with (go_at_call 249; refine (equalOps _ _ _ _ _ _ _ _ _ _ _ _ _ H H').mono ?_; rintro e w1 ⟨rfl,hw1⟩)
  go_ret
  exact ⟨rfl,hw1⟩
theorem eqOp_same (o : LOp) (w : World) : Calls Tryz.prog 153 #[.agg o.val,.agg o.val] w fun e w'=>e = .returned (.bool true) ∧ Below w.heap.size w w':=by
  simp only [LOp.val]
  go_enter Tryz.func153,Tryz.ntmps153
  go_wp2
  go_ret
  exact ⟨rfl,((Below.refl _ _).alloc (Nat.le_refl _) _).alloc (by simp) _⟩
set_option maxHeartbeats 800000 in
theorem eqOpS_same (a a' : Option Addr) (n c c' : Nat) (ops : List LOp) (L U L' U' : Nat) (w : World) (hU : U ≤ w.heap.size) (hU' : U' ≤ w.heap.size) (H : OpsAt w L U a n ops) (H' : OpsAt w L' U' a' n ops) :
    Calls Tryz.prog 89 #[.slice a n c,.slice a' n c'] w fun e w'=>e = .returned (.bool true) ∧ Below w.heap.size w w':=by
  have hbd:=H.bd
  unfold maxLen at hbd
  go_enter Tryz.func89,Tryz.ntmps89
  go_wp2_with fail
  go_loopg [5] n (fun k i wr=>∃ j : Nat,j ≤ n ∧ Hid (k = n - j) ∧ i = .int .i64 j ∧ Below w.heap.size w wr)
  case atStart=>exact ⟨0,Nat.zero_le _,rfl,rfl,Below.refl _ _⟩
  case round =>
    obtain ⟨j,hj,hk,rfl,hb⟩:=hrel
    by_cases hlt : j < n
    · obtain ⟨b,off,ha,hL,hbU,hc⟩:=H.at_ (by omega)
      obtain ⟨b',off',ha',hL',hbU',hc'⟩:=H'.at_ (by omega)
      subst ha ha'
      obtain ⟨x,he,hsz,hat⟩:=hc j hlt
      obtain ⟨y,he2,hsz2,hat2⟩:=hc' j hlt
      obtain rfl : x = y:=by rw [he] at he2; simpa using he2
      obtain ⟨c0,c1,c2,c3,c4,c5,c6⟩:=hat.of_block (hb.block b (by omega))
      obtain ⟨d0,d1,d2,d3,d4,d5,d6⟩:=hat2.of_block (hb.block b' (by omega))
      have hlt' : (j : Int) < (n : Int):=by omega
      have HEQ:=eqOp_same x
      simp only [LOp.val] at HEQ
      clear he he2 hc hc' hat hat2
      go_wp2_with fail
      go_region_with (go_at_call 153; go_must (refine (HEQ _).mono ?_; rintro e w1 ⟨rfl,hb1⟩))
      all_goals
        go_wp2_with fail
        go_roundg (n - (j + 1))
        case measure=>have:=hk.out; omega
        case rel=>exact ⟨j + 1,by omega,rfl,by go_num,hb.trans ((Below.refl _ _).drew.trans (hb1.mono (by simp)) |>.mono hb.size)⟩
    · obtain rfl : j = n:=by omega
      go_wp2_with fail
      go_ret
      exact ⟨rfl,hb⟩
end
end Go.Proofs.YtloopeipheklpaaGreatDoor
