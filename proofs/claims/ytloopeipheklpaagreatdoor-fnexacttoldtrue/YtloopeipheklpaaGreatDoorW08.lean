/- Lemmas that the proofs of this seat share: Ids, OpSet, Worn, LogIJ, IntS. -/
import Derived.Test.YtloopeipheklpaaGreatDoorW07
import Derived.Test.YtloopeipheklpaaGreatDoorW03
import Derived.Test.YtloopeipheklpaaGreatDoorW04
namespace Go.Proofs.YtloopeipheklpaaGreatDoor
section
open Go.RowKit
def opIds1 (o : LOp) : List Nat:=if o.kind = 5 then [o.id.toNat] else putI o.dir.toNat [o.id.toNat]
def opIds (o : LOp) : List Nat:=if opOk o then (if o.kind = 4 then putI o.dir2.toNat (opIds1 o) else opIds1 o) else []
theorem opOk_id {o : LOp} (h : opOk o = true) : 1 ≤ o.id ∧ o.id < 32:=by
  unfold opOk at h
  split at h
  · simp [opId,idB] at h; omega
  · split at h
    · simp [opId,idB] at h; omega
    · split at h
      · simp [opId,idB] at h; omega
      · simp at h
theorem opOk_dir {o : LOp} (h : opOk o = true) : 0 ≤ o.dir ∧ o.dir < 32:=by
  unfold opOk at h
  split at h
  · simp [opSlot,idB] at h; omega
  · split at h
    · simp [opSlot,idB] at h; omega
    · split at h
      · simp at h; omega
      · simp at h
theorem opOk_dir2 {o : LOp} (h : opOk o = true) : 0 ≤ o.dir2 ∧ o.dir2 < 32:=by
  unfold opOk at h
  split at h
  · simp [opNone2] at h; omega
  · split at h
    · simp [opSlot2,idB] at h; omega
    · split at h
      · simp [opNone2] at h; omega
      · simp at h
theorem putI_bd {x : Nat} {l : List Nat} {M : Nat} (hx : x < M) (h : ∀ i ∈ l,i < M) : ∀ i ∈ putI x l,i < M:=by
  intro i hi
  unfold putI at hi
  split at hi
  · exact h i hi
  · simp at hi
    rcases hi with hi | rfl | hi
    · exact h i (List.mem_of_mem_take hi)
    · exact hx
    · exact h i (List.mem_of_mem_drop hi)
theorem putI_le (x : Nat) (l : List Nat) : (putI x l).length ≤ l.length + 1:=by
  unfold putI
  split
  · omega
  · simp; omega
theorem opIds_bd (o : LOp) : ∀ i ∈ opIds o,i < 32:=by
  unfold opIds
  split
  · rename_i h
    have h1:=opOk_id h
    have h2:=opOk_dir h
    have h3:=opOk_dir2 h
    have hb : ∀ i ∈ opIds1 o,i < 32:=by
      unfold opIds1
      split
      · intro i hi; simp at hi; omega
      · exact putI_bd (by omega) (by intro i hi; simp at hi; omega)
    split
    · exact putI_bd (by omega) hb
    · exact hb
  · intro i hi; simp at hi
theorem putI_at (B g cap n : Nat) (x : Int) (k : Nat) (e : x = k) (l : List Nat) (w : World) (hn : n = l.length) (hn2 : n ≤ 1000000) (hB : B ≤ w.heap.size) (H : OwnInts w B (.slice (some ⟨g,0,none⟩) n cap) l) :
    Calls Tryz.prog 172 #[.slice (some ⟨g,0,none⟩) n cap,.int .i64 x] w fun e w'=>PutIEnd w B g k l e w':=by
  subst e; exact putI_any B g cap n k l w hn hn2 hB H
theorem ints_one (w : World) (B g : Nat) (x : Int) (k : Nat) (e : x = k) (hg : w.heap.size = g) (hB : B ≤ w.heap.size) : OwnInts (w.alloc (Obj.cells #[.int .i64 x] 3)) B (.slice (some ⟨g,0,none⟩) 1 1) [k]:=by
  subst e hg
  simpa [OwnInts] using World.ownsRow_lit (base:=B) (e:=3) (size:=1) w #[.int .i64 (k : Int)] 1 hB (by simp [maxLen]) rfl
theorem below_put {B g : Nat} {w w1 w2 : World} {x : Nat} {l : List Nat} {e : Ending} (h : Below B w w1) (hp : PutIEnd w1 B g x l e w2) (hg : B ≤ g) (hs : B ≤ w1.heap.size) : Below B w w2:=by
  obtain ⟨_,_,_,_,_,_,hgr⟩:=hp
  exact below_grown h hgr (fun k hk=>by simp at hk; omega) hs
set_option maxHeartbeats 1000000 in
set_option maxRecDepth 20000 in
theorem opIds_any (o : LOp) (w : World) (h1 : o.name.size ≤ maxLen) (h2 : o.name2.size ≤ maxLen) (h3 : o.text.size ≤ maxLen) :
    Calls Tryz.prog 171 #[.agg o.val] w fun e w'=>(∃ v,e = .returned v ∧ Hid (OwnInts w' w.heap.size v (opIds o))) ∧ Below w.heap.size w w':=by
  have HOK:=opOk_any o
  rcases hok : opOk o with _ | _
  · have hids : Hid (opIds o = []):=by show _ = _; simp [opIds,hok]
    simp only [LOp.val] at *
    go_enter Tryz.func171,Tryz.ntmps171
    go_wp2_with fail
    refine (HOK _ h1 h2 h3).mono ?_
    rintro x w1 ⟨rfl,rfl⟩
    rw [hok]
    go_wp2_with fail
    go_ret
    exact ⟨⟨_,rfl,by show OwnInts _ _ _ _; rw [hids.out]; exact OwnInts.empty _ _ _ (by simp) (by simp; omega)⟩,by repeat (first | exact Below.refl _ _ | refine Below.alloc ?_ (by simp <;> omega) _)⟩
  · have b1:=opOk_id hok
    have b2:=opOk_dir hok
    have b3:=opOk_dir2 hok
    have E1 : Hid (o.id = (o.id.toNat : Nat)):=by show _ = _; omega
    have E2 : Hid (o.dir = (o.dir.toNat : Nat)):=by show _ = _; omega
    have E3 : Hid (o.dir2 = (o.dir2.toNat : Nat)):=by show _ = _; omega
    clear b1 b2 b3
    by_cases k5 : o.kind = 5
    · have hids : Hid (opIds o = [o.id.toNat]):=by show _ = _; simp [opIds,opIds1,hok,k5]
      have t5 : (o.kind != 5) = false:=by simp [k5]
      have t4 : (o.kind == 4) = false:=by simp [k5]
      clear k5
      simp only [LOp.val] at *
      go_enter Tryz.func171,Tryz.ntmps171
      go_wp2_with fail
      refine (HOK _ h1 h2 h3).mono ?_
      rintro x w1 ⟨rfl,rfl⟩
      rw [hok]
      go_wp2_with fail
      go_ret
      exact ⟨⟨_,rfl,by show OwnInts _ _ _ _; rw [hids.out]; exact ints_one _ _ _ _ _ E1.out (by simp) (by simp; omega)⟩,by repeat (first | exact Below.refl _ _ | refine Below.alloc ?_ (by simp <;> omega) _)⟩
    · have t5 : (o.kind != 5) = true:=by simp [k5]
      have hi1 : Hid (opIds1 o = putI o.dir.toNat [o.id.toNat]):=by show _ = _; simp [opIds1,k5]
      by_cases k4 : o.kind = 4
      · have hids : Hid (opIds o = putI o.dir2.toNat (putI o.dir.toNat [o.id.toNat])):=by show _ = _; rw [← hi1.out]; simp [opIds,hok,k4]
        have t4 : (o.kind == 4) = true:=by simp [k4]
        clear k5 k4
        simp only [LOp.val] at *
        go_enter Tryz.func171,Tryz.ntmps171
        go_wp2_with fail
        refine (HOK _ h1 h2 h3).mono ?_
        rintro x w1 ⟨rfl,rfl⟩
        rw [hok]
        go_wp2_with fail
        have hA : Below w.heap.size w (((w.alloc (Obj.cells #[.int .i64 o.kind,.int .i64 o.dir,.string o.name,.int .i64 o.dir2,.string o.name2,.int .i64 o.id,.string o.text] 130)).alloc (Obj.cells #[.int .i64 o.kind,.int .i64 o.dir,.string o.name,.int .i64 o.dir2,.string o.name2,.int .i64 o.id,.string o.text] 130)).alloc (Obj.cells #[.int .i64 o.id] 3)):=by repeat (first | exact Below.refl _ _ | refine Below.alloc ?_ (by simp <;> omega) _)
        refine (putI_at w.heap.size _ _ _ _ _ E2.out [o.id.toNat] _ rfl (by simp) (by simp; omega) (ints_one _ _ _ _ _ E1.out (by simp) (by simp; omega))).mono ?_
        rintro x w2 hp
        have hbl:=below_put hA hp (by omega) (by simp; omega)
        obtain ⟨g',n',cap',rfl,hn',hown',hgr⟩:=hp
        have HN : Hid (n' = (putI o.dir.toNat [o.id.toNat]).length):=hn'
        have hc0 : w2.cell? ⟨w.heap.size,0,none⟩ = some (.int .i64 o.kind):=by rw [hgr.cell_far _ (by simp; omega) (by simp; omega)]; simp [go_sem]
        have hc3 : w2.cell? ⟨w.heap.size,3,none⟩ = some (.int .i64 o.dir2):=by rw [hgr.cell_far _ (by simp; omega) (by simp; omega)]; simp [go_sem]
        have hz2 : w.heap.size ≤ w2.heap.size:=hbl.size
        have hle : n' ≤ 1000:=by rw [hn']; have:=putI_le o.dir.toNat [o.id.toNat]; simp at this; omega
        have hg' : w.heap.size ≤ g':=(World.ownsRow.lt hown' g' rfl).1
        have HOWN : Hid (OwnInts w2 w.heap.size (.slice (some ⟨g',0,none⟩) n' cap') (putI o.dir.toNat [o.id.toNat])):=hown'
        clear hn' hgr hown'
        go_wp2_with fail
        refine (putI_at w.heap.size _ _ _ _ _ E3.out _ _ HN.out (by omega) hz2 HOWN.out).mono ?_
        rintro x w3 hp3
        have hbl3:=below_put hbl hp3 hg' hz2
        obtain ⟨g3,n3,cap3,rfl,hn3,hown3,hgr3⟩:=hp3
        have HOWN3 : Hid (OwnInts w3 w.heap.size (.slice (some ⟨g3,0,none⟩) n3 cap3) (putI o.dir2.toNat (putI o.dir.toNat [o.id.toNat]))):=hown3
        clear hn3 hown3 hgr3
        go_wp2_with fail
        go_ret
        exact ⟨⟨_,rfl,by show OwnInts _ _ _ _; rw [hids.out]; exact HOWN3.out⟩,hbl3⟩
      · have hids : Hid (opIds o = putI o.dir.toNat [o.id.toNat]):=by show _ = _; rw [← hi1.out]; simp [opIds,hok,k4]
        have t4 : (o.kind == 4) = false:=by simp [k4]
        clear k5 k4
        simp only [LOp.val] at *
        go_enter Tryz.func171,Tryz.ntmps171
        go_wp2_with fail
        refine (HOK _ h1 h2 h3).mono ?_
        rintro x w1 ⟨rfl,rfl⟩
        rw [hok]
        go_wp2_with fail
        have hA : Below w.heap.size w (((w.alloc (Obj.cells #[.int .i64 o.kind,.int .i64 o.dir,.string o.name,.int .i64 o.dir2,.string o.name2,.int .i64 o.id,.string o.text] 130)).alloc (Obj.cells #[.int .i64 o.kind,.int .i64 o.dir,.string o.name,.int .i64 o.dir2,.string o.name2,.int .i64 o.id,.string o.text] 130)).alloc (Obj.cells #[.int .i64 o.id] 3)):=by repeat (first | exact Below.refl _ _ | refine Below.alloc ?_ (by simp <;> omega) _)
        refine (putI_at w.heap.size _ _ _ _ _ E2.out [o.id.toNat] _ rfl (by simp) (by simp; omega) (ints_one _ _ _ _ _ E1.out (by simp) (by simp; omega))).mono ?_
        rintro x w2 hp
        have hbl:=below_put hA hp (by omega) (by simp; omega)
        obtain ⟨g',n',cap',rfl,hn',hown',hgr⟩:=hp
        have HN : Hid (n' = (putI o.dir.toNat [o.id.toNat]).length):=hn'
        have hc0 : w2.cell? ⟨w.heap.size,0,none⟩ = some (.int .i64 o.kind):=by rw [hgr.cell_far _ (by simp; omega) (by simp; omega)]; simp [go_sem]
        clear hn' hgr
        go_wp2_with fail
        go_ret
        exact ⟨⟨_,rfl,by show OwnInts _ _ _ _; rw [hids.out]; exact hown'⟩,hbl⟩
end
section
open Go.RowKit
def AscI (l : List Nat) : Prop:=l.Pairwise (· < ·)
theorem ascI_ext : ∀ {l m : List Nat},AscI l → AscI m → (∀ x,x ∈ l ↔ x ∈ m) → l = m
  | [],[],_,_,_=>rfl
  | [],b :: m,_,_,h=>by have:=(h b).2 (by simp); simp at this
  | a :: l,[],_,_,h=>by have:=(h a).1 (by simp); simp at this
  | a :: l,b :: m,hl,hm,h=>by
    have hl':=List.pairwise_cons.1 hl
    have hm':=List.pairwise_cons.1 hm
    have hab : a = b:=by
      have h1:=(h a).1 (by simp)
      have h2:=(h b).2 (by simp)
      simp at h1 h2
      rcases h1 with h1 | h1
      · exact h1
      · rcases h2 with h2 | h2
        · exact h2.symm
        · have:=hl'.1 b h2; have:=hm'.1 a h1; omega
    subst hab
    rw [ascI_ext hl'.2 hm'.2 fun x=>?_]
    constructor
    · intro hx
      have:=hl'.1 x hx
      have:=(h x).1 (by simp [hx])
      simp at this
      rcases this with e | e
      · omega
      · exact e
    · intro hx
      have:=hm'.1 x hx
      have:=(h x).2 (by simp [hx])
      simp at this
      rcases this with e | e
      · omega
      · exact e
theorem placeI_cons_lt {x y : Nat} {l : List Nat} (h : y < x) : placeI x (y :: l) = placeI x l + 1:=by simp [placeI,h]
theorem placeI_cons_ge {x y : Nat} {l : List Nat} (h : ¬ y < x) : placeI x (y :: l) = 0:=by simp [placeI,h]
theorem putI_cons_lt {x y : Nat} {l : List Nat} (h : y < x) : putI x (y :: l) = y :: putI x l:=by
  unfold putI
  rw [placeI_cons_lt h]
  simp
  split <;> simp
theorem putI_cons_eq {x : Nat} {l : List Nat} : putI x (x :: l) = x :: l:=by
  unfold putI
  rw [placeI_cons_ge (by omega)]
  simp
theorem putI_cons_gt {x y : Nat} {l : List Nat} (h : x < y) : putI x (y :: l) = x :: y :: l:=by
  unfold putI
  rw [placeI_cons_ge (by omega)]
  simp; omega
theorem putI_nil (x : Nat) : putI x [] = [x]:=by simp [putI,placeI]
theorem mem_putI (x y : Nat) : ∀ l,y ∈ putI x l ↔ y = x ∨ y ∈ l
  | []=>by simp [putI_nil]
  | a :: l=>by
    by_cases h : a < x
    · rw [putI_cons_lt h]; simp [mem_putI x y l]; constructor <;> (intro h; rcases h with h | h | h <;> simp [h])
    · by_cases e : a = x
      · subst e; rw [putI_cons_eq]; simp
      · rw [putI_cons_gt (by omega)]; simp
theorem ascI_putI (x : Nat) : ∀ l,AscI l → AscI (putI x l)
  | [],_=>by simp [putI_nil,AscI]
  | a :: l,h=>by
    have h':=List.pairwise_cons.1 h
    by_cases hlt : a < x
    · rw [putI_cons_lt hlt]
      refine List.pairwise_cons.2 ⟨fun y hy=>?_,ascI_putI x l h'.2⟩
      rcases (mem_putI x y l).1 hy with rfl | hy
      · exact hlt
      · exact h'.1 y hy
    · by_cases e : a = x
      · subst e; rw [putI_cons_eq]; exact h
      · rw [putI_cons_gt (by omega)]
        refine List.pairwise_cons.2 ⟨fun y hy=>?_,h⟩
        simp at hy
        rcases hy with rfl | hy
        · omega
        · have:=h'.1 y hy; omega
theorem ascI_filter_range (p : Nat → Bool) (n : Nat) : AscI ((List.range n).filter p) :=
  List.Pairwise.filter p List.pairwise_lt_range
def inSet (k : Int) (i j l m : Nat) : Bool:=m == i || (k != 5 && m == j) || (k == 4 && m == l)
def setL (s : Nat → Bool) (n : Nat) : List Nat:=(List.range n).filter s
theorem opIds_set {o : LOp} (h : opOk o = true) : opIds o = setL (inSet o.kind o.id.toNat o.dir.toNat o.dir2.toNat) 32:=by
  have b1:=opOk_id h
  have b2:=opOk_dir h
  have b3:=opOk_dir2 h
  have a1 : AscI (opIds1 o):=by
    unfold opIds1
    split
    · simp [AscI]
    · exact ascI_putI _ _ (by simp [AscI])
  refine ascI_ext ?_ (ascI_filter_range _ _) fun x=>?_
  · unfold opIds
    rw [if_pos h]
    split
    · exact ascI_putI _ _ a1
    · exact a1
  · unfold opIds opIds1 setL inSet
    rw [if_pos h]
    by_cases k4 : o.kind = 4
    · simp [k4,mem_putI]
      omega
    · by_cases k5 : o.kind = 5
      · simp [k5]
        omega
      · simp [k4,k5,mem_putI]
        omega
theorem setL_yes {s : Nat → Bool} {n : Nat} (h : s n = true) : setL s (n + 1) = setL s n ++ [n]:=by simp [setL,List.range_succ,List.filter_append,h]
theorem setL_no {s : Nat → Bool} {n : Nat} (h : s n = false) : setL s (n + 1) = setL s n:=by simp [setL,List.range_succ,List.filter_append,h]
theorem setL_le (s : Nat → Bool) (n : Nat) : (setL s n).length ≤ n:=by have:=List.length_filter_le s (List.range n); simpa [setL] using this
theorem OwnInts.bare (w : World) (B : Nat) : OwnInts w B (.slice none 0 0) []:=⟨rfl,.inl ⟨rfl,rfl⟩⟩
set_option maxHeartbeats 1000000 in
set_option maxRecDepth 20000 in
theorem list_any (b : Nat) (s : Nat → Bool) (w : World) (hrow : w.rowIs b 275 32 (fun m=>.bool (s m))) :
    Calls Tryz.prog 216 #[.pointer (some ⟨b,0,none⟩)] w fun e w'=>(∃ v,e = .returned v ∧ Hid (OwnInts w' w.heap.size v (setL s 32))) ∧ Below w.heap.size w w':=by
  obtain ⟨i0,hi,hz0,hz1,hz2⟩:=info_parts infoI
  have HR : Hid (w.rowIs b 275 32 (fun m=>.bool (s m))):=hrow
  have hbw : b < w.heap.size:=hrow.lt
  clear hrow
  go_enter Tryz.func216,Tryz.ntmps216
  go_wp2_with fail
  go_loopg [3,7] 32 (fun g v i wr=>∃ j : Nat,j ≤ 32 ∧ Hid (g = 32 - j) ∧ i = .int .i64 j ∧ Hid (OwnInts wr w.heap.size v (setL s j)) ∧ Below w.heap.size w wr)
  case atStart=>exact ⟨0,by omega,rfl,rfl,OwnInts.bare _ _,Below.refl _ _⟩
  case round =>
    obtain ⟨j,hj,hk,rfl,hown,hb⟩:=hrel
    have hsz:=hb.size
    by_cases hlt : j < 32
    · have hc : wr.cell? ⟨b,j,none⟩ = some (.bool (s j)):=by rw [hb.cell (by simpa using hbw)]; exact HR.out.cell hlt
      have hbl : b < wr.heap.size:=by omega
      have hlt' : (j : Int) < 32:=by omega
      have hle:=setL_le s j
      rcases hs : s j with _ | _
      · have HL : Hid (setL s (j + 1) = setL s j):=setL_no hs
        rw [hs] at hc
        clear hs
        go_wp2_with fail
        go_region
        all_goals
          go_wp2_with fail
          go_roundg (32 - (j + 1))
          case measure=>have:=hk.out; omega
          case rel=>exact ⟨j + 1,by omega,rfl,by go_num,by show OwnInts _ _ _ _; rw [HL.out]; exact hown.out,hb.drew⟩
      · have HL : Hid (setL s (j + 1) = setL s j ++ [j]):=setL_yes hs
        rw [hs] at hc
        clear hs
        go_wp2_with fail
        go_region
        all_goals
          go_wp2_with (first
            | (at_builtin; refine wpList_append_own _ rfl _ _ 166 rfl w.heap.size 3 i0 (.int .i64 0) 1 8 Tryz.underlying166 hi hz0 hz1 hz2 rfl (by decide) _ _ _ rfl (hown.out.alloc _) ⟨wr.heap.size,0,none⟩ 1 1 [.int .i64 (j : Int)] rfl rfl ?c1 ?c2 ?c3 ?c4 ?c5 ?_)
            | go_in)
          case c1=>intro i u hi; exact one_at hi
          case c2=>intro u hu; simp at hu; subst hu; rfl
          case c3=>unfold maxLen; omega
          case c4=>omega
          case c5=>simp; omega
          intro v' w1 hown' hgrow _
          go_wp2_with fail
          go_roundg (32 - (j + 1))
          case measure=>have:=hk.out; omega
          case rel=>exact ⟨j + 1,by omega,rfl,by go_num,by show OwnInts _ _ _ _; rw [HL.out]; simpa [OwnInts] using hown',below_grown (hb.drew.alloc (by simpa using hsz) _) hgrow (fun k e=>(hown.out.lt k e).1) (by simp; omega)⟩
    · obtain rfl : j = 32:=by omega
      go_wp2_with fail
      go_ret
      exact ⟨⟨_,rfl,hown⟩,hb⟩
def AddEnd (b i j l : Nat) (k : Int) (w : World) (e : Ending) (w' : World) : Prop :=
  e = .returned (.tuple #[]) ∧ w'.rowIs b 275 32 (fun m=>.bool (inSet k i j l m)) ∧ But b w w'
theorem row_add {w : World} {b i : Nat} {s s' : Nat → Bool} (h : w.rowIs b 275 32 (fun m=>.bool (s m))) (e : ∀ m,s' m = (s m || m == i)) : (w.setCell ⟨b,i,none⟩ (.bool true)).rowIs b 275 32 (fun m=>.bool (s' m)) :=
  (h.set i (.bool true)).congr fun m _=>by
    rw [e m]
    by_cases hm : m = i
    · simp [hm]
    · simp [hm]
set_option maxHeartbeats 1000000 in
set_option maxRecDepth 20000 in
theorem addOf_any (b i j l : Nat) (k : Int) (nm nm2 tx : ByteArray) (w : World) (hi : i < 32) (hj : j < 32) (hl : l < 32) (hrow : w.rowIs b 275 32 (fun _=>.bool false)) :
    Calls Tryz.prog 215 #[.pointer (some ⟨b,0,none⟩),.agg #[.int .i64 k,.int .i64 j,.string nm,.int .i64 l,.string nm2,.int .i64 i,.string tx]] w fun e w'=>AddEnd b i j l k w e w':=by
  have hbw : b < w.heap.size:=hrow.lt
  have hi' : (i : Int) < 32:=by omega
  have hj' : (j : Int) < 32:=by omega
  have hl' : (l : Int) < 32:=by omega
  have g1 : w.cell? ⟨b,i,none⟩ = some (.bool false):=hrow.cell hi
  have f1 : w.frozen? ⟨b,i,none⟩ = false:=hrow.frozen i
  have HR : Hid (w.rowIs b 275 32 (fun _=>.bool false)):=hrow
  clear hrow
  go_enter Tryz.func215,Tryz.ntmps215
  go_upto_region 2 with fail
  go_cut [4] (fun s wx=>s = .int .i64 k ∧ Hid (wx.rowIs b 275 32 (fun m=>.bool (m == i))) ∧ Hid (But b w wx) ∧ w.heap.size < wx.heap.size ∧ wx.cell? ⟨w.heap.size,1,none⟩ = some (.int .i64 j) ∧ wx.cell? ⟨w.heap.size,3,none⟩ = some (.int .i64 l))
  case first =>
    go_region
    all_goals
      go_wp2_with fail
      go_meet
      refine ⟨rfl,?_,?_,by simp,by simp [go_sem],by simp [go_sem]⟩
      · show World.rowIs _ b 275 32 _
        exact ((row_add HR.out (s':=fun m=>m == i) (fun m=>by simp)).alloc _).drew
      · exact ((But.refl b w).set i (.bool true)).next (by simp; omega) ((Below.refl _ _).alloc (Nat.le_refl _) _).drew
  obtain ⟨rfl,hr1,hb1,hz1,c1,c3⟩:=hcut
  have hbx : b < wc.heap.size:=by omega
  by_cases k5 : k = 5
  · subst k5
    go_wp2_with (first | (go_at_call 232; refine (inDir_any _ _).mono ?_; rintro e w' ⟨rfl,rfl⟩) | (go_at_call 233; refine (moves_any _ _).mono ?_; rintro e w' ⟨rfl,rfl⟩))
    go_end0
    exact ⟨rfl,hr1.out.congr fun m _=>by simp [inSet],hb1.out⟩
  have t5 : (k != 5) = true:=by simpa using k5
  have g2 : wc.cell? ⟨b,j,none⟩ = some (.bool (j == i)):=hr1.out.cell hj
  have f2 : wc.frozen? ⟨b,j,none⟩ = false:=hr1.out.frozen j
  have hc3 : ∀ v,(wc.setCell ⟨b,j,none⟩ v).cell? ⟨w.heap.size,3,none⟩ = some (.int .i64 l):=fun v=>by rw [World.cell?_setCell_other _ _ _ _ (by simp <;> omega)]; exact c3
  have hr2:=row_add hr1.out (i:=j) (s':=fun m=>m == i || m == j) (fun m=>rfl)
  have g3 : (wc.setCell ⟨b,j,none⟩ (.bool true)).cell? ⟨b,l,none⟩ = some (.bool (l == i || l == j)):=hr2.cell hl
  have f3 : (wc.setCell ⟨b,j,none⟩ (.bool true)).frozen? ⟨b,l,none⟩ = false:=hr2.frozen l
  have g4:=hc3 (.bool true)
  have HR2 : Hid ((wc.setCell ⟨b,j,none⟩ (.bool true)).rowIs b 275 32 (fun m=>.bool (m == i || m == j))):=hr2
  clear hr2 hc3
  by_cases k4 : k = 4
  · subst k4
    go_wp2_with (go_at_call 232; refine (inDir_any _ _).mono ?_; rintro e w' ⟨rfl,rfl⟩)
    go_region
    all_goals
      go_wp2_with (go_at_call 233; refine (moves_any _ _).mono ?_; rintro e w9 ⟨rfl,rfl⟩)
      go_region
      all_goals
        go_wp2_with fail
        go_end0
        exact ⟨rfl,(row_add HR2.out (i:=l) (s':=inSet 4 i j l) (fun m=>by simp [inSet])).drew.drew,((hb1.out.set j (.bool true)).set l (.bool true)).next (by simp; omega) (Below.refl _ _).drew.drew⟩
  · have t4 : (k == 4) = false:=by simpa using k4
    go_wp2_with (go_at_call 232; refine (inDir_any _ _).mono ?_; rintro e w' ⟨rfl,rfl⟩)
    go_region
    all_goals
      go_wp2_with (go_at_call 233; refine (moves_any _ _).mono ?_; rintro e w9 ⟨rfl,rfl⟩)
      go_end0
      exact ⟨rfl,HR2.out.drew.congr fun m _=>by simp [inSet,t5,t4],(hb1.out.set j (.bool true)).next (by simp; omega) (Below.refl _ _).drew⟩
theorem zero110 : (#[.bool false,.bool false,.bool false,.bool false,.bool false,.bool false,.bool false,.bool false,.bool false,.bool false,.bool false,.bool false,.bool false,.bool false,.bool false,.bool false,.bool false,.bool false,.bool false,.bool false,.bool false,.bool false,.bool false,.bool false,.bool false,.bool false,.bool false,.bool false,.bool false,.bool false,.bool false,.bool false] : Array Value) = madeCells #[.bool false] 32:=by kernel_rfl
theorem row_zero (w : World) : (w.alloc (.cells #[.bool false,.bool false,.bool false,.bool false,.bool false,.bool false,.bool false,.bool false,.bool false,.bool false,.bool false,.bool false,.bool false,.bool false,.bool false,.bool false,.bool false,.bool false,.bool false,.bool false,.bool false,.bool false,.bool false,.bool false,.bool false,.bool false,.bool false,.bool false,.bool false,.bool false,.bool false,.bool false] 275)).rowIs w.heap.size 275 32 (fun _=>.bool false):=by
  rw [zero110]; exact World.rowIs_made w (.bool false) 32 275
set_option maxHeartbeats 400000 in
theorem implOpIds (o : LOp) (w : World) (hs : OpSz o) :
    Calls Tryz.prog 236 #[.agg o.val] w fun e w'=>(∃ v,e = .returned v ∧ Hid (OwnInts w' w.heap.size v (opIds o))) ∧ Below w.heap.size w w':=by
  have HIM:=fun w=>implOpOk o w hs
  rcases hok : opOk o with _ | _
  · have hids : Hid (opIds o = []):=by show _ = _; simp [opIds,hok]
    simp only [LOp.val] at *
    go_enter Tryz.func236,Tryz.ntmps236
    go_wp2_with fail
    refine (HIM _).mono ?_
    rintro x w1 ⟨rfl,hb1⟩
    rw [hok]
    go_wp2_with fail
    go_ret
    exact ⟨⟨_,rfl,by show OwnInts _ _ _ _; rw [hids.out]; exact OwnInts.bare _ _⟩,((Below.refl _ _).alloc (Nat.le_refl _) _).trans (hb1.mono (by simp))⟩
  · have hset : Hid (opIds o = setL (inSet o.kind o.id.toNat o.dir.toNat o.dir2.toNat) 32):=opIds_set hok
    have b1:=opOk_id hok
    have b2:=opOk_dir hok
    have b3:=opOk_dir2 hok
    obtain ⟨k,d,nm,d2,nm2,id,tx⟩:=o
    simp only [LOp.val] at *
    obtain ⟨i,rfl⟩ : ∃ i : Nat,id = i:=⟨id.toNat,by omega⟩
    obtain ⟨j,rfl⟩ : ∃ i : Nat,d = i:=⟨d.toNat,by omega⟩
    obtain ⟨l,rfl⟩ : ∃ i : Nat,d2 = i:=⟨d2.toNat,by omega⟩
    simp only [Int.toNat_natCast] at hset
    have hi : i < 32:=by omega
    have hj : j < 32:=by omega
    have hl : l < 32:=by omega
    clear b1 b2 b3
    go_enter Tryz.func236,Tryz.ntmps236
    go_wp2_with fail
    refine (HIM _).mono ?_
    rintro x w1 ⟨rfl,hb1⟩
    rw [hok]
    have hA : Below w.heap.size w w1:=((Below.refl _ _).alloc (Nat.le_refl _) _).trans (hb1.mono (by simp))
    have hz : w.heap.size < w1.heap.size:=by have:=hb1.size; simp at this; omega
    have c0 : w1.cell? ⟨w.heap.size,0,none⟩ = some (.int .i64 k):=by rw [hb1.cell (by simp)]; simp [go_sem]
    have c1 : w1.cell? ⟨w.heap.size,1,none⟩ = some (.int .i64 j):=by rw [hb1.cell (by simp)]; simp [go_sem]
    have c2 : w1.cell? ⟨w.heap.size,2,none⟩ = some (.string nm):=by rw [hb1.cell (by simp)]; simp [go_sem]
    have c3 : w1.cell? ⟨w.heap.size,3,none⟩ = some (.int .i64 l):=by rw [hb1.cell (by simp)]; simp [go_sem]
    have c4 : w1.cell? ⟨w.heap.size,4,none⟩ = some (.string nm2):=by rw [hb1.cell (by simp)]; simp [go_sem]
    have c5 : w1.cell? ⟨w.heap.size,5,none⟩ = some (.int .i64 i):=by rw [hb1.cell (by simp)]; simp [go_sem]
    have c6 : w1.cell? ⟨w.heap.size,6,none⟩ = some (.string tx):=by rw [hb1.cell (by simp)]; simp [go_sem]
    clear hb1
    go_wp2_with fail
    refine (addOf_any _ i j l _ _ _ _ _ hi hj hl (row_zero w1)).mono ?_
    rintro x w2 ⟨rfl,hr2,hb2⟩
    have hb3 : Below w.heap.size w w2:=(hA.alloc hA.size _).trans (hb2.below.mono hA.size)
    have hz2 : w1.heap.size < w2.heap.size:=by have:=hb2.below.size; simp at this; omega
    clear c0 c1 c2 c3 c4 c5 c6
    go_wp2_with fail
    refine (list_any _ _ _ hr2).mono ?_
    rintro x w3 ⟨⟨v,rfl,hv⟩,hb4⟩
    go_wp2_with fail
    go_ret
    exact ⟨⟨_,rfl,by show OwnInts _ _ _ _; rw [hset.out]; exact hv.out.mono (by omega)⟩,hb3.trans (hb4.mono (by omega))⟩
end
section
open Go.RowKit
def oldB (os : List LObj) (i : Nat) : Bool:=match os[i]? with | some o=>decide (1000000 ≤ o.ver) | none=>false
def wornB (os : List LObj) (l : List Nat) : Bool:=l.any (oldB os)
theorem opIds_le (o : LOp) : (opIds o).length ≤ 3:=by
  have h1 : (opIds1 o).length ≤ 2:=by
    unfold opIds1
    split
    · simp
    · have:=putI_le o.dir.toNat [o.id.toNat]; simp at this; omega
  unfold opIds
  split
  · split
    · have:=putI_le o.dir2.toNat (opIds1 o); omega
    · omega
  · simp
theorem OwnInts.form {w : World} {B : Nat} {v : Value} {l : List Nat} (h : OwnInts w B v l) : ∃ a c,v = .slice a l.length c ∧ ∀ i,i < l.length → ∃ g k,a = some ⟨g,0,none⟩ ∧ B ≤ g ∧ g < w.heap.size ∧ l[i]? = some k ∧ w.cell? ⟨g,i,none⟩ = some (.int .i64 (k : Nat)):=by
  by_cases hl : l = []
  · subst hl
    obtain ⟨a,c,rfl⟩:=h.nil
    exact ⟨a,c,rfl,fun i hi=>by simp at hi⟩
  · obtain ⟨g,c,rfl,h1,h2,h3⟩:=h.get hl
    refine ⟨_,c,rfl,fun i hi=>?_⟩
    obtain ⟨k,hk,hc⟩:=h3 i hi
    exact ⟨g,k,rfl,h1,h2,hk,hc⟩
set_option maxHeartbeats 1000000 in
set_option maxRecDepth 20000 in
theorem worn_any (a : Option Addr) (n c : Nat) (os : List LObj) (L U : Nat) (o : LOp) (w : World) (hn : 32 ≤ n) (hU : U ≤ w.heap.size) (H : ObjsAt w L U a n os) (h1 : o.name.size ≤ maxLen) (h2 : o.name2.size ≤ maxLen) (h3 : o.text.size ≤ maxLen) :
    Calls Tryz.prog 173 #[.agg #[.slice a n c],.agg o.val] w fun e w'=>e = .returned (.bool (wornB os (opIds o))) ∧ Below w.heap.size w w':=by
  have HIDS:=opIds_any o
  have HBD:=opIds_bd o
  have hnos:=H.len
  have HNOS : Hid (n = os.length):=hnos
  obtain ⟨b,off,ha,hL,hbU,hc⟩:=H.at_ (by omega)
  subst ha
  clear hnos H
  have HCC : Hid (∀ i,i < n → ∃ p,os[i]? = some p ∧ w.cell? ⟨b,off + i * 4 + 1,none⟩ = some (.int .i64 p.ver)):=fun i hi=>by
    obtain ⟨p,_,_,_,hp,_,_,hv,_⟩:=hc i hi
    exact ⟨p,hp,hv⟩
  clear hc
  simp only [LOp.val] at *
  go_enter Tryz.func173,Tryz.ntmps173
  go_wp2_with fail
  refine (HIDS _ h1 h2 h3).mono ?_
  rintro x w1 ⟨⟨v,rfl,hv⟩,hb1⟩
  have hA : Below w.heap.size w w1:=((((Below.refl w.heap.size w).alloc (Nat.le_refl _) _).alloc (by simp) _)).trans (hb1.mono (by simp; omega))
  have hbx : w1.cell? ⟨w.heap.size,0,none⟩ = some (.slice (some ⟨b,off,none⟩) n c):=by rw [hb1.cell (by simp; omega)]; simp [go_sem]
  have hz1 : w.heap.size + 2 ≤ w1.heap.size:=by simpa using hb1.size
  obtain ⟨ia,ic,rfl,hcells⟩:=hv.out.form
  have HL : Hid (∀ i ∈ opIds o,i < 32):=HBD
  have HI : Hid (∀ i,i < (opIds o).length → ∃ g k,ia = some ⟨g,0,none⟩ ∧ w1.cell? ⟨g,i,none⟩ = some (.int .i64 (k : Nat)) ∧ (opIds o)[i]? = some k):=fun i hi=>by
    obtain ⟨g,k,h1,_,_,h4,h5⟩:=hcells i hi
    exact ⟨g,k,h1,h5,h4⟩
  clear hv hcells hb1 HBD HIDS
  obtain ⟨m,hm⟩ : ∃ m,Hid (m = (opIds o).length):=⟨_,rfl⟩
  rw [← hm.out]
  have hm4 : m ≤ 100000:=by rw [hm.out]; have:=opIds_le o; omega
  go_wp2_with fail
  go_loopg [6] m (fun k i wr=>∃ j : Nat,j ≤ m ∧ Hid (k = m - j) ∧ i = .int .i64 j ∧ Hid (∀ i,i < j → ∃ k,(opIds o)[i]? = some k ∧ oldB os k = false) ∧ Hid (∃ q,wr = w1.drewN q))
  case atStart=>exact ⟨0,Nat.zero_le _,rfl,rfl,fun i hi=>by omega,0,rfl⟩
  case round =>
    obtain ⟨j,hj,hk,rfl,hno,hwr⟩:=hrel
    have hbx' : wr.cell? ⟨w.heap.size,0,none⟩ = some (.slice (some ⟨b,off,none⟩) n c):=by obtain ⟨q,rfl⟩:=hwr.out; exact hbx
    by_cases hlt : j < m
    · obtain ⟨g,k,rfl,hck,hik⟩:=HI.out j (by rw [← hm.out]; exact hlt)
      have hk32 : k < 32:=HL.out k (List.mem_of_getElem? hik)
      have hkn : (k : Int) < (n : Int):=by omega
      obtain ⟨p,hp,hpv⟩:=HCC.out k (by omega)
      have hck' : wr.cell? ⟨g,j,none⟩ = some (.int .i64 (k : Int)):=by obtain ⟨q,rfl⟩:=hwr.out; exact hck
      have hpv' : wr.cell? ⟨b,off + k * 4 + 1,none⟩ = some (.int .i64 p.ver):=by obtain ⟨q,rfl⟩:=hwr.out; show w1.cell? _ = _; rw [hA.cell (by simp; omega)]; exact hpv
      have HIK : Hid ((opIds o)[j]? = some k):=hik
      have HP : Hid (os[k]? = some p):=hp
      clear hik hp hpv hck
      by_cases hq : 1000000 ≤ p.ver
      · have HO : Hid (wornB os (opIds o) = true):=by show _ = _; unfold wornB; rw [List.any_eq_true]; exact ⟨k,List.mem_of_getElem? HIK.out,by simp [oldB,HP.out,hq]⟩
        go_wp2_with fail
        go_quiet (fail)
        go_wp2_with fail
        go_ret
        exact ⟨ret_bool HO.out.symm,by obtain ⟨q,hq⟩:=hwr.out; rw [hq]; exact hA.trans ⟨rfl,rfl,rfl,Nat.le_refl _,fun _ _=>rfl⟩⟩
      · have HO : Hid (oldB os k = false):=by show _ = _; simp [oldB,HP.out]; omega
        have t1 : decide (1000000 ≤ p.ver) = false:=by simpa using hq
        go_wp2_with fail
        go_quiet (fail)
        go_wp2_with fail
        go_roundg (m - (j + 1))
        case measure=>have:=hk.out; omega
        case rel =>
          refine ⟨j + 1,by omega,rfl,by go_num,fun i hi=>?_,by obtain ⟨q,hq⟩:=hwr.out; exact ⟨q + nq,by rw [hq,World.drewN_drewN]⟩⟩
          rcases Nat.lt_or_ge i j with h | h
          · exact hno.out i h
          · obtain rfl : i = j:=by omega
            exact ⟨k,HIK.out,HO.out⟩
    · have HO : Hid (wornB os (opIds o) = false):=by
        show _ = _
        unfold wornB
        rw [List.any_eq_false]
        intro k hk
        obtain ⟨i,hi,hik⟩:=List.getElem_of_mem hk
        obtain ⟨k',h1,h2⟩:=hno.out i (by have:=hm.out; omega)
        rw [List.getElem?_eq_getElem hi,hik] at h1
        simp at h1
        subst h1
        simp [h2]
      go_wp2_with fail
      go_ret
      exact ⟨ret_bool HO.out.symm,by obtain ⟨q,hq⟩:=hwr.out; rw [hq]; exact hA.trans ⟨rfl,rfl,rfl,Nat.le_refl _,fun _ _=>rfl⟩⟩
end
section
open Go.RowKit
def putAll (acc : List Nat) (l : List Nat) : List Nat:=l.foldl (fun a x=>putI x a) acc
def logIdsL (ops : List LOp) : List Nat:=ops.foldl (fun a o=>putAll a (opIds o)) []
def logIds (ops : List LOp) : List Nat:=logIdsL (ops.take 60)
theorem putAll_snoc (acc l : List Nat) (x : Nat) : putAll acc (l ++ [x]) = putI x (putAll acc l):=by simp [putAll]
theorem mem_putAll (y : Nat) : ∀ l acc,y ∈ putAll acc l ↔ y ∈ acc ∨ y ∈ l
  | [],acc=>by simp [putAll]
  | x :: l,acc=>by
    show y ∈ putAll (putI x acc) l ↔ _
    rw [mem_putAll y l,mem_putI]
    constructor
    · rintro ((h | h) | h) <;> simp [h]
    · rintro (h | h)
      · exact .inl (.inr h)
      · simp at h; rcases h with h | h <;> simp [h]
theorem asc_putAll : ∀ l acc,AscI acc → AscI (putAll acc l)
  | [],_,h=>h
  | x :: l,acc,h=>asc_putAll l _ (ascI_putI x acc h)
theorem mem_logIdsL (y : Nat) : ∀ (ops : List LOp) acc,y ∈ ops.foldl (fun a o=>putAll a (opIds o)) acc ↔ y ∈ acc ∨ ∃ o ∈ ops,y ∈ opIds o
  | [],acc=>by simp
  | o :: ops,acc=>by
    rw [List.foldl_cons,mem_logIdsL y ops,mem_putAll]
    constructor
    · rintro ((h | h) | ⟨o',h1,h2⟩)
      · exact .inl h
      · exact .inr ⟨o,by simp,h⟩
      · exact .inr ⟨o',by simp [h1],h2⟩
    · rintro (h | ⟨o',h1,h2⟩)
      · exact .inl (.inl h)
      · simp at h1
        rcases h1 with rfl | h1
        · exact .inl (.inr h2)
        · exact .inr ⟨o',h1,h2⟩
theorem asc_logIdsL : ∀ (ops : List LOp) acc,AscI acc → AscI (ops.foldl (fun a o=>putAll a (opIds o)) acc)
  | [],_,h=>h
  | _ :: ops,_,h=>asc_logIdsL ops _ (asc_putAll _ _ h)
def inAll (ops : List LOp) (m : Nat) : Bool:=ops.any fun o=>opOk o && inSet o.kind o.id.toNat o.dir.toNat o.dir2.toNat m
theorem mem_opIds {o : LOp} {m : Nat} (hm : m < 32) : m ∈ opIds o ↔ (opOk o && inSet o.kind o.id.toNat o.dir.toNat o.dir2.toNat m) = true:=by
  rcases h : opOk o with _ | _
  · simp [opIds,h]
  · rw [opIds_set h]; simp [setL,hm]
theorem logIdsL_set (ops : List LOp) : logIdsL ops = setL (inAll ops) 32:=by
  refine ascI_ext (asc_logIdsL ops [] (by simp [AscI])) (ascI_filter_range _ _) fun x=>?_
  unfold logIdsL
  rw [mem_logIdsL]
  by_cases hx : x < 32
  · simp [setL,hx,inAll]
    constructor
    · rintro ⟨o,h1,h2⟩
      exact ⟨o,h1,by simpa using (mem_opIds hx).1 h2⟩
    · rintro ⟨o,h1,h2⟩
      exact ⟨o,h1,(mem_opIds hx).2 (by simpa using h2)⟩
  · simp [setL,hx]
    intro o _ h
    exact hx (opIds_bd o x h)
theorem logIdsL_snoc (ops : List LOp) (o : LOp) : logIdsL (ops ++ [o]) = putAll (logIdsL ops) (opIds o):=by simp [logIdsL]
theorem logIdsL_le (ops : List LOp) : (logIdsL ops).length ≤ 32:=by rw [logIdsL_set]; exact setL_le _ _
theorem logIds_le (ops : List LOp) : (logIds ops).length ≤ 32:=logIdsL_le _
theorem inAll_snoc (ops : List LOp) (o : LOp) (m : Nat) : inAll (ops ++ [o]) m = (inAll ops m || (opOk o && inSet o.kind o.id.toNat o.dir.toNat o.dir2.toNat m)):=by simp [inAll]
theorem putAll_le : ∀ l acc,(putAll acc l).length ≤ acc.length + l.length
  | [],acc=>by simp [putAll]
  | x :: l,acc=>by
    have h1:=putAll_le l (putI x acc)
    have h2:=putI_le x acc
    show (putAll (putI x acc) l).length ≤ _
    simp; omega
theorem take_snocX {α : Type} {l : List α} {j : Nat} {x : α} (h : l[j]? = some x) : l.take (j + 1) = l.take j ++ [x]:=by
  have hj : j < l.length:=(List.getElem?_eq_some_iff.1 h).1
  rw [List.take_succ_eq_append_getElem hj,(List.getElem?_eq_some_iff.1 h).2]
def AddEndS (b i j l : Nat) (k : Int) (s : Nat → Bool) (w : World) (e : Ending) (w' : World) : Prop :=
  e = .returned (.tuple #[]) ∧ w'.rowIs b 275 32 (fun m=>.bool (s m || inSet k i j l m)) ∧ But b w w'
set_option maxHeartbeats 1000000 in
set_option maxRecDepth 20000 in
theorem addOf_set (b i j l : Nat) (k : Int) (s : Nat → Bool) (nm nm2 tx : ByteArray) (w : World) (hi : i < 32) (hj : j < 32) (hl : l < 32) (hrow : w.rowIs b 275 32 (fun m=>.bool (s m))) :
    Calls Tryz.prog 215 #[.pointer (some ⟨b,0,none⟩),.agg #[.int .i64 k,.int .i64 j,.string nm,.int .i64 l,.string nm2,.int .i64 i,.string tx]] w fun e w'=>AddEndS b i j l k s w e w':=by
  have hbw : b < w.heap.size:=hrow.lt
  have hi' : (i : Int) < 32:=by omega
  have hj' : (j : Int) < 32:=by omega
  have hl' : (l : Int) < 32:=by omega
  have g1 : w.cell? ⟨b,i,none⟩ = some (.bool (s i)):=hrow.cell hi
  have f1 : w.frozen? ⟨b,i,none⟩ = false:=hrow.frozen i
  have HR : Hid (w.rowIs b 275 32 (fun m=>.bool (s m))):=hrow
  clear hrow
  go_enter Tryz.func215,Tryz.ntmps215
  go_upto_region 2 with fail
  go_cut [4] (fun x wx=>x = .int .i64 k ∧ Hid (wx.rowIs b 275 32 (fun m=>.bool (s m || m == i))) ∧ Hid (But b w wx) ∧ w.heap.size < wx.heap.size ∧ wx.cell? ⟨w.heap.size,1,none⟩ = some (.int .i64 j) ∧ wx.cell? ⟨w.heap.size,3,none⟩ = some (.int .i64 l))
  case first =>
    go_region
    all_goals
      go_wp2_with fail
      go_meet
      refine ⟨rfl,?_,?_,by simp,by simp [go_sem],by simp [go_sem]⟩
      · show World.rowIs _ b 275 32 _
        exact ((row_add HR.out (s':=fun m=>s m || m == i) (fun m=>rfl)).alloc _).drew
      · exact ((But.refl b w).set i (.bool true)).next (by simp; omega) ((Below.refl _ _).alloc (Nat.le_refl _) _).drew
  obtain ⟨rfl,hr1,hb1,hz1,c1,c3⟩:=hcut
  have hbx : b < wc.heap.size:=by omega
  by_cases k5 : k = 5
  · subst k5
    go_wp2_with (first | (go_at_call 232; refine (inDir_any _ _).mono ?_; rintro e w' ⟨rfl,rfl⟩) | (go_at_call 233; refine (moves_any _ _).mono ?_; rintro e w' ⟨rfl,rfl⟩))
    go_end0
    exact ⟨rfl,hr1.out.congr fun m _=>by simp [inSet],hb1.out⟩
  have t5 : (k != 5) = true:=by simpa using k5
  have g2 : wc.cell? ⟨b,j,none⟩ = some (.bool (s j || j == i)):=hr1.out.cell hj
  have f2 : wc.frozen? ⟨b,j,none⟩ = false:=hr1.out.frozen j
  have hc3 : ∀ v,(wc.setCell ⟨b,j,none⟩ v).cell? ⟨w.heap.size,3,none⟩ = some (.int .i64 l):=fun v=>by rw [World.cell?_setCell_other _ _ _ _ (by simp <;> omega)]; exact c3
  have hr2:=row_add hr1.out (i:=j) (s':=fun m=>(s m || m == i) || m == j) (fun m=>rfl)
  have g3 : (wc.setCell ⟨b,j,none⟩ (.bool true)).cell? ⟨b,l,none⟩ = some (.bool ((s l || l == i) || l == j)):=hr2.cell hl
  have f3 : (wc.setCell ⟨b,j,none⟩ (.bool true)).frozen? ⟨b,l,none⟩ = false:=hr2.frozen l
  have g4:=hc3 (.bool true)
  have HR2 : Hid ((wc.setCell ⟨b,j,none⟩ (.bool true)).rowIs b 275 32 (fun m=>.bool ((s m || m == i) || m == j))):=hr2
  clear hr2 hc3
  by_cases k4 : k = 4
  · subst k4
    go_wp2_with (go_at_call 232; refine (inDir_any _ _).mono ?_; rintro e w' ⟨rfl,rfl⟩)
    go_region
    all_goals
      go_wp2_with (go_at_call 233; refine (moves_any _ _).mono ?_; rintro e w9 ⟨rfl,rfl⟩)
      go_region
      all_goals
        go_wp2_with fail
        go_end0
        exact ⟨rfl,(row_add HR2.out (i:=l) (s':=fun m=>s m || inSet 4 i j l m) (fun m=>by simp [inSet,Bool.or_assoc])).drew.drew,((hb1.out.set j (.bool true)).set l (.bool true)).next (by simp; omega) (Below.refl _ _).drew.drew⟩
  · have t4 : (k == 4) = false:=by simpa using k4
    go_wp2_with (go_at_call 232; refine (inDir_any _ _).mono ?_; rintro e w' ⟨rfl,rfl⟩)
    go_region
    all_goals
      go_wp2_with (go_at_call 233; refine (moves_any _ _).mono ?_; rintro e w9 ⟨rfl,rfl⟩)
      go_end0
      exact ⟨rfl,HR2.out.drew.congr fun m _=>by simp [inSet,t5,t4,Bool.or_assoc],(hb1.out.set j (.bool true)).next (by simp; omega) (Below.refl _ _).drew⟩
set_option maxHeartbeats 1000000 in
set_option maxRecDepth 20000 in
theorem implLogIds (a : Option Addr) (n c : Nat) (ops : List LOp) (L U : Nat) (w : World) (hU : U ≤ w.heap.size) (hnc : n ≤ c) (hc : c ≤ maxLen) (H : OpsAt w L U a n ops) :
    Calls Tryz.prog 181 #[.slice a n c] w fun e w'=>(∃ v,e = .returned v ∧ Hid (OwnInts w' w.heap.size v (logIds ops))) ∧ Below w.heap.size w w':=by
  have hbd:=H.bd
  unfold maxLen at hbd hc
  by_cases h60 : (n : Int) ≤ 60
  · have HLI : Hid (logIds ops = setL (inAll (ops.take n)) 32):=by
      show _ = _
      unfold logIds
      rw [logIdsL_set,List.take_of_length_le (l:=ops) (i:=60) (by have:=H.len; omega),List.take_of_length_le (l:=ops) (i:=n) (by have:=H.len; omega)]
    go_enter Tryz.func181,Tryz.ntmps181
    go_wp2_with fail
    go_loopg [12] n (fun g k wr=>∃ j : Nat,j ≤ n ∧ Hid (g = n - j) ∧ k = .int .i64 j ∧ Hid (wr.rowIs w.heap.size 275 32 (fun m=>.bool (inAll (ops.take j) m))) ∧ Below w.heap.size w wr)
    case atStart=>exact ⟨0,Nat.zero_le _,rfl,rfl,by show World.rowIs _ _ _ _ _; simpa [inAll] using row_zero w,(Below.refl _ _).alloc (Nat.le_refl _) _⟩
    case round =>
      obtain ⟨j,hj,hk,rfl,hrow,hb⟩:=hrel
      have hzz:=hb.size
      have hrl:=hrow.out.lt
      by_cases hlt : j < n
      · obtain ⟨b,off,ha,hL,hbU,hce⟩:=H.at_ (by omega)
        subst ha
        obtain ⟨x,he,hsz,hat⟩:=hce j (by omega)
        obtain ⟨u0,u1,u2,u3,u4,u5,u6⟩:=hat.of_block (hb.block b (by omega))
        have hlt' : (j : Int) < (n : Int):=by omega
        have HS : Hid (ops.take (j + 1) = ops.take j ++ [x]):=take_snocX he
        have HOK:=fun w=>implOpOk x w hsz
        have HSZ : Hid (OpSz x):=hsz
        clear he hce hat hsz
        rcases hx : opOk x with _ | _
        · simp only [LOp.val] at HOK
          go_wp2_with fail
          refine (HOK _).mono ?_
          rintro e w1 ⟨rfl,hb1⟩
          rw [hx]
          have hbb : Below w.heap.size w w1:=(hb.alloc hb.size _).trans (hb1.mono (by simp; omega))
          go_wp2_with fail
          go_roundg (n - (j + 1))
          case measure=>have:=hk.out; omega
          case rel =>
            refine ⟨j + 1,by omega,rfl,by go_num,?_,hbb⟩
            show World.rowIs _ _ _ _ _
            refine ((hrow.out.alloc _).of_block (hb1.block _ (by simp; omega))).congr fun m _=>?_
            rw [HS.out,inAll_snoc,hx]; simp
        · have b1:=opOk_id hx
          have b2:=opOk_dir hx
          have b3:=opOk_dir2 hx
          have HX : Hid (opOk x = true):=hx
          clear hx
          obtain ⟨kd,d,nm,d2,nm2,id,tx⟩:=x
          simp only [LOp.val] at HOK
          simp only at b1 b2 b3 u0 u1 u2 u3 u4 u5 u6
          obtain ⟨xi,rfl⟩ : ∃ i : Nat,id = i:=⟨id.toNat,by omega⟩
          obtain ⟨xj,rfl⟩ : ∃ i : Nat,d = i:=⟨d.toNat,by omega⟩
          obtain ⟨xl,rfl⟩ : ∃ i : Nat,d2 = i:=⟨d2.toNat,by omega⟩
          have hi : xi < 32:=by omega
          have hj' : xj < 32:=by omega
          have hl : xl < 32:=by omega
          go_wp2_with fail
          refine (HOK _).mono ?_
          rintro e w1 ⟨rfl,hb1⟩
          rw [HX.out]
          have hbb : Below w.heap.size w w1:=(hb.alloc hb.size _).trans (hb1.mono (by simp; omega))
          have e0 : w1.cell? ⟨wr.heap.size,0,none⟩ = some (.int .i64 kd):=by rw [hb1.cell (by simp)]; simp [go_sem]
          have e1 : w1.cell? ⟨wr.heap.size,1,none⟩ = some (.int .i64 xj):=by rw [hb1.cell (by simp)]; simp [go_sem]
          have e2 : w1.cell? ⟨wr.heap.size,2,none⟩ = some (.string nm):=by rw [hb1.cell (by simp)]; simp [go_sem]
          have e3 : w1.cell? ⟨wr.heap.size,3,none⟩ = some (.int .i64 xl):=by rw [hb1.cell (by simp)]; simp [go_sem]
          have e4 : w1.cell? ⟨wr.heap.size,4,none⟩ = some (.string nm2):=by rw [hb1.cell (by simp)]; simp [go_sem]
          have e5 : w1.cell? ⟨wr.heap.size,5,none⟩ = some (.int .i64 xi):=by rw [hb1.cell (by simp)]; simp [go_sem]
          have e6 : w1.cell? ⟨wr.heap.size,6,none⟩ = some (.string tx):=by rw [hb1.cell (by simp)]; simp [go_sem]
          have hr1 : Hid (w1.rowIs w.heap.size 275 32 (fun m=>.bool (inAll (ops.take j) m))):=(hrow.out.alloc _).of_block (hb1.block _ (by simp; omega))
          clear u0 u1 u2 u3 u4 u5 u6
          go_wp2_with fail
          refine (addOf_set _ xi xj xl _ _ _ _ _ _ hi hj' hl hr1.out).mono ?_
          rintro e w2 ⟨rfl,hr2,hb2⟩
          have HR2:=hr2
          have hbc : Below w.heap.size w w2:=hbb.trans hb2.below
          clear hr2
          go_wp2_with fail
          go_roundg (n - (j + 1))
          case measure=>have:=hk.out; omega
          case rel =>
            refine ⟨j + 1,by omega,rfl,by go_num,?_,hbc⟩
            show World.rowIs _ _ _ _ _
            refine HR2.congr fun m _=>?_
            rw [HS.out,inAll_snoc,HX.out]; simp
      · obtain rfl : j = n:=by omega
        go_wp2_with fail
        refine (list_any _ _ _ hrow.out).mono ?_
        rintro e w3 ⟨⟨v,rfl,hv⟩,hb4⟩
        go_wp2_with fail
        go_ret
        exact ⟨⟨_,rfl,by show OwnInts _ _ _ _; rw [HLI.out]; exact hv.out.mono (by omega)⟩,hb.trans (hb4.mono (by omega))⟩
  · have HLI : Hid (logIds ops = setL (inAll (ops.take 60)) 32):=by
      show _ = _
      unfold logIds
      rw [logIdsL_set]
    have h60' : ¬ n ≤ 60:=by omega
    go_enter Tryz.func181,Tryz.ntmps181
    go_wp2_with fail
    go_loopg [12] 60 (fun g k wr=>∃ j : Nat,j ≤ 60 ∧ Hid (g = 60 - j) ∧ k = .int .i64 j ∧ Hid (wr.rowIs w.heap.size 275 32 (fun m=>.bool (inAll (ops.take j) m))) ∧ Below w.heap.size w wr)
    case atStart=>exact ⟨0,Nat.zero_le _,rfl,rfl,by show World.rowIs _ _ _ _ _; simpa [inAll] using row_zero w,(Below.refl _ _).alloc (Nat.le_refl _) _⟩
    case round =>
      obtain ⟨j,hj,hk,rfl,hrow,hb⟩:=hrel
      have hzz:=hb.size
      have hrl:=hrow.out.lt
      by_cases hlt : j < 60
      · obtain ⟨b,off,ha,hL,hbU,hce⟩:=H.at_ (by omega)
        subst ha
        obtain ⟨x,he,hsz,hat⟩:=hce j (by omega)
        obtain ⟨u0,u1,u2,u3,u4,u5,u6⟩:=hat.of_block (hb.block b (by omega))
        have hlt' : (j : Int) < 60:=by omega
        have HS : Hid (ops.take (j + 1) = ops.take j ++ [x]):=take_snocX he
        have HOK:=fun w=>implOpOk x w hsz
        have HSZ : Hid (OpSz x):=hsz
        clear he hce hat hsz
        rcases hx : opOk x with _ | _
        · simp only [LOp.val] at HOK
          go_wp2_with fail
          refine (HOK _).mono ?_
          rintro e w1 ⟨rfl,hb1⟩
          rw [hx]
          have hbb : Below w.heap.size w w1:=(hb.alloc hb.size _).trans (hb1.mono (by simp; omega))
          go_wp2_with fail
          go_roundg (60 - (j + 1))
          case measure=>have:=hk.out; omega
          case rel =>
            refine ⟨j + 1,by omega,rfl,by go_num,?_,hbb⟩
            show World.rowIs _ _ _ _ _
            refine ((hrow.out.alloc _).of_block (hb1.block _ (by simp; omega))).congr fun m _=>?_
            rw [HS.out,inAll_snoc,hx]; simp
        · have b1:=opOk_id hx
          have b2:=opOk_dir hx
          have b3:=opOk_dir2 hx
          have HX : Hid (opOk x = true):=hx
          clear hx
          obtain ⟨kd,d,nm,d2,nm2,id,tx⟩:=x
          simp only [LOp.val] at HOK
          simp only at b1 b2 b3 u0 u1 u2 u3 u4 u5 u6
          obtain ⟨xi,rfl⟩ : ∃ i : Nat,id = i:=⟨id.toNat,by omega⟩
          obtain ⟨xj,rfl⟩ : ∃ i : Nat,d = i:=⟨d.toNat,by omega⟩
          obtain ⟨xl,rfl⟩ : ∃ i : Nat,d2 = i:=⟨d2.toNat,by omega⟩
          have hi : xi < 32:=by omega
          have hj' : xj < 32:=by omega
          have hl : xl < 32:=by omega
          go_wp2_with fail
          refine (HOK _).mono ?_
          rintro e w1 ⟨rfl,hb1⟩
          rw [HX.out]
          have hbb : Below w.heap.size w w1:=(hb.alloc hb.size _).trans (hb1.mono (by simp; omega))
          have e0 : w1.cell? ⟨wr.heap.size,0,none⟩ = some (.int .i64 kd):=by rw [hb1.cell (by simp)]; simp [go_sem]
          have e1 : w1.cell? ⟨wr.heap.size,1,none⟩ = some (.int .i64 xj):=by rw [hb1.cell (by simp)]; simp [go_sem]
          have e2 : w1.cell? ⟨wr.heap.size,2,none⟩ = some (.string nm):=by rw [hb1.cell (by simp)]; simp [go_sem]
          have e3 : w1.cell? ⟨wr.heap.size,3,none⟩ = some (.int .i64 xl):=by rw [hb1.cell (by simp)]; simp [go_sem]
          have e4 : w1.cell? ⟨wr.heap.size,4,none⟩ = some (.string nm2):=by rw [hb1.cell (by simp)]; simp [go_sem]
          have e5 : w1.cell? ⟨wr.heap.size,5,none⟩ = some (.int .i64 xi):=by rw [hb1.cell (by simp)]; simp [go_sem]
          have e6 : w1.cell? ⟨wr.heap.size,6,none⟩ = some (.string tx):=by rw [hb1.cell (by simp)]; simp [go_sem]
          have hr1 : Hid (w1.rowIs w.heap.size 275 32 (fun m=>.bool (inAll (ops.take j) m))):=(hrow.out.alloc _).of_block (hb1.block _ (by simp; omega))
          clear u0 u1 u2 u3 u4 u5 u6
          go_wp2_with fail
          refine (addOf_set _ xi xj xl _ _ _ _ _ _ hi hj' hl hr1.out).mono ?_
          rintro e w2 ⟨rfl,hr2,hb2⟩
          have HR2:=hr2
          have hbc : Below w.heap.size w w2:=hbb.trans hb2.below
          clear hr2
          go_wp2_with fail
          go_roundg (60 - (j + 1))
          case measure=>have:=hk.out; omega
          case rel =>
            refine ⟨j + 1,by omega,rfl,by go_num,?_,hbc⟩
            show World.rowIs _ _ _ _ _
            refine HR2.congr fun m _=>?_
            rw [HS.out,inAll_snoc,HX.out]; simp
      · obtain rfl : j = 60:=by omega
        go_wp2_with fail
        refine (list_any _ _ _ hrow.out).mono ?_
        rintro e w3 ⟨⟨v,rfl,hv⟩,hb4⟩
        go_wp2_with fail
        go_ret
        exact ⟨⟨_,rfl,by show OwnInts _ _ _ _; rw [HLI.out]; exact hv.out.mono (by omega)⟩,hb.trans (hb4.mono (by omega))⟩
end
section
open Go.RowKit
theorem OwnInts.keep {w w' : World} {B g n cap : Nat} {l : List Nat} (h : OwnInts w B (.slice (some ⟨g,0,none⟩) n cap) l) (hb : w'.heap[g]? = w.heap[g]?) : OwnInts w' B (.slice (some ⟨g,0,none⟩) n cap) l:=by
  rcases h with ⟨h0,h1⟩
  refine ⟨h0,?_⟩
  rcases h1 with ⟨e,_⟩ | ⟨g',cap',cur,e,h2,h3,h4⟩
  · cases e
  · cases e
    exact .inr ⟨g,cap,cur,rfl,h2,by rw [hb]; exact h3,h4⟩
def LogIdsIn (w : World) (C g : Nat) (a : Option Addr) (ids : List Nat) : Prop:=∀ i,i < ids.length → ∃ q k,a = some ⟨q,0,none⟩ ∧ C ≤ q ∧ q < w.heap.size ∧ q ≠ g ∧ ids[i]? = some k ∧ w.cell? ⟨q,i,none⟩ = some (.int .i64 (k : Nat))
set_option maxHeartbeats 1000000 in
set_option maxRecDepth 20000 in
theorem specLogIds (a : Option Addr) (n c : Nat) (ops : List LOp) (L U : Nat) (w : World) (hU : U ≤ w.heap.size) (H : OpsAt w L U a n ops) :
    Calls Tryz.prog 109 #[.slice a n c] w fun e w'=>(∃ v,e = .returned v ∧ Hid (OwnInts w' w.heap.size v (logIds ops))) ∧ Below w.heap.size w w':=by
  have hbd:=H.bd
  have hlen : Hid (n = ops.length):=H.len
  unfold maxLen at hbd
  go_enter Tryz.func109,Tryz.ntmps109
  go_wp2_with fail
  go_loopg [3,4] n (fun gg v i wr=>∃ j : Nat,j ≤ n ∧ j ≤ 60 ∧ Hid (gg = n - j) ∧ i = .int .i64 j ∧ (∃ g m cap,v = .slice (some ⟨g,0,none⟩) m cap ∧ w.heap.size ≤ g ∧ g < wr.heap.size ∧ Hid (m = (logIdsL (ops.take j)).length) ∧ Hid (OwnInts wr w.heap.size (.slice (some ⟨g,0,none⟩) m cap) (logIdsL (ops.take j)))) ∧ Below w.heap.size w wr)
  case atStart=>exact ⟨0,Nat.zero_le _,by omega,rfl,rfl,⟨_,_,_,rfl,Nat.le_refl _,by simp,rfl,OwnInts.empty _ _ _ rfl (Nat.le_refl _)⟩,(Below.refl _ _).alloc (Nat.le_refl _) _⟩
  case round =>
    obtain ⟨j,hj,hj6,hk,rfl,⟨g,m,cap,rfl,hg1,hg2,hm,hown⟩,hb⟩:=hrel
    have hzz:=hb.size
    by_cases hlt : j < n
    · by_cases hlt6 : j < 60
      · obtain ⟨b,off,ha,hL,hbU,hce⟩:=H.at_ (by omega)
        subst ha
        obtain ⟨x,he,hsz,hat⟩:=hce j (by omega)
        obtain ⟨u0,u1,u2,u3,u4,u5,u6⟩:=hat.of_block (hb.block b (by omega))
        have hlt' : (j : Int) < (n : Int):=by omega
        have hlt6' : (j : Int) < 60:=by omega
        have HS : Hid (logIdsL (ops.take (j + 1)) = putAll (logIdsL (ops.take j)) (opIds x)):=by show _ = _; rw [take_snocX he,logIdsL_snoc]
        have HID:=fun w=>opIds_any x w hsz.name hsz.name2 hsz.text
        simp only [LOp.val] at HID
        clear he hce hat hsz
        go_wp2_with fail
        refine (HID _).mono ?_
        rintro e w1 ⟨⟨v5,rfl,hv5⟩,hb1⟩
        have hz1:=hb1.size
        obtain ⟨a5,c5,rfl,h5⟩:=hv5.out.form
        have hle5:=opIds_le x
        obtain ⟨C,hC⟩ : ∃ C,C = wr.heap.size:=⟨_,rfl⟩
        have HI : Hid (LogIdsIn w1 C g a5 (opIds x)):=fun i hi=>by
          obtain ⟨q,k,e1,e2,e3,e4,e5⟩:=h5 i hi
          exact ⟨q,k,e1,by omega,e3,by omega,e4,e5⟩
        have hownA : Hid (OwnInts w1 w.heap.size (.slice (some ⟨g,0,none⟩) m cap) (logIdsL (ops.take j))):=hown.out.keep (hb1.block g hg2)
        have hbA : Below w.heap.size w w1:=hb.trans (hb1.mono hb.size)
        generalize hn5 : (opIds x).length = n5 at *
        clear h5 hv5 HID u0 u1 u2 u3 u4 u5 u6
        go_wp2_with fail
        go_loopg [3,6] n5 (fun gg v i wi=>∃ k : Nat,k ≤ n5 ∧ Hid (gg = n5 - k) ∧ i = .int .i64 k ∧ (∃ g m cap,v = .slice (some ⟨g,0,none⟩) m cap ∧ w.heap.size ≤ g ∧ g < wi.heap.size ∧ Hid (m = (putAll (logIdsL (ops.take j)) ((opIds x).take k)).length) ∧ Hid (OwnInts wi w.heap.size (.slice (some ⟨g,0,none⟩) m cap) (putAll (logIdsL (ops.take j)) ((opIds x).take k))) ∧ Hid (LogIdsIn wi C g a5 (opIds x))) ∧ Below w.heap.size w wi ∧ C ≤ wi.heap.size)
        case atStart=>exact ⟨0,Nat.zero_le _,rfl,rfl,⟨_,_,_,rfl,hg1,by omega,hm.out,hownA.out,HI⟩,hbA,by omega⟩
        case round =>
          clear hownA HI hb1 hm hown
          obtain ⟨k,hk5,hkk,rfl,⟨g,m,cap,rfl,hg1,hg2,hm,hown,HI⟩,hbi,hzi⟩:=hrel
          by_cases hl5 : k < n5
          · obtain ⟨q,y,rfl,hq1,hq2,hq3,hq4,hq5⟩:=HI.out k (by omega)
            have hl5' : (k : Int) < (n5 : Int):=by omega
            have HT : Hid (putAll (logIdsL (ops.take j)) ((opIds x).take (k + 1)) = putI y (putAll (logIdsL (ops.take j)) ((opIds x).take k))):=by show _ = _; rw [take_snocX hq4,putAll_snoc]
            have hm32 : m ≤ 1000000:=by
              rw [hm.out]
              have h1:=putAll_le ((opIds x).take k) (logIdsL (ops.take j))
              have h2:=logIdsL_le (ops.take j)
              have h3 : ((opIds x).take k).length ≤ k:=by simp; omega
              omega
            clear hq4
            go_wp2_with fail
            refine (putI_anyF w.heap.size g cap m y _ _ hm.out hm32 hbi.size hown.out).mono ?_
            rintro e w2 hp
            have hbl : Below w.heap.size w w2:=below_put hbi hp.plain hg1 hbi.size
            obtain ⟨g',m',cap',rfl,hm',hown',hgr,hfr⟩:=hp
            have hg1' : w.heap.size ≤ g':=(World.ownsRow.lt hown' g' rfl).1
            have hg2' : g' < w2.heap.size:=(World.ownsRow.lt hown' g' rfl).2
            have HM : Hid (m' = (putAll (logIdsL (ops.take j)) ((opIds x).take (k + 1))).length):=by show _ = _; rw [HT.out]; exact hm'
            have HO : Hid (OwnInts w2 w.heap.size (.slice (some ⟨g',0,none⟩) m' cap') (putAll (logIdsL (ops.take j)) ((opIds x).take (k + 1)))):=by show OwnInts _ _ _ _; rw [HT.out]; exact hown'
            have hz2:=hgr.size
            have HI2 : Hid (LogIdsIn w2 C g' (some ⟨q,0,none⟩) (opIds x)):=fun i hi=>by
              obtain ⟨q',y',e1,e2,e3,e4,e5,e6⟩:=HI.out i hi
              cases e1
              refine ⟨q,y',rfl,e2,by omega,by rcases hfr with h | h <;> omega,e5,?_⟩
              rw [hgr.cell_far _ (by simpa using e3) (by simpa using e4)]
              exact e6
            clear hm' hown' hgr hfr
            go_wp2_with fail
            go_roundg (n5 - (k + 1))
            case measure=>have:=hkk.out; omega
            case rel=>exact ⟨k + 1,by omega,rfl,by go_num,⟨g',m',cap',rfl,hg1',hg2',HM.out,HO.out,HI2.out⟩,hbl,by omega⟩
          · have HE : Hid ((opIds x).take k = opIds x):=by show _ = _; rw [List.take_of_length_le (by omega)]
            have HM : Hid (m = (logIdsL (ops.take (j + 1))).length):=by show _ = _; rw [HS.out,← HE.out]; exact hm.out
            have HO : Hid (OwnInts wr w.heap.size (.slice (some ⟨g,0,none⟩) m cap) (logIdsL (ops.take (j + 1)))):=by show OwnInts _ _ _ _; rw [HS.out,← HE.out]; exact hown.out
            clear hm hown HI
            go_wp2_with fail
            go_roundg (n - (j + 1))
            case measure=>have:=hk.out; omega
            case rel=>exact ⟨j + 1,by omega,by omega,rfl,by go_num,⟨g,m,cap,rfl,hg1,hg2,HM.out,HO.out⟩,hbi⟩
      · obtain rfl : j = 60:=by omega
        have hlt' : (60 : Int) < (n : Int):=by omega
        go_wp2_with fail
        go_ret
        exact ⟨⟨_,rfl,hown.out⟩,hb⟩
    · have HE : Hid (logIdsL (ops.take j) = logIds ops):=by show _ = _; unfold logIds; rw [List.take_of_length_le (l:=ops) (i:=j) (by have:=hlen.out; omega),List.take_of_length_le (l:=ops) (i:=60) (by have:=hlen.out; omega)]
      have hlt' : ¬ (j : Int) < (n : Int):=by omega
      go_wp2_with fail
      go_ret
      exact ⟨⟨_,rfl,by show OwnInts _ _ _ _; rw [← HE.out]; exact hown.out⟩,hb⟩
end
section
open Go.RowKit
end
end Go.Proofs.YtloopeipheklpaaGreatDoor
