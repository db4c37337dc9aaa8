/- Lemmas that the proofs of this seat share: Kids12, Obj. -/
import Derived.Test.YtloopeipheklpaaGreatDoorW01
namespace Go.Proofs.YtloopeipheklpaaGreatDoor
section
open Go.RowKit
theorem less_tri : ∀ a b : List UInt8,(Op.bytesLess a b || a == b) = !Op.bytesLess b a
  | [],[]=>rfl
  | [],_ :: _=>rfl
  | _ :: _,[]=>rfl
  | a :: x,b :: y=>by
    have ih:=less_tri x y
    simp only [Op.bytesLess]
    by_cases h1 : a < b
    · have h2 : ¬ b < a:=by rw [UInt8.lt_iff_toNat_lt] at *; omega
      have h3 : ¬ b = a:=by intro h; rw [h] at h1; exact absurd h1 (by rw [UInt8.lt_iff_toNat_lt]; omega)
      simp [h1,h2,h3]
    · by_cases h2 : b < a
      · have h3 : ¬ a = b:=by intro h; rw [h] at h2; exact absurd h2 (by rw [UInt8.lt_iff_toNat_lt]; omega)
        simp [h1,h2,h3]
      · have h3 : a = b:=by
          rw [UInt8.lt_iff_toNat_lt] at h1 h2
          exact UInt8.toNat_inj.1 (by omega)
        subst h3
        simp only [h1,decide_false,Bool.false_or,beq_self_eq_true,Bool.true_and]
        rw [← ih]
        cases Op.bytesLess x y <;> simp
def nameLess (a b : LEnt) : Bool:=Op.bytesLess a.name.toList b.name.toList
def entB (e : LEnt) : Bool:=word e.name.data.toList && decide (0 < e.id) && decide (e.id < 32)
def kidAt (es : List LEnt) (i : Nat) : Bool :=
  match es[i]? with
  | none=>true
  | some e=>entB e && (match i with | 0=>true | j + 1=>match es[j]? with | none=>true | some p=>nameLess p e)
def kidsB (es : List LEnt) : Bool:=(List.range es.length).all (kidAt es)
theorem kidsB_no {es : List LEnt} {i : Nat} (hi : i < es.length) (h : kidAt es i = false) : kidsB es = false:=by
  unfold kidsB
  rw [List.all_eq_false]
  exact ⟨i,by simpa using hi,by simp [h]⟩
theorem kidsB_yes {es : List LEnt} (h : ∀ i,i < es.length → kidAt es i = true) : kidsB es = true:=by
  unfold kidsB
  rw [List.all_eq_true]
  intro i hi
  exact h i (by simpa using hi)
theorem kidAt_ent {es : List LEnt} {i : Nat} {e : LEnt} (h : es[i]? = some e) (k : entB e = false) : kidAt es i = false:=by
  unfold kidAt; rw [h]; simp [k]
theorem kidAt_zero {es : List LEnt} {e : LEnt} (h : es[0]? = some e) (k : entB e = true) : kidAt es 0 = true:=by
  unfold kidAt; rw [h]; simp [k]
theorem kidAt_succ {es : List LEnt} {i : Nat} {e p : LEnt} (h : es[i + 1]? = some e) (hp : es[i]? = some p) (k : entB e = true) : kidAt es (i + 1) = nameLess p e:=by
  unfold kidAt; rw [h]; simp [k,hp]
theorem nodeOf_any (k v : Int) (s : ByteArray) (a : Option Addr) (n c : Nat) (w : World) :
    Calls Tryz.prog 225 #[.agg #[.int .i64 k,.int .i64 v,.string s,.slice a n c]] w fun e w'=>e = .returned (.agg #[.int .i64 k,.int .i64 v,.int .i64 (-1),.string ⟨#[]⟩,.string s,.slice a n c]) ∧ Below w.heap.size w w':=by
  go_enter Tryz.func225,Tryz.ntmps225
  go_wp2
  exact bodyPost_ret (v:=.agg #[.int .i64 k,.int .i64 v,.int .i64 (-1),.string ⟨#[]⟩,.string s,.slice a n c]) (by simp [results,Tryz.results225,go_sem]) rfl ⟨rfl,by
    repeat (first | exact Below.refl _ _ | refine Below.setCell ?_ (by simp <;> omega) _ | refine Below.alloc ?_ (by simp <;> omega) _)⟩
theorem there_any (k v h : Int) (nm : ByteArray) (w : World) :
    Calls Tryz.prog 241 #[.agg #[.int .i64 k,.int .i64 v,.int .i64 h,.string nm]] w fun e w'=>e = .returned (.bool (k != 0)) ∧ w' = w.alloc (.cells #[.int .i64 k,.int .i64 v,.int .i64 h,.string nm] 289):=by
  go_enter Tryz.func241,Tryz.ntmps241
  go_wp2
  go_ret
  exact ⟨rfl,rfl⟩
def verB (k v : Int) : Bool:=decide ((if k = 0 then 0 else 1) ≤ v) && decide (v ≤ 1000000)
theorem verOk_any (k v h : Int) (nm : ByteArray) (w : World) :
    Calls Tryz.prog 226 #[.agg #[.int .i64 k,.int .i64 v,.int .i64 h,.string nm]] w fun e w'=>e = .returned (.bool (verB k v)) ∧ Below w.heap.size w w':=by
  have hB : ∀ o1 o2,Below w.heap.size w ((w.alloc o1).alloc o2):=fun o1 o2=>((Below.refl _ _).alloc (Nat.le_refl _) _).alloc (by simp) _
  by_cases hk : k = 0
  · subst hk
    by_cases h0 : 0 ≤ v
    · go_enter Tryz.func226,Tryz.ntmps226
      go_wp2_with (go_at_call 241; refine (there_any _ _ _ _ _).mono ?_; rintro e w' ⟨rfl,rfl⟩)
      go_ret
      exact ⟨ret_bool (by simp [verB,h0]),hB _ _⟩
    · go_enter Tryz.func226,Tryz.ntmps226
      go_wp2_with (go_at_call 241; refine (there_any _ _ _ _ _).mono ?_; rintro e w' ⟨rfl,rfl⟩)
      go_ret
      exact ⟨ret_bool (by simp [verB]; omega),hB _ _⟩
  · have t : (k != 0) = true:=by simpa using hk
    have HK : Hid (k ≠ 0):=hk
    clear hk
    by_cases h0 : 1 ≤ v
    · go_enter Tryz.func226,Tryz.ntmps226
      go_wp2_with (go_at_call 241; refine (there_any _ _ _ _ _).mono ?_; rintro e w' ⟨rfl,rfl⟩)
      go_ret
      exact ⟨ret_bool (by simp [verB,h0,HK.out]),hB _ _⟩
    · go_enter Tryz.func226,Tryz.ntmps226
      go_wp2_with (go_at_call 241; refine (there_any _ _ _ _ _).mono ?_; rintro e w' ⟨rfl,rfl⟩)
      go_ret
      exact ⟨ret_bool (by simp [verB,HK.out]; omega),hB _ _⟩
theorem entB_word {e : LEnt} (h : word e.name.data.toList = false) : entB e = false:=by simp [entB,h]
theorem entB_lo {e : LEnt} (h : e.id ≤ 0) : entB e = false:=by simp [entB]; omega
theorem entB_hi {e : LEnt} (h : 32 ≤ e.id) : entB e = false:=by simp [entB]; omega
theorem entB_yes {e : LEnt} (h : word e.name.data.toList = true) (h1 : 0 < e.id) (h2 : e.id < 32) : entB e = true:=by simp [entB,h,h1,h2]
def idB (i : Int) : Bool:=decide (0 ≤ i) && decide (i < 32)
theorem isObject_any (i : Int) (w : World) : Calls Tryz.prog 213 #[.int .i64 i] w fun e w'=>e = .returned (.bool (idB i)) ∧ w' = w:=by
  by_cases h0 : 0 ≤ i
  · go_enter Tryz.func213,Tryz.ntmps213
    go_wp2
    go_ret
    exact ⟨ret_bool (by simp [idB,h0]),rfl⟩
  · go_enter Tryz.func213,Tryz.ntmps213
    go_wp2
    go_ret
    exact ⟨ret_bool (by simp [idB]; omega),rfl⟩
theorem isObject_yes {i : Int} (h0 : 0 ≤ i) (h1 : i < 32) (w : World) : Calls Tryz.prog 213 #[.int .i64 i] w fun e w'=>e = .returned (.bool true) ∧ w' = w:=by
  have : idB i = true:=by simp [idB,h0,h1]
  rw [← this]; exact isObject_any i w
theorem isObject_no {i : Int} (h : i < 0 ∨ 32 ≤ i) (w : World) : Calls Tryz.prog 213 #[.int .i64 i] w fun e w'=>e = .returned (.bool false) ∧ w' = w:=by
  have : idB i = false:=by simp [idB]; omega
  rw [← this]; exact isObject_any i w
set_option maxHeartbeats 1000000 in
theorem implKidsOk (a : Option Addr) (n c : Nat) (es : List LEnt) (L U : Nat) (w : World) (hU : U ≤ w.heap.size) (H : EntsAt w L U a n es) :
    Calls Tryz.prog 243 #[.slice a n c] w fun e w'=>e = .returned (.bool (kidsB es)) ∧ Below w.heap.size w w':=by
  have hbd:=H.bd
  have hlen:=H.len
  unfold maxLen at hbd
  have HL : Hid (n = es.length):=hlen
  clear hlen
  go_enter Tryz.func243,Tryz.ntmps243
  go_wp2
  go_loopg [7] n (fun k i wr=>∃ j : Nat,j ≤ n ∧ Hid (k = n - j) ∧ i = .int .i64 j ∧ Hid (∀ i,i < j → kidAt es i = true) ∧ Below w.heap.size w wr)
  case atStart=>exact ⟨0,Nat.zero_le _,by show _ = _; omega,rfl,fun i hi=>by omega,Below.refl _ _⟩
  case round =>
    obtain ⟨j,hj,hk,rfl,hq,hb⟩:=hrel
    by_cases hlt : j < n
    · obtain ⟨b,off,ha,hL,hbU,hc⟩:=H.at_ (by omega)
      subst ha
      obtain ⟨e,he,hsz,hc0,hc1⟩:=hc j hlt
      rw [← hb.cell (by simp; omega)] at hc0 hc1
      have HE : Hid (es[j]? = some e):=he
      clear he
      have hs1:=hb.size
      have hbl : b < wr.heap.size:=by omega
      have hB : ∀ o1,Below w.heap.size w (wr.alloc o1):=fun o1=>hb.alloc hs1 _
      have hlt' : (j : Int) < (n : Int):=by omega
      have hjE : j < es.length:=by have:=HL.out; omega
      cases hw : word e.name.data.toList
      · have HW : Hid (word e.name.data.toList = false):=hw
        clear hw hc
        go_wp2_with (go_at_call 246; refine (implWord _ _ hsz).mono ?_; rintro x w1 ⟨rfl,rfl⟩; rw [HW.out])
        go_ret
        exact ⟨ret_bool (kidsB_no hjE (kidAt_ent HE.out (entB_word HW.out))).symm,hB _⟩
      · have HW : Hid (word e.name.data.toList = true):=hw
        clear hw
        by_cases h0 : e.id < 0
        · clear hc
          go_wp2_with (first | (go_at_call 246; refine (implWord _ _ hsz).mono ?_; rintro x w1 ⟨rfl,rfl⟩; rw [HW.out]) | (go_at_call 213; refine (isObject_no (.inl h0) _).mono ?_; rintro x w1 ⟨rfl,rfl⟩))
          go_ret
          exact ⟨ret_bool (kidsB_no hjE (kidAt_ent HE.out (entB_lo (by omega)))).symm,hB _⟩
        by_cases h1 : e.id = 0
        · have HZ : Hid (entB e = false):=entB_lo (by omega)
          rw [h1] at hc1
          clear hc h1 h0
          go_wp2_with (first | (go_at_call 246; refine (implWord _ _ hsz).mono ?_; rintro x w1 ⟨rfl,rfl⟩; rw [HW.out]) | (go_at_call 213; refine (isObject_yes (i:=0) (by decide) (by decide) _).mono ?_; rintro x w1 ⟨rfl,rfl⟩))
          go_ret
          exact ⟨ret_bool (kidsB_no hjE (kidAt_ent HE.out HZ.out)).symm,hB _⟩
        have t0 : (e.id == 0) = false:=by simpa using h1
        by_cases h2 : 32 ≤ e.id
        · clear hc
          go_wp2_with (first | (go_at_call 246; refine (implWord _ _ hsz).mono ?_; rintro x w1 ⟨rfl,rfl⟩; rw [HW.out]) | (go_at_call 213; refine (isObject_no (.inr h2) _).mono ?_; rintro x w1 ⟨rfl,rfl⟩))
          go_ret
          exact ⟨ret_bool (kidsB_no hjE (kidAt_ent HE.out (entB_hi h2))).symm,hB _⟩
        have HY : Hid (entB e = true):=entB_yes HW.out (by omega) (by omega)
        by_cases hj0 : j = 0
        · subst hj0
          clear hc
          simp only [Nat.zero_mul,Nat.add_zero] at hc0 hc1
          go_wp2_with (first | (go_at_call 246; refine (implWord _ _ hsz).mono ?_; rintro x w1 ⟨rfl,rfl⟩; rw [HW.out]) | (go_at_call 213; refine (isObject_yes (by omega) (by omega) _).mono ?_; rintro x w1 ⟨rfl,rfl⟩))
          go_quiet (fail)
          go_wp2_with fail
          go_roundg (n - (0 + 1))
          case measure=>have:=hk.out; omega
          case rel =>
            refine ⟨1,by omega,rfl,by go_num,fun i hi=>?_,(hB _).trans ((Below.drewN _ _).mono (by simp; omega))⟩
            have : i = 0:=by omega
            subst this
            exact kidAt_zero HE.out HY.out
        · obtain ⟨jp,rfl⟩ : ∃ jp,j = jp + 1:=⟨j - 1,by omega⟩
          obtain ⟨p,hp,hpz,hp0,hp1⟩:=hc jp (by omega)
          rw [← hb.cell (by simp; omega)] at hp0
          have HP : Hid (es[jp]? = some p):=hp
          clear hp hc hp1
          have hgt : (0 : Int) < ((jp + 1 : Nat) : Int):=by omega
          cases hl : nameLess p e
          · have t1 : Op.bytesLess p.name.toList e.name.toList = false:=hl
            have HN : Hid (nameLess p e = false):=hl
            clear hl
            go_wp2_with (first | (go_at_call 246; refine (implWord _ _ hsz).mono ?_; rintro x w1 ⟨rfl,rfl⟩; rw [HW.out]) | (go_at_call 213; refine (isObject_yes (by omega) (by omega) _).mono ?_; rintro x w1 ⟨rfl,rfl⟩))
            go_quiet (fail)
            go_wp2_with fail
            go_ret
            exact ⟨ret_bool (kidsB_no hjE (by rw [kidAt_succ HE.out HP.out HY.out]; exact HN.out)).symm,(hB _).trans ((Below.drewN _ _).mono (by simp; omega))⟩
          · have t1 : Op.bytesLess p.name.toList e.name.toList = true:=hl
            have HN : Hid (nameLess p e = true):=hl
            clear hl
            go_wp2_with (first | (go_at_call 246; refine (implWord _ _ hsz).mono ?_; rintro x w1 ⟨rfl,rfl⟩; rw [HW.out]) | (go_at_call 213; refine (isObject_yes (by omega) (by omega) _).mono ?_; rintro x w1 ⟨rfl,rfl⟩))
            go_quiet (fail)
            go_wp2_with fail
            go_roundg (n - (jp + 1 + 1))
            case measure=>have:=hk.out; omega
            case rel =>
              refine ⟨jp + 1 + 1,by omega,rfl,by go_num,fun i hi=>?_,(hB _).trans ((Below.drewN _ _).mono (by simp; omega))⟩
              by_cases e : i = jp + 1
              · subst e
                rw [kidAt_succ HE.out HP.out HY.out]
                exact HN.out
              · exact hq.out i (by omega)
    · go_wp2_with fail
      go_ret
      exact ⟨ret_bool (kidsB_yes (fun i hi=>hq.out i (by have:=HL.out; omega))).symm,hb⟩
end
section
open Go.RowKit
theorem EntsAt.drewN {w : World} {L U : Nat} {a : Option Addr} {n : Nat} {es : List LEnt} (h : EntsAt w L U a n es) (m : Nat) : EntsAt (w.drewN m) L U a n es:=h.below (B:=U) ⟨rfl,rfl,rfl,Nat.le_refl _,fun _ _=>rfl⟩ (Nat.le_refl _)
theorem specWord_of {s : ByteArray} {b : Bool} (h : word s.data.toList = b) (w : World) (hs : s.size ≤ maxLen) :
    Calls Tryz.prog 144 #[.string s] w fun e w'=>e = .returned (.bool b) ∧ w' = w:=by rw [← h]; exact specWord s w hs
theorem l1Id_yes (i : Int) (h0 : 0 ≤ i) (h1 : i < 32) (w : World) :
    Calls Tryz.prog 143 #[.int .i64 i] w fun e w'=>e = .returned (.bool true) ∧ w' = w:=by
  go_enter Tryz.func143,Tryz.ntmps143
  go_wp2
  go_ret
  exact ⟨ret_bool (by simp),rfl⟩
theorem l1Id_no (i : Int) (h : i < 0 ∨ 32 ≤ i) (w : World) :
    Calls Tryz.prog 143 #[.int .i64 i] w fun e w'=>e = .returned (.bool false) ∧ w' = w:=by
  by_cases h0 : 0 ≤ i
  · have h1 : ¬ i < 32:=by omega
    go_enter Tryz.func143,Tryz.ntmps143
    go_wp2
    go_ret
    exact ⟨ret_bool (by simp),rfl⟩
  · go_enter Tryz.func143,Tryz.ntmps143
    go_wp2
    go_ret
    exact ⟨rfl,rfl⟩
set_option maxHeartbeats 1000000 in
theorem specKidsOk (a : Option Addr) (n c : Nat) (es : List LEnt) (L U : Nat) (w : World) (H : EntsAt w L U a n es) :
    Calls Tryz.prog 194 #[.slice a n c] w fun e w'=>e = .returned (.bool (kidsB es)) ∧ ∃ m,w' = w.drewN m:=by
  have hbd:=H.bd
  have hlen:=H.len
  unfold maxLen at hbd
  have HL : Hid (n = es.length):=hlen
  clear hlen
  go_enter Tryz.func194,Tryz.ntmps194
  go_wp2
  go_loopg [3] n (fun k i wr=>∃ j : Nat,j ≤ n ∧ Hid (k = n - j) ∧ i = .int .i64 j ∧ Hid (∀ i,i < j → kidAt es i = true) ∧ Hid (∃ m,wr = w.drewN m))
  case atStart=>exact ⟨0,Nat.zero_le _,by show _ = _; omega,rfl,fun i hi=>by omega,⟨0,rfl⟩⟩
  case round =>
    obtain ⟨j,hj,hk,rfl,hq,hb⟩:=hrel
    have Hr : EntsAt wr L U a n es:=by obtain ⟨m,hm⟩:=hb.out; rw [hm]; exact H.drewN m
    by_cases hlt : j < n
    · obtain ⟨b,off,ha,hL,hbU,hc⟩:=Hr.at_ (by omega)
      subst ha
      obtain ⟨e,he,hsz,hc0,hc1⟩:=hc j hlt
      have HE : Hid (es[j]? = some e):=he
      clear he
      have hlt' : (j : Int) < (n : Int):=by omega
      have hjE : j < es.length:=by have:=HL.out; omega
      cases hw : word e.name.data.toList
      · have HW : Hid (word e.name.data.toList = false):=hw
        clear hw hc
        go_wp2_with fail
        go_quiet ((go_at_call 144; exact Calls.quiet_of_same (specWord_of HW.out _ hsz)))
        go_wp2_with fail
        go_ret
        exact ⟨ret_bool (kidsB_no hjE (kidAt_ent HE.out (entB_word HW.out))).symm,by obtain ⟨m,hm⟩:=hb.out; exact ⟨m + nq,by rw [hm,World.drewN_drewN]⟩⟩
      · have HW : Hid (word e.name.data.toList = true):=hw
        clear hw
        by_cases h1 : e.id < 1
        · clear hc
          go_wp2_with fail
          go_quiet ((go_at_call 144; exact Calls.quiet_of_same (specWord_of HW.out _ hsz)))
          go_wp2_with fail
          go_ret
          exact ⟨ret_bool (kidsB_no hjE (kidAt_ent HE.out (entB_lo (by omega)))).symm,by obtain ⟨m,hm⟩:=hb.out; exact ⟨m + nq,by rw [hm,World.drewN_drewN]⟩⟩
        have h1' : decide (e.id < 1) = false:=by simpa using h1
        by_cases h2 : 32 ≤ e.id
        · clear hc
          go_wp2_with fail
          go_quiet (first | (go_at_call 144; exact Calls.quiet_of_same (specWord_of HW.out _ hsz)) | (go_at_call 143; exact Calls.quiet_of_same (l1Id_no _ (.inr h2) _)))
          go_wp2_with fail
          go_ret
          exact ⟨ret_bool (kidsB_no hjE (kidAt_ent HE.out (entB_hi h2))).symm,by obtain ⟨m,hm⟩:=hb.out; exact ⟨m + nq,by rw [hm,World.drewN_drewN]⟩⟩
        have HY : Hid (entB e = true):=entB_yes HW.out (by omega) (by omega)
        have h3 : 0 ≤ e.id:=by omega
        have h4 : e.id < 32:=by omega
        by_cases hj0 : j = 0
        · subst hj0
          clear hc
          simp only [Nat.zero_mul,Nat.add_zero] at hc0 hc1
          go_wp2_with fail
          go_quiet (first | (go_at_call 144; exact Calls.quiet_of_same (specWord_of HW.out _ hsz)) | (go_at_call 143; exact Calls.quiet_of_same (l1Id_yes _ h3 h4 _)))
          go_wp2_with fail
          go_roundg (n - (0 + 1))
          case measure=>have:=hk.out; omega
          case rel =>
            refine ⟨1,by omega,rfl,by go_num,fun i hi=>?_,by obtain ⟨m,hm⟩:=hb.out; exact ⟨m + nq,by rw [hm,World.drewN_drewN]⟩⟩
            have : i = 0:=by omega
            subst this
            exact kidAt_zero HE.out HY.out
        · obtain ⟨jp,rfl⟩ : ∃ jp,j = jp + 1:=⟨j - 1,by omega⟩
          obtain ⟨p,hp,hpz,hp0,hp1⟩:=hc jp (by omega)
          have HP : Hid (es[jp]? = some p):=hp
          clear hp hc hp1
          have hgt : (0 : Int) < ((jp + 1 : Nat) : Int):=by omega
          have tri:=less_tri e.name.toList p.name.toList
          cases hl : nameLess p e
          · have t1 : (Op.bytesLess e.name.toList p.name.toList || e.name.toList == p.name.toList) = true:=by
              rw [tri]; unfold nameLess at hl; rw [hl]; rfl
            have HN : Hid (nameLess p e = false):=hl
            clear hl tri
            go_wp2_with fail
            go_quiet (first | (go_at_call 144; exact Calls.quiet_of_same (specWord_of HW.out _ hsz)) | (go_at_call 143; exact Calls.quiet_of_same (l1Id_yes _ h3 h4 _)))
            go_wp2_with fail
            go_ret
            exact ⟨ret_bool (kidsB_no hjE (by rw [kidAt_succ HE.out HP.out HY.out]; exact HN.out)).symm,by obtain ⟨m,hm⟩:=hb.out; exact ⟨m + nq,by rw [hm,World.drewN_drewN]⟩⟩
          · have t1 : (Op.bytesLess e.name.toList p.name.toList || e.name.toList == p.name.toList) = false:=by
              rw [tri]; unfold nameLess at hl; rw [hl]; rfl
            have HN : Hid (nameLess p e = true):=hl
            clear hl tri
            go_wp2_with fail
            go_quiet (first | (go_at_call 144; exact Calls.quiet_of_same (specWord_of HW.out _ hsz)) | (go_at_call 143; exact Calls.quiet_of_same (l1Id_yes _ h3 h4 _)))
            go_wp2_with fail
            go_roundg (n - (jp + 1 + 1))
            case measure=>have:=hk.out; omega
            case rel =>
              refine ⟨jp + 1 + 1,by omega,rfl,by go_num,fun i hi=>?_,by obtain ⟨m,hm⟩:=hb.out; exact ⟨m + nq,by rw [hm,World.drewN_drewN]⟩⟩
              by_cases e : i = jp + 1
              · subst e
                rw [kidAt_succ HE.out HP.out HY.out]
                exact HN.out
              · exact hq.out i (by omega)
    · go_wp2_with fail
      go_ret
      exact ⟨ret_bool (kidsB_yes (fun i hi=>hq.out i (by have:=HL.out; omega))).symm,hb.out⟩
end
section
open Go.RowKit
def emp (s : ByteArray) : Bool:=s.toList.isEmpty
def nil? (n : Nat) : Bool:=decide (n = 0)
theorem nil_eq (n : Nat) : ((n : Int) == 0) = nil? n:=by unfold nil?; rw [Bool.eq_iff_iff]; simp
def partsB (o : LObj) : Bool :=
  if o.kind = 0 then emp o.text && nil? o.kids.length
  else if o.kind = 1 then body o.text.data.toList && nil? o.kids.length
  else if o.kind = 2 then emp o.text && kidsB o.kids
  else false
def objB (o : LObj) : Bool:=verB o.kind o.ver && partsB o
theorem implBody_of {s : ByteArray} {b : Bool} (h : body s.data.toList = b) (w : World) (hs : s.size ≤ maxLen) :
    Calls Tryz.prog 242 #[.string s] w fun e w'=>e = .returned (.bool b) ∧ w' = w:=by rw [← h]; exact implBody s w hs
theorem specBody_of {s : ByteArray} {b : Bool} (h : body s.data.toList = b) (w : World) (hs : s.size ≤ maxLen) :
    Calls Tryz.prog 145 #[.string s] w fun e w'=>e = .returned (.bool b) ∧ w' = w:=by rw [← h]; exact specBody s w hs
set_option maxHeartbeats 1000000 in
theorem partsOk_any (k v h : Int) (nm s : ByteArray) (a : Option Addr) (n c : Nat) (es : List LEnt) (L U : Nat) (w : World) (hU : U ≤ w.heap.size) (hs : s.size ≤ maxLen) (H : EntsAt w L U a n es) :
    Calls Tryz.prog 227 #[.agg #[.int .i64 k,.int .i64 v,.int .i64 h,.string nm,.string s,.slice a n c]] w fun e w'=>e = .returned (.bool (partsB ⟨k,v,s,es⟩)) ∧ Below w.heap.size w w':=by
  have hB : ∀ o1,Below w.heap.size w (w.alloc o1):=fun o1=>(Below.refl _ _).alloc (Nat.le_refl _) _
  have hlen:=H.len
  have HL : Hid (n = es.length):=hlen
  clear hlen
  by_cases hk0 : k = 0
  · subst hk0
    cases he : s.toList.isEmpty
    · have HEm : Hid (emp s = false):=he
      go_enter Tryz.func227,Tryz.ntmps227
      go_wp2_with fail
      go_ret
      exact ⟨ret_bool (by simp [partsB,HEm.out]),hB _⟩
    · have HEm : Hid (emp s = true):=he
      go_enter Tryz.func227,Tryz.ntmps227
      go_wp2_with fail
      go_ret
      exact ⟨ret_bool (by simp only [partsB,HEm.out,← HL.out,nil_eq]; rfl),hB _⟩
  by_cases hk1 : k = 1
  · subst hk1
    cases hb : body s.data.toList
    · have HBy : Hid (body s.data.toList = false):=hb
      clear hb
      go_enter Tryz.func227,Tryz.ntmps227
      go_wp2_with (go_at_call 242; refine (implBody_of HBy.out _ hs).mono ?_; rintro x w1 ⟨rfl,rfl⟩)
      go_ret
      exact ⟨ret_bool (by simp [partsB,HBy.out]),hB _⟩
    · have HBy : Hid (body s.data.toList = true):=hb
      clear hb
      go_enter Tryz.func227,Tryz.ntmps227
      go_wp2_with (go_at_call 242; refine (implBody_of HBy.out _ hs).mono ?_; rintro x w1 ⟨rfl,rfl⟩)
      go_ret
      exact ⟨ret_bool (by simp only [partsB,HBy.out,← HL.out,nil_eq]; rfl),hB _⟩
  by_cases hk2 : k = 2
  · subst hk2
    cases he : s.toList.isEmpty
    · have HEm : Hid (emp s = false):=he
      go_enter Tryz.func227,Tryz.ntmps227
      go_wp2_with fail
      go_ret
      exact ⟨ret_bool (by simp [partsB,HEm.out]),hB _⟩
    · have HEm : Hid (emp s = true):=he
      go_enter Tryz.func227,Tryz.ntmps227
      go_wp2_with fail
      refine (implKidsOk _ _ _ _ L U _ (by simp; omega) (H.below (hB _) hU)).mono ?_
      rintro x w1 ⟨rfl,hb1⟩
      go_wp2_with fail
      go_ret
      exact ⟨ret_bool (by simp [partsB,HEm.out]),(hB _).trans (hb1.mono (by simp))⟩
  · have t0 : (k == 0) = false:=by simpa using hk0
    have t1 : (k == 1) = false:=by simpa using hk1
    have t2 : (k == 2) = false:=by simpa using hk2
    have HK : Hid (k ≠ 0 ∧ k ≠ 1 ∧ k ≠ 2):=⟨hk0,hk1,hk2⟩
    clear hk0 hk1 hk2
    go_enter Tryz.func227,Tryz.ntmps227
    go_wp2_with fail
    go_ret
    exact ⟨ret_bool (by simp [partsB,HK.out.1,HK.out.2.1,HK.out.2.2]),hB _⟩
theorem objB_lo {o : LObj} (h : o.ver < 0) : objB o = false:=by
  unfold objB verB
  have : ¬ (if o.kind = 0 then (0 : Int) else 1) ≤ o.ver:=by split <;> omega
  simp [this]
theorem objB_hi {o : LObj} (h : 1000000 < o.ver) : objB o = false:=by
  have : ¬ o.ver ≤ 1000000:=by omega
  simp [objB,verB,this]
theorem objB_parts {o : LObj} (h : partsB o = false) : objB o = false:=by simp [objB,h]
theorem objB_0 {o : LObj} (h0 : 0 ≤ o.ver) (h1 : o.ver ≤ 1000000) (hk : o.kind = 0) : objB o = partsB o:=by
  simp [objB,verB,hk,h0,h1]
theorem objB_n {o : LObj} (h1 : o.ver ≤ 1000000) (hk : o.kind ≠ 0) : objB o = (partsB o && decide (0 < o.ver)):=by
  have : decide (1 ≤ o.ver) = decide (0 < o.ver):=by rw [Bool.eq_iff_iff]; simp; omega
  simp [objB,verB,hk,h1,this,Bool.and_comm]
set_option maxHeartbeats 1000000 in
theorem l1Obj_any (k v : Int) (s : ByteArray) (a : Option Addr) (n c : Nat) (es : List LEnt) (L U : Nat) (w : World) (hU : U ≤ w.heap.size) (hs : s.size ≤ maxLen) (H : EntsAt w L U a n es) :
    Calls Tryz.prog 140 #[.agg #[.int .i64 k,.int .i64 v,.string s,.slice a n c]] w fun e w'=>e = .returned (.bool (objB ⟨k,v,s,es⟩)) ∧ Below w.heap.size w w':=by
  have hB : ∀ o1,Below w.heap.size w (w.alloc o1):=fun o1=>(Below.refl _ _).alloc (Nat.le_refl _) _
  have hlen:=H.len
  have HL : Hid (n = es.length):=hlen
  clear hlen
  by_cases hv0 : v < 0
  · go_enter Tryz.func140,Tryz.ntmps140
    go_wp2_with fail
    go_ret
    exact ⟨ret_bool (objB_lo (o:=⟨k,v,s,es⟩) hv0).symm,hB _⟩
  by_cases hv1 : 1000000 < v
  · go_enter Tryz.func140,Tryz.ntmps140
    go_wp2_with fail
    go_ret
    exact ⟨ret_bool (objB_hi (o:=⟨k,v,s,es⟩) hv1).symm,hB _⟩
  have hw0 : 0 ≤ v:=by omega
  have hw1 : v ≤ 1000000:=by omega
  have HV0 : Hid (0 ≤ v):=hw0
  have HV1 : Hid (v ≤ 1000000):=hw1
  clear hv0 hv1
  by_cases hk0 : k = 0
  · subst hk0
    cases he : s.toList.isEmpty
    · have HEm : Hid (emp s = false):=he
      go_enter Tryz.func140,Tryz.ntmps140
      go_wp2_with fail
      go_ret
      exact ⟨ret_bool (by rw [objB_0 (o:=⟨0,v,s,es⟩) HV0.out HV1.out rfl]; simp [partsB,HEm.out]),hB _⟩
    · have HEm : Hid (emp s = true):=he
      go_enter Tryz.func140,Tryz.ntmps140
      go_wp2_with fail
      go_ret
      exact ⟨ret_bool (by rw [objB_0 (o:=⟨0,v,s,es⟩) HV0.out HV1.out rfl]; simp only [partsB,HEm.out,← HL.out,nil_eq]; rfl),hB _⟩
  by_cases hk1 : k = 1
  · subst hk1
    cases hb : body s.data.toList
    · have HBy : Hid (body s.data.toList = false):=hb
      clear hb
      go_enter Tryz.func140,Tryz.ntmps140
      go_wp2_with (go_at_call 145; refine (specBody_of HBy.out _ hs).mono ?_; rintro x w1 ⟨rfl,rfl⟩)
      go_ret
      exact ⟨ret_bool (by rw [objB_parts (o:=⟨1,v,s,es⟩) (by simp [partsB,HBy.out])]),hB _⟩
    · have HBy : Hid (body s.data.toList = true):=hb
      clear hb
      by_cases hn : n = 0
      · have t : ((n : Int) == 0) = true:=by simpa using hn
        have HN : Hid (n = 0):=hn
        clear hn
        go_enter Tryz.func140,Tryz.ntmps140
        go_wp2_with (go_at_call 145; refine (specBody_of HBy.out _ hs).mono ?_; rintro x w1 ⟨rfl,rfl⟩)
        go_ret
        exact ⟨ret_bool (by rw [objB_n (o:=⟨1,v,s,es⟩) HV1.out (by simp)]; simp [partsB,HBy.out,nil?,← HL.out,HN.out]),hB _⟩
      · have t : ((n : Int) == 0) = false:=by simpa using hn
        have HN : Hid (n ≠ 0):=hn
        clear hn
        go_enter Tryz.func140,Tryz.ntmps140
        go_wp2_with (go_at_call 145; refine (specBody_of HBy.out _ hs).mono ?_; rintro x w1 ⟨rfl,rfl⟩)
        go_ret
        exact ⟨ret_bool (by rw [objB_parts (o:=⟨1,v,s,es⟩) (by simp [partsB,HBy.out,nil?,← HL.out,HN.out])]),hB _⟩
  by_cases hk2 : k = 2
  · subst hk2
    cases he : s.toList.isEmpty
    · have HEm : Hid (emp s = false):=he
      go_enter Tryz.func140,Tryz.ntmps140
      go_wp2_with fail
      go_ret
      exact ⟨ret_bool (by rw [objB_parts (o:=⟨2,v,s,es⟩) (by simp [partsB,HEm.out])]),hB _⟩
    · have HEm : Hid (emp s = true):=he
      go_enter Tryz.func140,Tryz.ntmps140
      go_wp2_with fail
      refine (specKidsOk _ _ _ _ L U _ (H.below (hB _) hU)).mono ?_
      rintro x w1 ⟨rfl,m,rfl⟩
      cases hkb : kidsB es
      · have HKB : Hid (kidsB es = false):=hkb
        clear hkb
        go_wp2_with fail
        go_ret
        exact ⟨ret_bool (by rw [objB_parts (o:=⟨2,v,s,es⟩) (by simp [partsB,HKB.out])]),(hB _).trans ((Below.drewN _ _).mono (by simp))⟩
      · have HKB : Hid (kidsB es = true):=hkb
        clear hkb
        go_wp2_with fail
        go_ret
        exact ⟨ret_bool (by rw [objB_n (o:=⟨2,v,s,es⟩) HV1.out (by simp)]; simp [partsB,HKB.out,HEm.out]),(hB _).trans ((Below.drewN _ _).mono (by simp))⟩
  · have t0 : (k == 0) = false:=by simpa using hk0
    have t1 : (k == 1) = false:=by simpa using hk1
    have t2 : (k == 2) = false:=by simpa using hk2
    have HK : Hid (k ≠ 0 ∧ k ≠ 1 ∧ k ≠ 2):=⟨hk0,hk1,hk2⟩
    clear hk0 hk1 hk2
    go_enter Tryz.func140,Tryz.ntmps140
    go_wp2_with fail
    go_ret
    exact ⟨ret_bool (by rw [objB_parts (o:=⟨k,v,s,es⟩) (by simp [partsB,HK.out.1,HK.out.2.1,HK.out.2.2])]),hB _⟩
end
end Go.Proofs.YtloopeipheklpaaGreatDoor
