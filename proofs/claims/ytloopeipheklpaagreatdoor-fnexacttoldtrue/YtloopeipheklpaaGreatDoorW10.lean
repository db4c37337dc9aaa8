/- Lemmas that the proofs of this seat share: LayAll, Under. -/
import Derived.Test.YtloopeipheklpaaGreatDoorW09
import Derived.BigRegion
import Derived.WalkMore
import Derived.Deep.DeepCutAuto
namespace Go.Proofs.YtloopeipheklpaaGreatDoor
section
open Go.RowKit
theorem iff_no {p : Prop} (h : ¬ p) : (false = true ↔ p):=⟨(fun e=>by cases e),fun hp=>absurd hp h⟩
def SettleEnd (w : World) (L U lb : Nat) (os : List LObj) (e : Ending) (w' : World) : Prop:=∃ r : Bool,e = .returned (.bool r) ∧ (r = true ↔ Named os) ∧ (r = true → ∃ f,w'.rowIs lb 293 192 f ∧ LayF w L U os f 32 (fun i=>homeIn (flat os) i) (fun i=>nameIn (flat os) i))
set_option maxHeartbeats 2000000 in
theorem settle_any (lb : Nat) (os : List LObj) (L U : Nat) (f0 : Nat → Value) (w : World) (hlen : os.length = 32) (hI : IdsIn os) (hU : U ≤ lb) (hrow0 : w.rowIs lb 293 192 f0) (hlay0 : LayF w L U os f0 32 (fun _=>-1) (fun _=>⟨#[]⟩)) :
    Calls Tryz.prog 228 #[.pointer (some ⟨lb,0,none⟩)] w fun e w'=>SettleEnd w L U lb os e w' ∧ Below lb w w':=by
  have HL : Hid (os.length = 32):=hlen
  have HR0 : Hid (w.rowIs lb 293 192 f0):=hrow0
  clear hlen hrow0
  go_enter Tryz.func228,Tryz.ntmps228
  go_wp2_with fail
  go_loopg [8] 32 (fun g i wr=>∃ j : Nat,j ≤ 32 ∧ Hid (g = 32 - j) ∧ i = .int .i64 j ∧ (∃ f,Hid (wr.rowIs lb 293 192 f ∧ LayF w L U os f 32 (fun i=>homeIn (flat (os.take j)) i) (fun i=>nameIn (flat (os.take j)) i))) ∧ Hid (Live os (flat (os.take j)) ∧ Uniq (flat (os.take j))) ∧ Below lb w wr)
  case atStart=>exact ⟨0,Nat.zero_le _,by show _ = _; omega,rfl,⟨f0,HR0.out,hlay0⟩,⟨fun x hx=>by simp [flat,flatFrom] at hx,by simpa [flat,flatFrom] using uniq_nil⟩,Below.refl _ _⟩
  case round =>
    obtain ⟨j,hj,hk,rfl,⟨f,hf⟩,hq,hb⟩:=hrel
    by_cases hlt : j < 32
    · obtain ⟨o,ka,kn,kc,ho,p0,p1,p2,p3,p4,p5,hks⟩:=hf.out.2 j hlt
      have HO : Hid (os[j]? = some o):=ho
      clear ho p0 p1 p2 p3 p4
      have g5:=hf.out.1.cell (i:=j * 6 + 5) (by omega)
      rw [p5] at g5
      clear p5
      have hlt' : (j : Int) < 32:=by omega
      have hj0 : (0 : Int) ≤ (j : Int):=by omega
      have hkb:=hks.bd
      unfold maxLen at hkb
      have HKL : Hid (kn = o.kids.length):=hks.len
      go_wp2_with fail
      go_loopg [18] kn (fun g i wi=>∃ m : Nat,m ≤ kn ∧ Hid (g = kn - m) ∧ i = .int .i64 m ∧ (∃ f,Hid (wi.rowIs lb 293 192 f ∧ LayF w L U os f 32 (fun i=>homeIn (flat (os.take j) ++ tagged j (o.kids.take m)) i) (fun i=>nameIn (flat (os.take j) ++ tagged j (o.kids.take m)) i))) ∧ Hid (Live os (flat (os.take j) ++ tagged j (o.kids.take m)) ∧ Uniq (flat (os.take j) ++ tagged j (o.kids.take m))) ∧ Below lb w wi)
      case atStart=>exact ⟨0,Nat.zero_le _,by show _ = _; omega,rfl,⟨f,hf.out.1,by simpa [tagged] using hf.out.2⟩,by have:=hq.out; simpa [tagged,Hid] using this,hb⟩
      case round =>
        clear g5 hb hq hf f
        obtain ⟨m,hm,hk2,rfl,⟨f,hf⟩,hq2,hb⟩:=hrel
        by_cases hlt2 : m < kn
        · obtain ⟨b2,off2,ha2,hL2,hbU2,hd⟩:=hks.at_ (by omega)
          subst ha2
          obtain ⟨e,he,hez,hd0,hd1⟩:=hd m hlt2
          obtain ⟨id,hid,hid0⟩ : ∃ id : Nat,e.id = id ∧ id < 32:=by
            have:=hI o (List.mem_of_getElem? HO.out) e (List.mem_of_getElem? he)
            exact ⟨e.id.toNat,by omega,by omega⟩
          rw [hid] at hd1
          have HE : Hid (o.kids[m]? = some e ∧ e.id = id):=⟨he,hid⟩
          clear he hd hid
          rw [← hb.cell (by simp; omega)] at hd0 hd1
          obtain ⟨o2,ka2,kn2,kc2,ho2,p0,p1,p2,p3,p4,p5,hks2⟩:=hf.out.2 id hid0
          have g0:=hf.out.1.cell (i:=id * 6) (by omega)
          have g1:=hf.out.1.cell (i:=id * 6 + 1) (by omega)
          have g2:=hf.out.1.cell (i:=id * 6 + 2) (by omega)
          have g3:=hf.out.1.cell (i:=id * 6 + 3) (by omega)
          have z2:=hf.out.1.frozen (id * 6 + 2)
          have z3:=hf.out.1.frozen (id * 6 + 3)
          rw [p0] at g0
          rw [p1] at g1
          rw [p2] at g2
          rw [p3] at g3
          have HO2 : Hid (kindOf os id = o2.kind):=kindOf_at ho2
          clear ho2 p0 p1 p2 p3 p4 p5 hks2
          have hid1 : (0 : Int) ≤ (id : Int):=by omega
          have hid2 : (id : Int) < 32:=by omega
          have hlt2' : (m : Int) < (kn : Int):=by omega
          have hlw : lb < wr.heap.size:=hf.out.1.lt
          have hbw : b2 < wr.heap.size:=by omega
          generalize hP : flat (os.take j) ++ tagged j (o.kids.take m) = P at hf hq2 g2 g3
          have HP : Hid (flat (os.take j) ++ tagged j (o.kids.take m) = P):=hP
          clear hP
          by_cases hlive : o2.kind = 0
          · have t1 : (o2.kind != 0) = false:=by simpa using hlive
            have HV : Hid (o2.kind = 0):=hlive
            clear hlive
            go_wp2_with fail
            go_quiet (fail)
            go_wp2_with (go_at_call 241; refine (there_any _ _ _ _ _).mono ?_; rintro x w1 ⟨rfl,rfl⟩)
            go_ret
            exact ⟨⟨false,rfl,iff_no (named_no_live HO.out HE.out.1 (by rw [HE.out.2,Int.toNat_natCast,HO2.out]; exact HV.out)),(fun h=>by cases h)⟩,(by repeat (first | exact hb | refine Below.alloc ?_ (by first | omega | (simp; done) | (simp; omega)) _ | refine below_drewN ?_ _ | refine Below.drew ?_ | refine Below.setCell ?_ (by exact Nat.le_refl _) _))⟩
          · have t1 : (o2.kind != 0) = true:=by simpa using hlive
            have HV : Hid (o2.kind ≠ 0):=hlive
            clear hlive
            by_cases hoff : homeIn P id = -1
            · have t2 : (homeIn P id != -1) = false:=by simpa using hoff
              have HOff : Hid (Off P e.id):=by show Off _ _; rw [HE.out.2]; exact off_iff.1 hoff
              clear hoff
              go_wp2_with fail
              go_quiet (fail)
              go_wp2_with (go_at_call 241; refine (there_any _ _ _ _ _).mono ?_; rintro x w1 ⟨rfl,rfl⟩)
              go_region
              go_wp2_with fail
              go_roundg (kn - (m + 1))
              case measure=>have:=hk2.out; omega
              case rel =>
                have hB1 : Below lb w (wr.alloc (Obj.cells #[Value.string e.name,Value.int IntKind.i64 id] 247)):=hb.alloc (by omega) _
                have r1 : ((((wr.alloc (Obj.cells #[Value.string e.name,Value.int IntKind.i64 id] 247)).drewN nq).setCell ⟨lb,id * 6 + 2,none⟩ (.int .i64 j)).setCell ⟨lb,id * 6 + 3,none⟩ (.string e.name)).rowIs lb 293 192 _:=(World.rowIs.set (w:=(wr.alloc (Obj.cells #[Value.string e.name,Value.int IntKind.i64 id] 247)).drewN nq) (hf.out.1.alloc _) (id * 6 + 2) (.int .i64 j)).set (id * 6 + 3) (.string e.name)
                have hsn : flat (os.take j) ++ tagged j (o.kids.take (m + 1)) = P ++ [(j,e)]:=by rw [tagged_take HE.out.1,← List.append_assoc,HP.out]
                refine ⟨m + 1,by omega,rfl,by go_num,⟨_,(r1.alloc _).drew,?_⟩,?_,(by repeat (first | exact hb | refine Below.alloc ?_ (by first | omega | (simp; done) | (simp; omega)) _ | refine below_drewN ?_ _ | refine Below.drew ?_ | refine Below.setCell ?_ (by exact Nat.le_refl _) _))⟩
                · rw [hsn]
                  refine layF_congr (layF_set hf.out.2 id j e.name) (fun i hi=>?_) (fun i hi=>?_)
                  · rw [homeIn_snoc HOff.out]
                    have:=HE.out.2
                    by_cases hii : i = id
                    · rw [if_pos hii,if_pos (by show e.id = _; omega)]
                    · rw [if_neg hii,if_neg (by show ¬ e.id = _; omega)]
                  · rw [nameIn_snoc HOff.out]
                    have:=HE.out.2
                    by_cases hii : i = id
                    · rw [if_pos hii,if_pos (by show e.id = _; omega)]
                    · rw [if_neg hii,if_neg (by show ¬ e.id = _; omega)]
                · rw [hsn]
                  exact ⟨live_snoc hq2.out.1 (by show kindOf os e.id.toNat ≠ 0; rw [HE.out.2,Int.toNat_natCast,HO2.out]; exact HV.out),uniq_snoc hq2.out.2 HOff.out⟩
            · have t2 : (homeIn P id != -1) = true:=by simpa using hoff
              have HOff : Hid (homeIn P id ≠ -1):=hoff
              clear hoff
              go_wp2_with fail
              go_quiet (fail)
              go_wp2_with (go_at_call 241; refine (there_any _ _ _ _ _).mono ?_; rintro x w1 ⟨rfl,rfl⟩)
              go_ret
              exact ⟨⟨false,rfl,iff_no (named_no_twice HO.out HE.out.1 (by rw [HP.out,HE.out.2]; exact fun h=>HOff.out (homeIn_off h))),(fun h=>by cases h)⟩,(by repeat (first | exact hb | refine Below.alloc ?_ (by first | omega | (simp; done) | (simp; omega)) _ | refine below_drewN ?_ _ | refine Below.drew ?_ | refine Below.setCell ?_ (by exact Nat.le_refl _) _))⟩
        · go_wp2_with fail
          go_roundg (32 - (j + 1))
          case measure=>have:=hk.out; omega
          case rel =>
            have h1:=hf.out
            have h2:=hq2.out
            rw [List.take_of_length_le (l:=o.kids) (i:=m) (by have:=HKL.out; omega)] at h1 h2
            rw [← flat_take HO.out] at h1 h2
            exact ⟨j + 1,by omega,rfl,by go_num,⟨f,h1⟩,h2,hb⟩
    · have hlt' : ¬ (j : Int) < 32:=by omega
      have h1:=hf.out
      have h2:=hq.out
      rw [List.take_of_length_le (by have:=HL.out; omega)] at h1 h2
      have HF : Hid (wr.rowIs lb 293 192 f ∧ LayF w L U os f 32 (fun i=>homeIn (flat os) i) (fun i=>nameIn (flat os) i)):=h1
      have HQ : Hid (Live os (flat os) ∧ Uniq (flat os)):=h2
      clear h1 h2 hf hq
      go_wp2_with fail
      go_loopg [54] 32 (fun g i wi=>∃ m : Nat,m ≤ 32 ∧ Hid (g = 32 - m) ∧ i = .int .i64 m ∧ Hid (∀ i : Nat,1 ≤ i → i < m → kindOf os i ≠ 0 → ¬ Off (flat os) i) ∧ Hid (wi.rowIs lb 293 192 f) ∧ Below lb w wi)
      case atStart=>exact ⟨0,Nat.zero_le _,by show _ = _; omega,rfl,fun i h0 hi=>by omega,HF.out.1,hb⟩
      case round =>
        clear hb
        obtain ⟨m,hm,hk2,rfl,hq2,hrow,hb⟩:=hrel
        by_cases hlt2 : m < 32
        · obtain ⟨o2,ka2,kn2,kc2,ho2,p0,p1,p2,p3,p4,p5,hks2⟩:=HF.out.2 m hlt2
          have g0:=hrow.out.cell (i:=m * 6) (by omega)
          have g1:=hrow.out.cell (i:=m * 6 + 1) (by omega)
          have g2:=hrow.out.cell (i:=m * 6 + 2) (by omega)
          have g3:=hrow.out.cell (i:=m * 6 + 3) (by omega)
          rw [p0] at g0
          rw [p1] at g1
          rw [p2] at g2
          rw [p3] at g3
          have HO2 : Hid (kindOf os m = o2.kind):=kindOf_at ho2
          clear ho2 p0 p1 p2 p3 p4 p5 hks2
          have hlw : lb < wr.heap.size:=hrow.out.lt
          have hm0 : (0 : Int) ≤ (m : Int):=by omega
          have hlt2' : (m : Int) < 32:=by omega
          by_cases hm1 : m = 0
          · have t1 : ((m : Int) != 0) = false:=by simpa using hm1
            have HM : Hid (m = 0):=hm1
            clear hm1
            go_wp2_with fail
            go_roundg (32 - (m + 1))
            case measure=>have:=hk2.out; omega
            case rel=>exact ⟨m + 1,by omega,rfl,by go_num,fun i h0 hi=>by have:=HM.out; omega,hrow.out,hb⟩
          · have t1 : ((m : Int) != 0) = true:=by simpa using hm1
            have HM : Hid (m ≠ 0):=hm1
            clear hm1
            by_cases hlive : o2.kind = 0
            · have t2 : (o2.kind != 0) = false:=by simpa using hlive
              have HV : Hid (o2.kind = 0):=hlive
              clear hlive
              go_wp2_with (go_at_call 241; refine (there_any _ _ _ _ _).mono ?_; rintro x w1 ⟨rfl,rfl⟩)
              go_roundg (32 - (m + 1))
              case measure=>have:=hk2.out; omega
              case rel =>
                refine ⟨m + 1,by omega,rfl,by go_num,fun i h0 hi hkd=>?_,hrow.out.alloc _,hb.alloc (by omega) _⟩
                by_cases e : i = m
                · subst e
                  exact absurd (by rw [HO2.out]; exact HV.out) hkd
                · exact hq2.out i h0 (by omega) hkd
            · have t2 : (o2.kind != 0) = true:=by simpa using hlive
              have HV : Hid (o2.kind ≠ 0):=hlive
              clear hlive
              by_cases hoff : homeIn (flat os) m = -1
              · have t3 : (homeIn (flat os) m == -1) = true:=by simpa using hoff
                have HOff : Hid (Off (flat os) m):=off_iff.1 hoff
                clear hoff
                go_wp2_with (go_at_call 241; refine (there_any _ _ _ _ _).mono ?_; rintro x w1 ⟨rfl,rfl⟩)
                go_ret
                exact ⟨⟨false,rfl,iff_no (fun hn=>hn.2.2 m (by have:=HM.out; omega) hlt2 (by rw [HO2.out]; exact HV.out) HOff.out),(fun h=>by cases h)⟩,hb.alloc (by omega) _⟩
              · have t3 : (homeIn (flat os) m == -1) = false:=by simpa using hoff
                have HOff : Hid (homeIn (flat os) m ≠ -1):=hoff
                clear hoff
                go_wp2_with (go_at_call 241; refine (there_any _ _ _ _ _).mono ?_; rintro x w1 ⟨rfl,rfl⟩)
                go_roundg (32 - (m + 1))
                case measure=>have:=hk2.out; omega
                case rel =>
                  refine ⟨m + 1,by omega,rfl,by go_num,fun i h0 hi hkd=>?_,hrow.out.alloc _,hb.alloc (by omega) _⟩
                  by_cases e : i = m
                  · subst e
                    exact fun h=>HOff.out (homeIn_off h)
                  · exact hq2.out i h0 (by omega) hkd
        · have hlt2' : ¬ (m : Int) < 32:=by omega
          go_wp2_with fail
          go_ret
          exact ⟨⟨true,rfl,⟨fun _=>⟨HQ.out.1,HQ.out.2,fun i h0 hi=>hq2.out i h0 (by omega)⟩,fun _=>rfl⟩,fun _=>⟨f,hrow.out,HF.out.2⟩⟩,hb⟩
end
section
open Go.RowKit
theorem climb_snoc (t : List LObj) : ∀ (k : Nat) (id : Int),climb t (k + 1) id = if 0 < climb t k id then homeIn (flat t) (climb t k id) else climb t k id
  | 0,id=>by
    unfold climb
    by_cases h : 0 < id
    · rw [if_pos h,if_pos (by simpa [climb] using h)]; rfl
    · rw [if_neg h,if_neg (by simpa [climb] using h)]
  | k + 1,id=>by
    by_cases h : 0 < id
    · rw [climb_step t (k + 1) h,climb_step t k h]
      exact climb_snoc t k _
    · rw [climb_stop t (k + 1 + 1) h,climb_stop t (k + 1) h,if_neg h]
theorem climb_zero {t : List LObj} {k : Nat} {id : Int} (h : climb t k id = 0) : ∀ m,k ≤ m → climb t m id = 0:=by
  intro m hm
  induction m with
  | zero => obtain rfl : k = 0:=by omega
            exact h
  | succ m ih =>
    by_cases e : k = m + 1
    · subst e; exact h
    · rw [climb_snoc,ih (by omega)]; rfl
theorem dir_live {t : List LObj} (h : ∀ (i : Nat) o,t[i]? = some o → objB o = true) {i k : Nat} {o : LObj} {e : LEnt} (ho : t[i]? = some o) (he : o.kids[k]? = some e) : kindOf t i ≠ 0:=by
  rw [kindOf_at ho]
  intro hk
  have h1:=h i o ho
  unfold objB at h1
  rw [Bool.and_eq_true] at h1
  have h2:=h1.2
  unfold partsB at h2
  rw [if_pos hk] at h2
  have : o.kids.length ≠ 0:=by have:=(List.getElem?_eq_some_iff.1 he).1; omega
  simp [nil?,this] at h2
theorem mem_flatFrom {d : Nat} {l : List LObj} {x : Nat × LEnt} (h : x ∈ flatFrom d l) : ∃ (i : Nat) (o : LObj) (k : Nat),l[i]? = some o ∧ o.kids[k]? = some x.2 ∧ x.1 = d + i:=by
  induction l generalizing d with
  | nil=>simp [flatFrom] at h
  | cons y l ih =>
    simp only [flatFrom,List.mem_append] at h
    rcases h with h | h
    · unfold tagged at h
      obtain ⟨e,he,rfl⟩:=List.mem_map.1 h
      obtain ⟨k,hk⟩:=List.getElem?_of_mem he
      exact ⟨0,y,k,rfl,hk,rfl⟩
    · obtain ⟨i,o,k,h1,h2,h3⟩:=ih h
      exact ⟨i + 1,o,k,by simpa using h1,h2,by omega⟩
theorem home_in {t : List LObj} (hall : ∀ (i : Nat) o,t[i]? = some o → objB o = true) {id : Int} (h : ¬ Off (flat t) id) : ∃ d : Nat,homeIn (flat t) id = d ∧ d < t.length ∧ kindOf t d ≠ 0:=by
  unfold homeIn
  cases hf : (flat t).find? (fun x=>x.2.id == id) with
  | none =>
    exfalso
    apply h
    intro x hx
    have:=List.find?_eq_none.1 hf x hx
    simpa using this
  | some x =>
    obtain ⟨i,o,k,h1,h2,h3⟩:=mem_flatFrom (List.mem_of_find?_eq_some hf)
    refine ⟨x.1,rfl,?_,?_⟩
    · rw [h3,Nat.zero_add]; exact (List.getElem?_eq_some_iff.1 h1).1
    · rw [h3,Nat.zero_add]; exact dir_live hall h1 h2
theorem climb_in {t : List LObj} (hlen : t.length = 32) (hall : ∀ (i : Nat) o,t[i]? = some o → objB o = true) (hn : Named t) {i : Nat} (hi : i < 32) (hl : kindOf t i ≠ 0) : ∀ k,∃ d : Nat,climb t k i = d ∧ d < 32 ∧ kindOf t d ≠ 0
  | 0=>⟨i,rfl,hi,hl⟩
  | k + 1=>by
    obtain ⟨d,h1,h2,h3⟩:=climb_in hlen hall hn hi hl k
    rw [climb_snoc,h1]
    by_cases h0 : 0 < (d : Int)
    · rw [if_pos h0]
      obtain ⟨d',q1,q2,q3⟩:=home_in hall (hn.2.2 d (by omega) h2 h3)
      exact ⟨d',q1,by omega,q3⟩
    · rw [if_neg h0]
      exact ⟨d,rfl,h2,h3⟩
def Comes (os : List LObj) : Prop:=∀ i : Nat,i < 32 → kindOf os i ≠ 0 → climb os 31 i = 0
def ComeEnd (os : List LObj) (e : Ending) : Prop:=∃ r : Bool,e = .returned (.bool r) ∧ (r = true ↔ Comes os)
set_option maxHeartbeats 2000000 in
theorem come_any (lb : Nat) (os : List LObj) (L U : Nat) (f : Nat → Value) (w w0 : World) (hlen : os.length = 32) (hall : ∀ (i : Nat) o,os[i]? = some o → objB o = true) (hn : Named os) (hrow0 : w.rowIs lb 293 192 f) (hlay0 : LayF w0 L U os f 32 (fun i=>homeIn (flat os) i) (fun i=>nameIn (flat os) i)) :
    Calls Tryz.prog 229 #[.pointer (some ⟨lb,0,none⟩)] w fun e w'=>ComeEnd os e ∧ Below w.heap.size w w':=by
  have HALL : Hid (os.length = 32 ∧ (∀ (i : Nat) o,os[i]? = some o → objB o = true) ∧ Named os):=⟨hlen,hall,hn⟩
  have HR0 : Hid (w.rowIs lb 293 192 f):=hrow0
  clear hlen hall hn hrow0
  go_enter Tryz.func229,Tryz.ntmps229
  go_wp2
  go_step3
  go_wp2
  go_step3
  go_wp2
  go_loopg [5] 32 (fun g i wr=>∃ j : Nat,j ≤ 32 ∧ Hid (g = 32 - j) ∧ i = .int .i64 j ∧ Hid (∀ i : Nat,i < j → kindOf os i ≠ 0 → climb os 31 i = 0) ∧ Hid (wr.rowIs lb 293 192 f) ∧ Below w.heap.size w wr)
  case atStart=>exact ⟨0,Nat.zero_le _,by show _ = _; omega,rfl,fun i hi=>by omega,HR0.out,Below.refl _ _⟩
  case round =>
    obtain ⟨j,hj,hk,rfl,hq,hrow,hb⟩:=hrel
    by_cases hlt : j < 32
    · obtain ⟨o,ka,kn,kc,ho,p0,p1,p2,p3,p4,p5,hks⟩:=hlay0 j hlt
      have g0:=hrow.out.cell (i:=j * 6) (by omega)
      have g1:=hrow.out.cell (i:=j * 6 + 1) (by omega)
      have g2:=hrow.out.cell (i:=j * 6 + 2) (by omega)
      have g3:=hrow.out.cell (i:=j * 6 + 3) (by omega)
      rw [p0] at g0
      rw [p1] at g1
      rw [p2] at g2
      rw [p3] at g3
      have HO : Hid (kindOf os j = o.kind):=kindOf_at ho
      clear ho p0 p1 p2 p3 p4 p5 hks
      have hlw : lb < wr.heap.size:=hrow.out.lt
      have hlt' : (j : Int) < 32:=by omega
      have hj0 : (0 : Int) ≤ (j : Int):=by omega
      by_cases hlive : o.kind = 0
      · have t2 : (o.kind != 0) = false:=by simpa using hlive
        have HV : Hid (o.kind = 0):=hlive
        clear hlive
        go_wp2_with (go_at_call 241; refine (there_any _ _ _ _ _).mono ?_; rintro x w1 ⟨rfl,rfl⟩)
        go_roundg (32 - (j + 1))
        case measure=>have:=hk.out; omega
        case rel =>
          refine ⟨j + 1,by omega,rfl,by go_num,fun i hi hkd=>?_,hrow.out.alloc _,hb.alloc hb.size _⟩
          by_cases e : i = j
          · subst e
            exact absurd (by rw [HO.out]; exact HV.out) hkd
          · exact hq.out i (by omega) hkd
      · have t2 : (o.kind != 0) = true:=by simpa using hlive
        have HV : Hid (kindOf os j ≠ 0):=by show _ ≠ _; rw [HO.out]; exact hlive
        clear hlive
        go_wp2_with (go_at_call 241; refine (there_any _ _ _ _ _).mono ?_; rintro x w1 ⟨rfl,rfl⟩)
        go_loopg [4,17] 32 (fun g d i wi=>∃ m : Nat,m ≤ 32 ∧ Hid (g = 32 - m) ∧ i = .int .i64 m ∧ (∃ x : Nat,d = .int .i64 x ∧ x < 32 ∧ Hid (climb os m j = x ∧ kindOf os x ≠ 0 ∧ (m = 0 ∨ climb os (m - 1) j ≠ 0))) ∧ Hid (wi.rowIs lb 293 192 f) ∧ Below w.heap.size w wi)
        case atStart=>exact ⟨0,Nat.zero_le _,by show _ = _; omega,rfl,⟨j,rfl,hlt,rfl,HV.out,.inl rfl⟩,hrow.out.alloc _,hb.alloc hb.size _⟩
        case round =>
          clear g0 g1 g2 g3 hb hlw
          have hk0:=hk
          clear hk
          obtain ⟨m,hm,hk,rfl,⟨x,rfl,hx32,hx⟩,hrow2,hb⟩:=hrel
          by_cases hlt2 : m < 32
          · have hlt2' : (m : Int) < 32:=by omega
            by_cases hx0 : x = 0
            · have HX : Hid (climb os m j = 0):=by show _ = _; rw [hx.out.1,hx0]; rfl
              have t3 : ((x : Int) == 0) = true:=by simpa using hx0
              clear hx0 hx
              go_wp2_with fail
              go_roundg (32 - (j + 1))
              case measure=>have:=hk0.out; omega
              case rel =>
                refine ⟨j + 1,by omega,rfl,by go_num,fun i hi hkd=>?_,hrow2.out,hb⟩
                by_cases e : i = j
                · subst e
                  exact climb_zero HX.out 31 (by omega)
                · exact hq.out i (by omega) hkd
            · have t3 : ((x : Int) == 0) = false:=by simpa using hx0
              have HX0 : Hid (0 < (x : Int)):=by show _ < _; omega
              clear hx0
              obtain ⟨o2,ka2,kn2,kc2,ho2,p0,p1,p2,p3,p4,p5,hks2⟩:=hlay0 x hx32
              have g2:=hrow2.out.cell (i:=x * 6 + 2) (by omega)
              rw [p2] at g2
              dsimp only at g2
              clear ho2 p0 p1 p2 p3 p4 p5 hks2
              obtain ⟨d',q1,q2,q3⟩:=climb_in HALL.out.1 HALL.out.2.1 HALL.out.2.2 hlt HV.out (m + 1)
              have hh : homeIn (flat os) x = d':=by
                have h1:=climb_snoc os m j
                rw [hx.out.1,if_pos HX0.out,q1] at h1
                exact h1.symm
              rw [hh] at g2
              have Q : Hid (climb os (m + 1) j = d' ∧ kindOf os d' ≠ 0):=⟨q1,q3⟩
              clear hh q1 q3
              have hx1 : (0 : Int) ≤ (x : Int):=by omega
              have hx2 : (x : Int) < 32:=by omega
              go_wp2_with fail
              go_roundg (32 - (m + 1))
              case measure=>have:=hk.out; omega
              case rel =>
                refine ⟨m + 1,by omega,rfl,by go_num,⟨d',rfl,q2,Q.out.1,Q.out.2,.inr ?_⟩,hrow2.out,hb⟩
                show climb os m j ≠ 0
                rw [hx.out.1]
                have:=HX0.out
                omega
          · have hlt2' : ¬ (m : Int) < 32:=by omega
            have hm32 : m = 32:=by omega
            have HN : Hid (¬ Comes os):=by
              intro hc
              have h1:=hc j hlt HV.out
              rcases hx.out.2.2 with h2 | h2
              · omega
              · rw [hm32] at h2
                exact h2 h1
            clear hm32
            go_wp2_with fail
            first | rw [Exit.noGoto_ret] | skip
            go_ret
            exact ⟨⟨false,rfl,iff_no HN.out⟩,hb⟩
    · have hlt' : ¬ (j : Int) < 32:=by omega
      go_wp2_with fail
      first | rw [Exit.noGoto_ret] | skip
      go_ret
      exact ⟨⟨true,rfl,⟨fun _=>fun i hi=>hq.out i (by omega),fun _=>rfl⟩⟩,hb⟩
end
section
theorem pigeon : ∀ (n : Nat) (f : Nat → Nat),(∀ k,k ≤ n → 1 ≤ f k ∧ f k ≤ n) → ∃ a b,a < b ∧ b ≤ n ∧ f a = f b
  | 0,f,h=>by have:=h 0 (Nat.le_refl _); omega
  | n + 1,f,h=>by
    by_cases hk : ∃ k,k ≤ n ∧ f k = f (n + 1)
    · obtain ⟨k,hk,e⟩:=hk
      exact ⟨k,n + 1,by omega,Nat.le_refl _,e⟩
    · have hne : ∀ k,k ≤ n → f k ≠ f (n + 1):=fun k hk' e=>hk ⟨k,hk',e⟩
      have hv:=h (n + 1) (Nat.le_refl _)
      obtain ⟨a,b,h1,h2,h3⟩:=pigeon n (fun k=>if f (n + 1) < f k then f k - 1 else f k) (fun k hk'=>by
        have h1:=h k (by omega)
        have h2:=hne k hk'
        by_cases hlt : f (n + 1) < f k
        · rw [if_pos hlt]; omega
        · rw [if_neg hlt]; omega)
      refine ⟨a,b,h1,by omega,?_⟩
      have ha:=hne a (by omega)
      have hb:=hne b (by omega)
      by_cases la : f (n + 1) < f a
      · rw [if_pos la] at h3
        by_cases lb : f (n + 1) < f b
        · rw [if_pos lb] at h3; omega
        · rw [if_neg lb] at h3; omega
      · rw [if_neg la] at h3
        by_cases lb : f (n + 1) < f b
        · rw [if_pos lb] at h3; omega
        · rw [if_neg lb] at h3; omega
theorem climb_add (t : List LObj) (r : Nat) : ∀ (k : Nat) (id : Int),climb t (k + r) id = climb t r (climb t k id)
  | 0,id=>by rw [Nat.zero_add]; rfl
  | k + 1,id=>by
    by_cases h : 0 < id
    · rw [show k + 1 + r = k + r + 1 by omega,climb_step t (k + r) h,climb_step t k h]
      exact climb_add t r k _
    · rw [climb_stop t (k + 1 + r) h,climb_stop t (k + 1) h,climb_stop t r h]
theorem climb_short {t : List LObj} (hlen : t.length = 32) (hall : ∀ (i : Nat) o,t[i]? = some o → objB o = true) (hn : Named t) {i : Nat} (hi : i < 32) (hl : kindOf t i ≠ 0) (h : climb t 32 i = 0) : climb t 31 i = 0:=by
  apply Classical.byContradiction
  intro h31
  have hd : ∀ k,climb t k i = ((climb t k i).toNat : Nat) ∧ (climb t k i).toNat < 32:=fun k=>by
    obtain ⟨d,h1,h2,_⟩:=climb_in hlen hall hn hi hl k
    rw [h1]; simpa using h2
  have hnz : ∀ k,k ≤ 31 → climb t k i ≠ 0:=fun k hk e=>h31 (climb_zero e 31 hk)
  obtain ⟨a,b,h1,h2,h3⟩:=pigeon 31 (fun k=>(climb t k i).toNat) (fun k hk=>by
    have q1:=hd k
    have q2:=hnz k hk
    omega)
  have e : climb t a i = climb t b i:=by rw [(hd a).1,(hd b).1]; rw [h3]
  have h4:=climb_add t (32 - b) b i
  rw [← e,← climb_add,show b + (32 - b) = 32 by omega,h] at h4
  exact h31 (climb_zero h4.symm 31 (by omega))
theorem cnt_zero {p : List (Nat × LEnt)} {id : Int} : cnt p id = 0 ↔ Off p id:=by
  unfold cnt Off
  rw [List.countP_eq_zero]
  constructor
  · intro h x hx; have:=h x hx; simpa using this
  · intro h x hx; have:=h x hx; simpa using this
theorem split_first {p : List (Nat × LEnt)} {id : Int} (h : ¬ Off p id) : ∃ pre x post,p = pre ++ x :: post ∧ Off pre id ∧ x.2.id = id:=by
  induction p with
  | nil=>exact absurd (off_nil id) h
  | cons y l ih =>
    by_cases hy : y.2.id = id
    · exact ⟨[],y,l,rfl,off_nil id,hy⟩
    · have : ¬ Off l id:=fun hl=>h (by
        have:=off_append.2 ⟨off_one.2 hy,hl⟩
        simpa using this)
      obtain ⟨pre,x,post,rfl,h1,h2⟩:=ih this
      exact ⟨y :: pre,x,post,rfl,by have:=off_append.2 ⟨off_one.2 hy,h1⟩; simpa using this,h2⟩
theorem cnt_uniq {p : List (Nat × LEnt)} {id : Int} (hu : Uniq p) (h : ¬ Off p id) : cnt p id = 1:=by
  obtain ⟨pre,x,post,rfl,h1,h2⟩:=split_first h
  have h3 : Off post id:=by
    apply Classical.byContradiction
    intro hn
    obtain ⟨pre',y,post',rfl,h4,h5⟩:=split_first hn
    have:=hu (pre ++ x :: pre') y post' (by simp)
    exact this x (by simp) (by rw [h2,h5])
  rw [show pre ++ x :: post = pre ++ ([x] ++ post) by simp,cnt_append,cnt_append,cnt_one,if_pos h2,cnt_zero.2 h1,cnt_zero.2 h3]
theorem uniq_cnt {p : List (Nat × LEnt)} (h : ∀ x ∈ p,cnt p x.2.id ≤ 1) : Uniq p:=by
  intro pre x post e
  apply Classical.byContradiction
  intro hn
  have h1:=h x (by rw [e]; simp)
  have h2 : cnt pre x.2.id ≠ 0:=fun h0=>hn (cnt_zero.1 h0)
  rw [e,show pre ++ x :: post = pre ++ ([x] ++ post) by simp,cnt_append,cnt_append,cnt_one,if_pos rfl] at h1
  omega
def ImplOk (t : List LObj) : Prop:=t.length = 32 ∧ (∀ (i : Nat) o,t[i]? = some o → objB o = true) ∧ kindOf t 0 = 2 ∧ Named t ∧ Comes t
theorem flat_ids {t : List LObj} (hi : IdsIn t) {x : Nat × LEnt} (hx : x ∈ flat t) : ∃ k : Nat,x.2.id = k ∧ 1 ≤ k ∧ k < 32:=by
  obtain ⟨i,o,k,h1,h2,_⟩:=mem_flatFrom hx
  have:=hi o (List.mem_of_getElem? h1) x.2 (List.mem_of_getElem? h2)
  exact ⟨x.2.id.toNat,by omega,by omega,by omega⟩
theorem specOk_iff (t : List LObj) : specOk t = true ↔ ImplOk t:=by
  constructor
  · intro h
    unfold specOk at h
    rw [Bool.and_eq_true,Bool.and_eq_true,Bool.and_eq_true,decide_eq_true_eq,decide_eq_true_eq,List.all_eq_true,List.all_eq_true] at h
    obtain ⟨⟨⟨h1,h2⟩,h3⟩,h4⟩:=h
    have hall : ∀ (i : Nat) o,t[i]? = some o → objB o = true:=fun i o ho=>h3 o (List.mem_of_getElem? ho)
    have hat : ∀ i,1 ≤ i → i < 32 → specAt t i = true:=fun i h0 hi=>by
      have:=h4 (i - 1) (by simp; omega)
      rwa [show i - 1 + 1 = i by omega] at this
    have hids:=ids_of_ok hall
    have hcl : ∀ i : Nat,1 ≤ i → i < 32 → kindOf t i ≠ 0 → cnt (flat t) i = 1 ∧ topB t i = true:=fun i h0 hi hk=>by
      have:=hat i h0 hi
      rw [specAt_live hk,Bool.and_eq_true,decide_eq_true_eq] at this
      exact this
    have hlive : Live t (flat t):=fun x hx=>by
      obtain ⟨k,e,k1,k2⟩:=flat_ids hids hx
      rw [e,Int.toNat_natCast]
      intro hk
      have:=hat k k1 k2
      rw [specAt_none hk,decide_eq_true_eq] at this
      exact cnt_zero.1 this x hx e
    have hn : Named t:=⟨hlive,uniq_cnt (fun x hx=>by
      obtain ⟨k,e,k1,k2⟩:=flat_ids hids hx
      have:=hlive x hx
      rw [e,Int.toNat_natCast] at this
      rw [e,(hcl k k1 k2 this).1]
      exact Nat.le_refl _),fun i h0 hi hk ho=>by
        have:=(hcl i h0 hi hk).1
        rw [cnt_zero.2 ho] at this
        cases this⟩
    refine ⟨h1,hall,h2,hn,fun i hi hk=>?_⟩
    by_cases h0 : i = 0
    · subst h0
      exact climb_stop t 31 (by simp)
    · have:=(hcl i (by omega) hi hk).2
      unfold topB at this
      exact climb_short h1 hall hn hi hk (by simpa using this)
  · rintro ⟨h1,h2,h3,h4,h5⟩
    refine specOk_yes h1 h3 h2 (fun i h0 hi=>?_)
    by_cases hk : kindOf t i = 0
    · rw [specAt_none hk,decide_eq_true_eq]
      rw [cnt_zero]
      intro x hx e
      have:=h4.1 x hx
      rw [e,Int.toNat_natCast] at this
      exact this hk
    · rw [specAt_live hk,Bool.and_eq_true,decide_eq_true_eq]
      refine ⟨cnt_uniq h4.2.1 (h4.2.2 i h0 hi hk),?_⟩
      unfold topB
      have:=climb_zero (h5 i hi hk) 32 (by omega)
      simpa using this
theorem specOk_no {t : List LObj} (h : ¬ ImplOk t) : specOk t = false:=by
  cases hs : specOk t
  · rfl
  · exact absurd ((specOk_iff t).1 hs) h
end
section
open Go.RowKit
def LayEnd (w : World) (L U : Nat) (os : List LObj) (e : Ending) (w' : World) : Prop :=
  (e = .returned (.tuple #[.pointer none,.bool false]) ∧ specOk os = false) ∨
  (∃ lb f,e = .returned (.tuple #[.pointer (some ⟨lb,0,none⟩),.bool true]) ∧ specOk os = true ∧ w.heap.size ≤ lb ∧ w'.rowIs lb 293 192 f ∧ LayF w L U os f 32 (fun i=>homeIn (flat os) i) (fun i=>nameIn (flat os) i))
theorem LayF.below {w w' : World} {L U : Nat} {os : List LObj} {f : Nat → Value} {j : Nat} {h : Nat → Int} {nm : Nat → ByteArray} (hf : LayF w L U os f j h nm) {B : Nat} (hb : Below B w w') (hU : U ≤ B) : LayF w' L U os f j h nm:=by
  intro i hi
  obtain ⟨o,ka,kn,kc,ho,q0,q1,q2,q3,q4,q5,hk⟩:=hf i hi
  exact ⟨o,ka,kn,kc,ho,q0,q1,q2,q3,q4,q5,hk.below hb hU⟩
theorem LayF.back {w w' : World} {L U : Nat} {os : List LObj} {f : Nat → Value} {j : Nat} {h : Nat → Int} {nm : Nat → ByteArray} (hf : LayF w' L U os f j h nm) {B : Nat} (hb : Below B w w') (hU : U ≤ B) : LayF w L U os f j h nm:=by
  intro i hi
  obtain ⟨o,ka,kn,kc,ho,q0,q1,q2,q3,q4,q5,hk⟩:=hf i hi
  refine ⟨o,ka,kn,kc,ho,q0,q1,q2,q3,q4,q5,hk.len,hk.bd,fun hn=>?_⟩
  obtain ⟨b,off,ha,hL,hbU,hc⟩:=hk.at_ hn
  refine ⟨b,off,ha,hL,hbU,fun m hm=>?_⟩
  obtain ⟨e,he,hs,h0,h1⟩:=hc m hm
  rw [hb.cell (by simp; omega)] at h0 h1
  exact ⟨e,he,hs,h0,h1⟩
theorem node_cells {wz : World} {lb j : Nat} {f : Nat → Value} {v0 v1 v2 v3 v4 v5 : Value} (h : wz.rowIs lb 293 192 (putNode f j v0 v1 v2 v3 v4 v5)) (hj : j < 32) :
    wz.cell? ⟨lb,j * 6,none⟩ = some v0 ∧ wz.cell? ⟨lb,j * 6 + 1,none⟩ = some v1 ∧ wz.cell? ⟨lb,j * 6 + 2,none⟩ = some v2 ∧ wz.cell? ⟨lb,j * 6 + 3,none⟩ = some v3 ∧ wz.cell? ⟨lb,j * 6 + 4,none⟩ = some v4 ∧ wz.cell? ⟨lb,j * 6 + 5,none⟩ = some v5 :=
  ⟨by rw [h.cell (i:=j * 6) (by omega)]; simp [putNode],by rw [h.cell (i:=j * 6 + 1) (by omega)]; simp [putNode],by rw [h.cell (i:=j * 6 + 2) (by omega)]; simp [putNode],by rw [h.cell (i:=j * 6 + 3) (by omega)]; simp [putNode],by rw [h.cell (i:=j * 6 + 4) (by omega)]; simp [putNode],by rw [h.cell (i:=j * 6 + 5) (by omega)]; simp [putNode]⟩
set_option maxHeartbeats 2000000 in
theorem layOut_any (a : Option Addr) (n c : Nat) (os : List LObj) (L U : Nat) (w : World) (hU : U ≤ w.heap.size) (H : ObjsAt w L U a n os) :
    Calls Tryz.prog 200 #[.agg #[.slice a n c]] w fun e w'=>LayEnd w L U os e w' ∧ Below w.heap.size w w':=by
  by_cases hn : n = 32
  · subst hn
    have hB : ∀ o1 o2,Below w.heap.size w ((w.alloc o1).alloc o2):=fun o1 o2=>((Below.refl _ _).alloc (Nat.le_refl _) _).alloc (by simp) _
    obtain ⟨b,off,ha,hL,hbU,hc⟩:=H.at_ (by omega)
    subst ha
    have hlen:=H.len
    have HL : Hid (os.length = 32):=hlen.symm
    clear hlen
    obtain ⟨f0,hf0⟩:=rowIs96 (w.alloc (.cells #[.slice (some ⟨b,off,none⟩) 32 c] 26))
    have HF0 : Hid (((w.alloc (.cells #[.slice (some ⟨b,off,none⟩) 32 c] 26)).alloc (.cells Tryz.zeroCells293 293)).rowIs (w.heap.size + 1) 293 192 f0):=by
      show World.rowIs _ _ _ _ _
      simpa using hf0
    clear hf0
    go_enter Tryz.func200,Tryz.ntmps200
    go_wp2_with fail
    go_loopg [16] 32 (fun g i wr=>∃ j : Nat,j ≤ 32 ∧ Hid (g = 32 - j) ∧ i = .int .i64 j ∧ (∃ f,Hid (wr.rowIs (w.heap.size + 1) 293 192 f ∧ LayF w L U os f j (fun _=>-1) (fun _=>⟨#[]⟩))) ∧ Hid (∀ (i : Nat) o,i < j → os[i]? = some o → objB o = true) ∧ Below w.heap.size w wr)
    case atStart=>exact ⟨0,Nat.zero_le _,by show _ = _; omega,rfl,⟨f0,HF0.out,fun i hi=>by omega⟩,fun i o hi=>by omega,hB _ _⟩
    case round =>
      obtain ⟨j,hj,hk,rfl,⟨f,hf⟩,hq,hb⟩:=hrel
      by_cases hlt : j < 32
      · obtain ⟨o,ka,kn,kc,ho,hsz,hd0,hd1,hd2,hd3,hks⟩:=hc j hlt
        have HO : Hid (os[j]? = some o):=ho
        clear ho hc
        rw [← hb.cell (by simp; omega)] at hd0 hd1 hd2 hd3
        have hlt' : (j : Int) < 32:=by omega
        have hj0 : (0 : Int) ≤ (j : Int):=by omega
        have hbl : b < wr.heap.size:=by have:=hb.size; omega
        have hrl:=hf.out.1.lt
        go_upto_region 7 with fail
        go_cut [] (fun wx=>Hid (wx.rowIs (w.heap.size + 1) 293 192 (putNode f j (.int .i64 o.kind) (.int .i64 o.ver) (.int .i64 (-1)) (.string ⟨#[]⟩) (.string o.text) (.slice ka kn kc))) ∧ Below w.heap.size w wx)
        case first =>
          have hA : Below w.heap.size w (wr.alloc (Obj.cells #[.int .i64 o.kind,.int .i64 o.ver,.string o.text,.slice ka kn kc] 165)):=hb.alloc hb.size _
          have hr1 : (wr.alloc (Obj.cells #[.int .i64 o.kind,.int .i64 o.ver,.string o.text,.slice ka kn kc] 165)).rowIs (w.heap.size + 1) 293 192 f:=hf.out.1.alloc _
          have HR1 : Hid ((wr.alloc (Obj.cells #[.int .i64 o.kind,.int .i64 o.ver,.string o.text,.slice ka kn kc] 165)).rowIs (w.heap.size + 1) 293 192 f):=hr1
          clear hr1
          go_region_with (go_at_call 225; go_must (refine (nodeOf_any _ _ _ _ _ _ _).mono ?_; rintro x w2 ⟨rfl,hb2⟩; have hr2 : w2.rowIs (w.heap.size + 1) 293 192 f:=HR1.out.drew.of_block (hb2.block _ (by simp; omega)); have g0:=hr2.cell (i:=j * 6) (by omega); have g1:=hr2.cell (i:=j * 6 + 1) (by omega); have g2:=hr2.cell (i:=j * 6 + 2) (by omega); have g3:=hr2.cell (i:=j * 6 + 3) (by omega); have g4:=hr2.cell (i:=j * 6 + 4) (by omega); have g5:=hr2.cell (i:=j * 6 + 5) (by omega); have z0:=hr2.frozen (j * 6); have z1:=hr2.frozen (j * 6 + 1); have z2:=hr2.frozen (j * 6 + 2); have z3:=hr2.frozen (j * 6 + 3); have z4:=hr2.frozen (j * 6 + 4); have z5:=hr2.frozen (j * 6 + 5); have HR2 : Hid (w2.rowIs (w.heap.size + 1) 293 192 f):=hr2; clear hr2))
          all_goals
            go_wp2_with fail
            go_meet
            exact ⟨rowIs_put HR2.out j _ _ _ _ _ _,by
              have hb3 : Below w.heap.size w w2:=(hA.drew).trans (hb2.mono (by simp; omega))
              repeat (first | exact hb3 | refine Below.setCell ?_ (by simp) _)⟩
        case rest =>
          clear hd0 hd1 hd2 hd3 hb hbl hrl
          obtain ⟨hrow,hb⟩:=hcut
          have HF : Hid (LayF w L U os f j (fun _=>-1) (fun _=>⟨#[]⟩)):=hf.out.2
          clear hf
          obtain ⟨g0,g1,g2,g3,g4,g5⟩:=node_cells hrow.out hlt
          go_wp2_with fail
          refine (verOk_any _ _ _ _ _).mono ?_
          rintro x w3 ⟨rfl,hb3⟩
          have hrow3:=hrow.out.of_block (hb3.block _ hrow.out.lt)
          obtain ⟨k0,k1,k2,k3,k4,k5⟩:=node_cells hrow3 hlt
          have HROW3 : Hid (w3.rowIs (w.heap.size + 1) 293 192 (putNode f j (.int .i64 o.kind) (.int .i64 o.ver) (.int .i64 (-1)) (.string ⟨#[]⟩) (.string o.text) (.slice ka kn kc))):=hrow3
          have hb4 : Below w.heap.size w w3:=hb.trans (hb3.mono hb.size)
          clear hrow3 g0 g1 g2 g3 g4 g5 hb hb3 hrow
          cases hv : verB o.kind o.ver
          · have HV : Hid (verB o.kind o.ver = false):=hv
            clear hv
            go_wp2_with fail
            go_ret2
            exact ⟨.inl ⟨rfl,specOk_obj HO.out (by unfold objB; rw [HV.out,Bool.false_and])⟩,hb4⟩
          · have HV : Hid (verB o.kind o.ver = true):=hv
            clear hv
            go_wp2_with fail
            refine (partsOk_any _ _ _ _ _ _ _ _ _ L U _ (by have:=hb4.size; omega) hsz (hks.below hb4 hU)).mono ?_
            rintro x w5 ⟨rfl,hb5⟩
            have hrow5:=HROW3.out.of_block (hb5.block _ HROW3.out.lt)
            have HROW5 : Hid (w5.rowIs (w.heap.size + 1) 293 192 (putNode f j (.int .i64 o.kind) (.int .i64 o.ver) (.int .i64 (-1)) (.string ⟨#[]⟩) (.string o.text) (.slice ka kn kc))):=hrow5
            have hb6 : Below w.heap.size w w5:=hb4.trans (hb5.mono hb4.size)
            clear hrow5 k0 k1 k2 k3 k4 k5 hb4 hb5 HROW3
            have hpe : partsB ⟨o.kind,o.ver,o.text,o.kids⟩ = partsB o:=rfl
            rw [hpe]
            clear hpe
            cases hp : partsB o
            · have HP : Hid (partsB o = false):=hp
              clear hp
              go_wp2_with fail
              go_ret2
              exact ⟨.inl ⟨rfl,specOk_obj HO.out (objB_parts HP.out)⟩,hb6⟩
            · have HP : Hid (partsB o = true):=hp
              clear hp
              go_wp2_with fail
              go_roundg (32 - (j + 1))
              case measure=>have:=hk.out; omega
              case rel =>
                refine ⟨j + 1,by omega,rfl,by go_num,⟨_,HROW5.out,layF_put HF.out HO.out hks⟩,fun i o' hi ho'=>?_,hb6⟩
                by_cases e : i = j
                · subst e
                  rw [HO.out] at ho'
                  cases ho'
                  unfold objB
                  rw [HV.out,HP.out]
                  rfl
                · exact hq.out i o' (by omega) ho'
      · have hj32 : j = 32:=by omega
        subst hj32
        have hall : ∀ (i : Nat) o,os[i]? = some o → objB o = true:=fun i o ho=>hq.out i o (by have:=(List.getElem?_eq_some_iff.1 ho).1; have:=HL.out; omega) ho
        have HALL : Hid (∀ (i : Nat) o,os[i]? = some o → objB o = true):=hall
        have HI : Hid (IdsIn os):=ids_of_ok hall
        clear hall hq
        obtain ⟨o0,ka0,kn0,kc0,ho0,p0,p1,p2,p3,p4,p5,hks0⟩:=hf.out.2 0 (by omega)
        have g0:=hf.out.1.cell (i:=0) (by omega)
        simp only [Nat.zero_mul] at p0
        rw [p0] at g0
        have HO0 : Hid (kindOf os 0 = o0.kind):=kindOf_at ho0
        clear ho0 p0 p1 p2 p3 p4 p5 hks0
        by_cases hk0 : o0.kind = 2
        · have t0 : (o0.kind != 2) = false:=by simpa using hk0
          have HK0 : Hid (kindOf os 0 = 2):=by show _ = _; rw [HO0.out]; exact hk0
          clear hk0
          go_wp2_with fail
          refine (settle_any (w.heap.size + 1) os L U f _ HL.out HI.out (by omega) hf.out.1 (hf.out.2.below hb hU)).mono ?_
          rintro x w2 ⟨⟨r,rfl,hr1,hr2⟩,hb2⟩
          have hb3 : Below w.heap.size w w2:=hb.trans (hb2.mono (by omega))
          cases r
          · have HN : Hid (¬ Named os):=fun h=>by cases hr1.2 h
            clear hr1 hr2
            go_wp2_with fail
            go_ret2
            exact ⟨.inl ⟨rfl,specOk_no (fun h=>HN.out h.2.2.2.1)⟩,hb3⟩
          · have HN : Hid (Named os):=hr1.1 rfl
            obtain ⟨f2,hf2,hlay2⟩:=hr2 rfl
            clear hr1 hr2
            have hlay3 : LayF w L U os f2 32 (fun i=>homeIn (flat os) i) (fun i=>nameIn (flat os) i):=hlay2.back hb hU
            have HF2 : Hid (w2.rowIs (w.heap.size + 1) 293 192 f2 ∧ LayF w L U os f2 32 (fun i=>homeIn (flat os) i) (fun i=>nameIn (flat os) i)):=⟨hf2,hlay3⟩
            clear hf2 hlay2 hlay3
            go_wp2_with fail
            refine (come_any (w.heap.size + 1) os L U f2 _ w HL.out HALL.out HN.out HF2.out.1 HF2.out.2).mono ?_
            rintro x w4 ⟨⟨r,rfl,hr1⟩,hb4⟩
            have hb5 : Below w.heap.size w w4:=hb3.trans (hb4.mono hb3.size)
            have HR4 : Hid (w4.rowIs (w.heap.size + 1) 293 192 f2):=HF2.out.1.of_block (hb4.block _ HF2.out.1.lt)
            cases r
            · have HC : Hid (¬ Comes os):=fun h=>by cases hr1.2 h
              clear hr1
              go_wp2_with fail
              go_ret2
              exact ⟨.inl ⟨rfl,specOk_no (fun h=>HC.out h.2.2.2.2)⟩,hb5⟩
            · have HC : Hid (Comes os):=hr1.1 rfl
              clear hr1
              go_wp2_with fail
              go_ret2
              exact ⟨.inr ⟨w.heap.size + 1,f2,rfl,(specOk_iff os).2 ⟨HL.out,HALL.out,HK0.out,HN.out,HC.out⟩,by omega,HR4.out,HF2.out.2⟩,hb5⟩
        · have t0 : (o0.kind != 2) = true:=by simpa using hk0
          have HK0 : Hid (kindOf os 0 ≠ 2):=by show _ ≠ _; rw [HO0.out]; exact hk0
          clear hk0
          go_wp2_with fail
          go_ret2
          exact ⟨.inl ⟨rfl,specOk_top HK0.out⟩,hb⟩
  · have t0 : ((n : Int) != 32) = true:=by simp; omega
    have HN : Hid (os.length ≠ 32):=by rw [← H.len]; exact hn
    clear hn
    go_enter Tryz.func200,Tryz.ntmps200
    go_wp2_with fail
    go_ret2
    exact ⟨.inl ⟨rfl,specOk_len HN.out⟩,(Below.refl _ _).alloc (Nat.le_refl _) _⟩
end
section
open Go.RowKit
structure One (w wx : World) (v : Value) : Prop where
  below : Below w.heap.size w wx
  c0 : wx.cell? ⟨w.heap.size,0,none⟩ = some v
  size : w.heap.size < wx.heap.size
theorem One.next {w wx wy : World} {v : Value} (h : One w wx v) (k : Below wx.heap.size wx wy) : One w wy v :=
  ⟨h.below.trans (k.mono h.below.size),by rw [k.cell (by have:=h.size; simp; omega)]; exact h.c0,by have:=k.size; have:=h.size; omega⟩
theorem implTreeOk (a : Option Addr) (n c : Nat) (os : List LObj) (L U : Nat) (w : World) (hU : U ≤ w.heap.size) (H : ObjsAt w L U a n os) :
    Calls Tryz.prog 158 #[.agg #[.slice a n c]] w fun e w'=>e = .returned (.bool (specOk os)) ∧ Below w.heap.size w w':=by
  have hB : ∀ o1,Below w.heap.size w (w.alloc o1):=fun o1=>(Below.refl _ _).alloc (Nat.le_refl _) _
  go_enter Tryz.func158,Tryz.ntmps158
  go_wp2_with fail
  refine (layOut_any _ _ _ _ L U _ (by simp; omega) (H.below (hB _) hU)).mono ?_
  rintro x w1 ⟨hl,hb⟩
  have hb1 : Below w.heap.size w w1:=(hB _).trans (hb.mono (by simp))
  rcases hl with ⟨rfl,hs⟩ | ⟨lb,f,rfl,hs,_⟩
  · have HS : Hid (specOk os = false):=hs
    clear hs
    go_wp2_with fail
    go_ret
    exact ⟨ret_bool HS.out.symm,hb1⟩
  · have HS : Hid (specOk os = true):=hs
    clear hs
    go_wp2_with fail
    go_ret
    exact ⟨ret_bool HS.out.symm,hb1⟩
def hasB (os : List LObj) (id : Int) : Bool:=decide (0 ≤ id) && decide (id < 32) && (kindOf os id.toNat != 0)
set_option maxHeartbeats 400000 in
theorem has_any (lb : Nat) (os : List LObj) (L U : Nat) (f : Nat → Value) (id : Int) (w w0 : World) (h : Nat → Int) (nm : Nat → ByteArray) (hrow : w.rowIs lb 293 192 f) (hlay : LayF w0 L U os f 32 h nm) :
    Calls Tryz.prog 300 #[.pointer (some ⟨lb,0,none⟩),.int .i64 id] w fun e w'=>e = .returned (.bool (hasB os id)) ∧ Below w.heap.size w w':=by
  by_cases h0 : 0 ≤ id
  · by_cases h1 : id < 32
    · obtain ⟨k,rfl⟩:=Int.eq_ofNat_of_zero_le h0
      have hk : k < 32:=by omega
      obtain ⟨o,ka,kn,kc,ho,p0,p1,p2,p3,p4,p5,hks⟩:=hlay k hk
      have g0:=hrow.cell (i:=k * 6) (by omega)
      have g1:=hrow.cell (i:=k * 6 + 1) (by omega)
      have g2:=hrow.cell (i:=k * 6 + 2) (by omega)
      have g3:=hrow.cell (i:=k * 6 + 3) (by omega)
      rw [p0] at g0
      rw [p1] at g1
      rw [p2] at g2
      rw [p3] at g3
      have HO : Hid (kindOf os k = o.kind):=kindOf_at ho
      clear ho p0 p1 p2 p3 p4 p5 hks hrow hlay
      go_enter Tryz.func300,Tryz.ntmps300
      go_wp2_with (first | (go_at_call 241; refine (there_any _ _ _ _ _).mono ?_; rintro x w1 ⟨rfl,rfl⟩) | (go_at_call 213; refine (isObject_yes (by omega) (by omega) _).mono ?_; rintro x w1 ⟨rfl,rfl⟩))
      go_ret
      exact ⟨ret_bool (by simp [hasB,HO.out]; omega),(Below.refl _ _).alloc (Nat.le_refl _) _⟩
    · clear hrow hlay
      go_enter Tryz.func300,Tryz.ntmps300
      go_wp2_with (go_at_call 213; refine (isObject_no (by omega) _).mono ?_; rintro x w1 ⟨rfl,rfl⟩)
      go_ret
      exact ⟨ret_bool (by simp [hasB]; omega),Below.refl _ _⟩
  · clear hrow hlay
    go_enter Tryz.func300,Tryz.ntmps300
    go_wp2_with (go_at_call 213; refine (isObject_no (by omega) _).mono ?_; rintro x w1 ⟨rfl,rfl⟩)
    go_ret
    exact ⟨ret_bool (by simp [hasB]; omega),Below.refl _ _⟩
def under (os : List LObj) (dir : Int) : Nat → Int → Bool
  | 0,_=>false
  | k + 1,id=>if 0 ≤ id then (if id = dir then true else under os dir k (homeIn (flat os) id)) else false
theorem under_neg (os : List LObj) (dir : Int) (k : Nat) {id : Int} (h : ¬ 0 ≤ id) : under os dir k id = false:=by
  cases k with
  | zero=>rfl
  | succ k=>unfold under; rw [if_neg h]
theorem under_same (os : List LObj) (dir : Int) (k : Nat) {id : Int} (h : 0 ≤ id) (e : id = dir) : under os dir (k + 1) id = true:=by
  unfold under; rw [if_pos h,if_pos e]
theorem under_step (os : List LObj) (dir : Int) (k : Nat) {id : Int} (h : 0 ≤ id) (e : id ≠ dir) : under os dir (k + 1) id = under os dir k (homeIn (flat os) id):=by
  rw [under,if_pos h,if_neg e]
def underV (os : List LObj) (id dir : Int) : Bool:=specOk os && hasB os id && under os dir 33 id
theorem underV_no {os : List LObj} (h : specOk os = false) (id dir : Int) : underV os id dir = false:=by simp [underV,h]
theorem underV_has {os : List LObj} {id : Int} (h : hasB os id = false) (dir : Int) : underV os id dir = false:=by simp [underV,h]
theorem underV_yes {os : List LObj} {id : Int} (hs : specOk os = true) (h : hasB os id = true) (dir : Int) : underV os id dir = under os dir 33 id:=by simp [underV,h,hs]
theorem homeIn_top {os : List LObj} (hs : specOk os = true) : homeIn (flat os) 0 = -1:=by
  have hi:=(specOk_iff os).1 hs
  refine homeIn_off fun x hx e=>?_
  obtain ⟨k,e1,k1,k2⟩:=flat_ids (ids_of_ok hi.2.1) hx
  omega
set_option maxHeartbeats 1000000 in
theorem implUnder (a : Option Addr) (n c : Nat) (os : List LObj) (L U : Nat) (id dir : Int) (w : World) (hU : U ≤ w.heap.size) (H : ObjsAt w L U a n os) :
    Calls Tryz.prog 299 #[.agg #[.slice a n c],.int .i64 id,.int .i64 dir] w fun e w'=>e = .returned (.bool (underV os id dir)) ∧ Below w.heap.size w w':=by
  have hB : ∀ o1,Below w.heap.size w (w.alloc o1):=fun o1=>(Below.refl _ _).alloc (Nat.le_refl _) _
  go_enter Tryz.func299,Tryz.ntmps299
  go_wp2_with fail
  refine (layOut_any _ _ _ _ L U _ (by simp; omega) (H.below (hB _) hU)).mono ?_
  rintro x w1 ⟨hl,hb⟩
  have hb1 : Below w.heap.size w w1:=(hB _).trans (hb.mono (by simp))
  clear hb
  rcases hl with ⟨rfl,hs⟩ | ⟨lb,f,rfl,hs,_,hrow,hlay⟩
  · have HS : Hid (specOk os = false):=hs
    clear hs
    go_wp2_with fail
    go_ret
    exact ⟨ret_bool (underV_no HS.out id dir).symm,hb1⟩
  · have HS : Hid (specOk os = true):=hs
    have HR : Hid (w1.rowIs lb 293 192 f):=hrow
    clear hs hrow
    go_wp2_with fail
    refine (has_any lb os L U f id _ _ _ _ HR.out hlay).mono ?_
    rintro x w2 ⟨rfl,hb2⟩
    have hb3 : Below w.heap.size w w2:=hb1.trans (hb2.mono hb1.size)
    cases hh : hasB os id
    · have HH : Hid (hasB os id = false):=hh
      clear hh
      go_wp2_with fail
      go_ret
      exact ⟨ret_bool (underV_has HH.out dir).symm,hb3⟩
    · have HH : Hid (hasB os id = true):=hh
      obtain ⟨k,rfl,hk⟩ : ∃ k : Nat,id = k ∧ k < 32:=by
        simp [hasB] at hh
        exact ⟨id.toNat,by omega,by omega⟩
      have HK : Hid (kindOf os k ≠ 0):=by
        show _ ≠ _
        simp [hasB] at hh
        exact hh.2
      clear hh
      have HR2 : Hid (w2.rowIs lb 293 192 f):=HR.out.of_block (hb2.block _ HR.out.lt)
      have HOK : Hid (ImplOk os):=(specOk_iff os).1 HS.out
      clear hb2 hb1
      go_wp2_with fail
      go_loopg [9] 33 (fun g cur wr=>((∃ m d : Nat,m ≤ 31 ∧ Hid (g = 33 - m) ∧ cur = .int .i64 d ∧ d < 32 ∧ Hid (climb os m k = d ∧ under os dir 33 k = under os dir (33 - m) d)) ∨ (g = 0 ∧ cur = .int .i64 (-1) ∧ Hid (under os dir 33 k = false))) ∧ wr = w2)
      case atStart=>exact ⟨.inl ⟨0,k,by omega,by show _ = _; omega,rfl,hk,rfl,rfl⟩,rfl⟩
      case round =>
        obtain ⟨hrel,rfl⟩:=hrel
        rcases hrel with ⟨m,d,hm,hg,rfl,hd,hq⟩ | ⟨rfl,rfl,hq⟩
        · have t0 : ((d : Int) != -1) = true:=by simp
          by_cases hdd : (d : Int) = dir
          · have t1 : ((d : Int) == dir) = true:=by simpa using hdd
            have HD : Hid ((d : Int) = dir):=hdd
            clear hdd
            go_wp2_with fail
            go_ret
            exact ⟨ret_bool (by rw [underV_yes HS.out HH.out,hq.out.2,show 33 - m = (32 - m) + 1 by omega,under_same os dir (32 - m) (by omega) HD.out]),hb3⟩
          · have t1 : ((d : Int) == dir) = false:=by simpa using hdd
            have HD : Hid ((d : Int) ≠ dir):=hdd
            clear hdd
            obtain ⟨o,ka,kn,kc,ho,p0,p1,p2,p3,p4,p5,hks⟩:=hlay d hd
            have g2:=HR2.out.cell (i:=d * 6 + 2) (by omega)
            rw [p2] at g2
            dsimp only at g2
            clear ho p0 p1 p2 p3 p4 p5 hks
            have hd0 : (0 : Int) ≤ (d : Int):=by omega
            have hd1 : (d : Int) < 32:=by omega
            have hst : under os dir 33 k = under os dir (32 - m) (homeIn (flat os) d):=by
              rw [hq.out.2,show 33 - m = (32 - m) + 1 by omega,under_step os dir (32 - m) hd0 HD.out]
            by_cases hz : d = 0
            · have HZ : Hid (under os dir 33 k = false):=by
                show _ = _
                rw [hst,hz]
                show under os dir (32 - m) (homeIn (flat os) 0) = false
                rw [homeIn_top HS.out]
                exact under_neg os dir _ (by omega)
              have e0 : homeIn (flat os) (d : Int) = -1:=by rw [hz]; exact homeIn_top HS.out
              rw [e0] at g2
              clear e0 hst hz
              go_wp2_with fail
              go_roundg 0
              case measure=>have:=hg.out; omega
              case rel=>exact ⟨.inr ⟨rfl,rfl,HZ.out⟩,rfl⟩
            · have hm30 : m + 1 ≤ 31:=by
                apply Classical.byContradiction
                intro hn
                have : m = 31:=by omega
                subst this
                have h1:=HOK.out.2.2.2.2 k hk HK.out
                rw [hq.out.1] at h1
                omega
              obtain ⟨d',q1,q2,q3⟩:=climb_in HOK.out.1 HOK.out.2.1 HOK.out.2.2.2.1 hk HK.out (m + 1)
              have hh : homeIn (flat os) d = d':=by
                have h1:=climb_snoc os m k
                rw [hq.out.1,if_pos (by omega),q1] at h1
                exact h1.symm
              rw [hh] at g2 hst
              have Q : Hid (climb os (m + 1) k = d' ∧ under os dir 33 k = under os dir (33 - (m + 1)) d'):=⟨q1,by rw [hst,show 33 - (m + 1) = 32 - m by omega]⟩
              clear hh q1 hst hz
              go_wp2_with fail
              go_roundg (33 - (m + 1))
              case measure=>have:=hg.out; omega
              case rel=>exact ⟨.inl ⟨m + 1,d',by omega,rfl,rfl,q2,Q.out⟩,rfl⟩
        · go_wp2_with fail
          go_ret
          exact ⟨ret_bool (by rw [underV_yes HS.out HH.out,hq.out]),hb3⟩
set_option maxHeartbeats 1000000 in
theorem l1Under_any (a : Option Addr) (n c : Nat) (os : List LObj) (L U : Nat) (id dir : Int) (w : World) (hU : U ≤ w.heap.size) (H : ObjsAt w L U a n os) :
    Calls Tryz.prog 211 #[.agg #[.slice a n c],.int .i64 id,.int .i64 dir] w fun e w'=>e = .returned (.bool (under os dir 33 id)) ∧ Below w.heap.size w w':=by
  have hB : ∀ o1,Below w.heap.size w (w.alloc o1):=fun o1=>(Below.refl _ _).alloc (Nat.le_refl _) _
  go_enter Tryz.func211,Tryz.ntmps211
  go_wp2_with fail
  go_loopg [1,7] 33 (fun g d i wr=>∃ j : Nat,j ≤ 33 ∧ Hid (g = 33 - j) ∧ i = .int .i64 j ∧ (∃ x : Int,d = .int .i64 x ∧ Hid (under os dir 33 id = under os dir (33 - j) x)) ∧ One w wr (.slice a n c))
  case atStart=>exact ⟨0,Nat.zero_le _,by show _ = _; omega,rfl,⟨id,rfl,rfl⟩,hB _,by simp [go_sem],by simp⟩
  case round =>
    obtain ⟨j,hj,hk,rfl,⟨x,rfl,hq⟩,hO⟩:=hrel
    have hx:=hO.c0
    by_cases hlt : j ≤ 32
    · have hlt' : (j : Int) ≤ 32:=by omega
      by_cases hx0 : 0 ≤ x
      · by_cases hxd : x = dir
        · have t1 : (x == dir) = true:=by simpa using hxd
          have HD : Hid (x = dir):=hxd
          clear hxd
          go_wp2_with fail
          go_ret
          exact ⟨ret_bool (by rw [hq.out,show 33 - j = (32 - j) + 1 by omega,under_same os dir (32 - j) hx0 HD.out]),hO.below⟩
        · have t1 : (x == dir) = false:=by simpa using hxd
          have HD : Hid (x ≠ dir):=hxd
          clear hxd
          go_wp2_with fail
          refine (l1Home_any _ _ _ _ L U _ _ (by have:=hO.below.size; omega) (H.below hO.below hU)).mono ?_
          rintro y w1 ⟨rfl,rfl⟩
          go_wp2_with fail
          go_roundg (33 - (j + 1))
          case measure=>have:=hk.out; omega
          case rel =>
            exact ⟨j + 1,by omega,rfl,by go_num,⟨_,rfl,by show _ = _; rw [hq.out,show 33 - j = (33 - (j + 1)) + 1 by omega,under_step os dir (33 - (j + 1)) hx0 HD.out]⟩,hO.next ((Below.refl _ _).alloc (Nat.le_refl _) _)⟩
      · go_wp2_with fail
        go_ret
        exact ⟨ret_bool (by rw [hq.out,under_neg os dir (33 - j) (by omega)]),hO.below⟩
    · have hlt' : ¬ (j : Int) ≤ 32:=by omega
      go_wp2_with fail
      go_ret
      have : 33 - j = 0:=by omega
      exact ⟨ret_bool (by rw [hq.out,this]; rfl),hO.below⟩
end
end Go.Proofs.YtloopeipheklpaaGreatDoor
