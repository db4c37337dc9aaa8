/- Lemmas that the proofs of this seat share: Fresh, TrialB, Path, Facts2, OkF, IsA. -/
import Derived.Test.YtnolbfijcnldjaaGreatDoorW08
import Derived.Test.YtnolbfijcnldjaaGreatDoorW05
import Derived.Test.YtnolbfijcnldjaaGreatDoorW15
import Derived.Test.YtnolbfijcnldjaaGreatDoorW10
import Derived.Test.YtnolbfijcnldjaaGreatDoorW14
import Derived.Test.YtnolbfijcnldjaaGreatDoorW01
import Derived.LaidEql
import Derived.Stop.Asserts
import Derived.RowKitTokens
import Derived.Test.YtnolbfijcnldjaaGreatDoorW14
/- Fresh numbers: contracts of the program and of the specification. -/
namespace Go.Proofs.YtnolbfijcnldjaaGreatDoor
open Go.RowKit

/-- Whether a number was never anybody's. -/
def freshV (os : List LObj) (id : Int) : Bool :=
  specOk os && decide (1 ≤ id) && idB id && (match os[id.toNat]? with | some o => decide (o.kind = 0) && decide (o.ver = 0) | none => false)
theorem freshV_no {os : List LObj} (h : specOk os = false) (id : Int) : freshV os id = false := by simp [freshV, h]
theorem freshV_out {os : List LObj} {id : Int} (h : id < 1 ∨ 32 ≤ id) : freshV os id = false := by
  have : (decide (1 ≤ id) && idB id) = false := by
    rcases h with h | h
    · have : ¬ 1 ≤ id := by omega
      simp [this]
    · have : ¬ id < 32 := by omega
      simp [idB, this]
  simp only [freshV, Bool.and_assoc] at *
  rw [← Bool.and_assoc (decide (1 ≤ id)), this]; simp
theorem freshV_at {os : List LObj} {k : Nat} {o : LObj} (h : specOk os = true) (h0 : 1 ≤ k) (h1 : k < 32) (ho : os[k]? = some o) : freshV os k = (decide (o.kind = 0) && decide (o.ver = 0)) := by
  have a : decide (1 ≤ (k : Int)) = true := by simp; omega
  have b : idB (k : Int) = true := by simp [idB]; omega
  simp [freshV, h, ho, b]; omega

set_option maxHeartbeats 1000000 in
theorem specFresh (a : Option Addr) (n c : Nat) (os : List LObj) (L U : Nat) (id : Int) (w : World) (hS : Sizes os 1048576) (hU : U ≤ w.heap.size) (H : ObjsAt w L U a n os) :
    Calls Tryz.prog 32 #[.agg #[.slice a n c], .int .i64 id] w fun e w' => e = .returned (.bool (freshV os id)) ∧ Below w.heap.size w w' := by
  go_enter Tryz.func32, Tryz.ntmps32
  go_wp2_with fail
  refine (specTreeOk _ _ _ _ L U _ hS (by simp; omega) (H.below ((Below.refl _ _).alloc (Nat.le_refl _) _) hU)).mono ?_
  rintro x w1 ⟨rfl, hb⟩
  have hO := One.start hb
  have hx1 := hO.c0
  clear hb
  cases hs : specOk os
  · have HS : Hid (specOk os = false) := hs
    clear hs
    go_wp2_with fail
    go_ret
    exact ⟨ret_bool (freshV_no HS.out id).symm, hO.below⟩
  · have HS : Hid (specOk os = true) := hs
    have HOK : Hid (ImplOk os) := (specOk_iff os).1 hs
    clear hs
    by_cases h1 : 1 ≤ id
    · by_cases h2 : id < 32
      · obtain ⟨k, rfl⟩ := Int.eq_ofNat_of_zero_le (show 0 ≤ id by omega)
        have hk : k < 32 := by omega
        have hn : n = 32 := by rw [H.len]; exact HOK.out.1
        subst hn
        obtain ⟨b, off, ha, hL, hbU, hc⟩ := H.at_ (by omega)
        subst ha
        obtain ⟨o, ka, kn, kc, ho, hsz, hd0, hd1, _⟩ := hc k hk
        rw [← hO.below.cell (by simp; omega)] at hd0 hd1
        have HV : Hid (freshV os k = (decide (o.kind = 0) && decide (o.ver = 0))) := freshV_at HS.out (by omega) hk ho
        clear ho hc
        have hk0 : (0 : Int) ≤ (k : Int) := by omega
        by_cases hlive : o.kind = 0
        · have t1 : (o.kind == 0) = true := by simpa using hlive
          have HW : Hid (freshV os k = (o.ver == 0)) := by show _ = _; rw [HV.out]; simp [hlive]; rfl
          clear hlive HV
          go_wp2_with (go_at_call 88; refine (l1Id_yes _ hk0 h2 _).mono ?_; rintro x w2 ⟨rfl, rfl⟩)
          go_ret
          exact ⟨ret_bool HW.out.symm, hO.below⟩
        · have t1 : (o.kind == 0) = false := by simpa using hlive
          have HW : Hid (freshV os k = false) := by show _ = _; rw [HV.out]; simp [hlive]
          clear hlive HV
          go_wp2_with (go_at_call 88; refine (l1Id_yes _ hk0 h2 _).mono ?_; rintro x w2 ⟨rfl, rfl⟩)
          go_ret
          exact ⟨ret_bool HW.out.symm, hO.below⟩
      · go_wp2_with (go_at_call 88; refine (l1Id_no _ (by omega) _).mono ?_; rintro x w2 ⟨rfl, rfl⟩)
        go_ret
        exact ⟨ret_bool (freshV_out (.inr (by omega))).symm, hO.below⟩
    · go_wp2_with fail
      go_ret
      exact ⟨ret_bool (freshV_out (.inl (by omega))).symm, hO.below⟩

set_option maxHeartbeats 1000000 in
/-- isFresh of an object that is there. -/
theorem isFresh_any (b off n c : Nat) (k : Nat) (kd vr : Int) (w : World) (hk : k < n) (hb : b < w.heap.size) (h0 : w.cell? ⟨b, off + k * 4, none⟩ = some (.int .i64 kd)) (h1 : w.cell? ⟨b, off + k * 4 + 1, none⟩ = some (.int .i64 vr)) :
    Calls Tryz.prog 79 #[.agg #[.slice (some ⟨b, off, none⟩) n c], .int .i64 k] w fun e w' => e = .returned (.bool (decide (k ≠ 0) && decide (kd = 0) && decide (vr = 0))) ∧ Below w.heap.size w w' := by
  have hkI : (k : Int) < (n : Int) := by omega
  have hk0 : (0 : Int) ≤ (k : Int) := by omega
  by_cases hz : k = 0
  · have t0 : ((k : Int) != 0) = false := by simp [hz]
    have HV : Hid ((decide (k ≠ 0) && decide (kd = 0) && decide (vr = 0)) = false) := by show _ = _; simp [hz]
    clear hz
    go_enter Tryz.func79, Tryz.ntmps79
    go_wp2_with fail
    go_ret
    exact ⟨ret_bool HV.out.symm, (Below.refl _ _).alloc (Nat.le_refl _) _⟩
  · have t0 : ((k : Int) != 0) = true := by simp; omega
    by_cases hlive : kd = 0
    · have t1 : (kd == 0) = true := by simpa using hlive
      have HV : Hid ((decide (k ≠ 0) && decide (kd = 0) && decide (vr = 0)) = (vr == 0)) := by show _ = _; simp [hz, hlive]; rfl
      clear hz hlive
      go_enter Tryz.func79, Tryz.ntmps79
      go_wp2_with fail
      go_ret
      exact ⟨ret_bool HV.out.symm, (Below.refl _ _).alloc (Nat.le_refl _) _⟩
    · have t1 : (kd == 0) = false := by simpa using hlive
      have HV : Hid ((decide (k ≠ 0) && decide (kd = 0) && decide (vr = 0)) = false) := by show _ = _; simp [hlive]
      clear hz hlive
      go_enter Tryz.func79, Tryz.ntmps79
      go_wp2_with fail
      go_ret
      exact ⟨ret_bool HV.out.symm, (Below.refl _ _).alloc (Nat.le_refl _) _⟩

set_option maxHeartbeats 1000000 in
theorem implFresh (a : Option Addr) (n c : Nat) (os : List LObj) (L U : Nat) (id : Int) (w : World) (hU : U ≤ w.heap.size) (H : ObjsAt w L U a n os) :
    Calls Tryz.prog 25 #[.agg #[.slice a n c], .int .i64 id] w fun e w' => e = .returned (.bool (freshV os id)) ∧ Below w.heap.size w w' := by
  go_enter Tryz.func25, Tryz.ntmps25
  go_wp2_with fail
  refine (implTreeOk _ _ _ _ L U _ (by simp; omega) (H.below ((Below.refl _ _).alloc (Nat.le_refl _) _) hU)).mono ?_
  rintro x w1 ⟨rfl, hb⟩
  have hO := One.start hb
  have hx1 := hO.c0
  clear hb
  cases hs : specOk os
  · have HS : Hid (specOk os = false) := hs
    clear hs
    go_wp2_with fail
    go_ret
    exact ⟨ret_bool (freshV_no HS.out id).symm, hO.below⟩
  · have HS : Hid (specOk os = true) := hs
    have HOK : Hid (ImplOk os) := (specOk_iff os).1 hs
    clear hs
    by_cases h1 : 0 ≤ id ∧ id < 32
    · obtain ⟨k, rfl⟩ := Int.eq_ofNat_of_zero_le h1.1
      have hk : k < 32 := by omega
      have hn : n = 32 := by rw [H.len]; exact HOK.out.1
      subst hn
      obtain ⟨b, off, ha, hL, hbU, hc⟩ := H.at_ (by omega)
      subst ha
      obtain ⟨o, ka, kn, kc, ho, hsz, hd0, hd1, _⟩ := hc k hk
      rw [← hO.below.cell (by simp; omega)] at hd0 hd1
      have HI : Hid (idB (k : Int) = true) := by show _ = _; simp [idB]; omega
      have HV : Hid (freshV os k = (decide (k ≠ 0) && decide (o.kind = 0) && decide (o.ver = 0))) := by
        show _ = _
        by_cases hz : k = 0
        · subst hz; rw [freshV_out (.inl (by omega))]; simp
        · rw [freshV_at HS.out (by omega) hk ho]; simp [hz]
      clear ho hc h1
      go_wp2_with (go_at_call 78; refine (isObject_any _ _).mono ?_; rintro x w2 ⟨rfl, rfl⟩; rw [HI.out])
      refine (isFresh_any b off 32 c k o.kind o.ver _ hk (by have := hO.below.size; omega) hd0 hd1).mono ?_
      rintro x w2 ⟨rfl, hb2⟩
      go_wp2_with fail
      go_ret
      exact ⟨ret_bool (by rw [HV.out]; simp), (hO.next hb2).below⟩
    · have HI : Hid (idB id = false) := by show _ = _; simp [idB]; omega
      go_wp2_with (go_at_call 78; refine (isObject_any _ _).mono ?_; rintro x w2 ⟨rfl, rfl⟩; rw [HI.out])
      go_ret
      exact ⟨ret_bool (freshV_out (by omega)).symm, hO.below⟩
end Go.Proofs.YtnolbfijcnldjaaGreatDoor

/- What is done to a trial: asked for a directory and for a name, a turn counted, a name entered and left. -/
namespace Go.Proofs.YtnolbfijcnldjaaGreatDoor
open Go.RowKit

/-- What a change of a tree of one's own leaves: it is one's own still; what is no part of it is as it was; its rows are its old ones, or new. -/
structure DPost (w w' : World) (B b c n : Nat) (os' : List LObj) (vs vs' : Nat → Value) : Prop where
  own : OwnT w' B b c os' vs'
  below : Below B w w'
  kt : Kt w w' b n vs
  sub : ∀ i g, i < n → (vs' i).ownBlock = some g → (vs i).ownBlock = some g ∨ w.heap.size ≤ g
theorem DPost.trans {w w1 w2 : World} {B b c n : Nat} {os1 os2 : List LObj} {vs vs1 vs2 : Nat → Value} (h1 : DPost w w1 B b c n os1 vs vs1) (h2 : DPost w1 w2 B b c n os2 vs1 vs2) : DPost w w2 B b c n os2 vs vs2 := by
  have hs := h1.below.size
  refine ⟨h2.own, h1.below.trans h2.below, fun q hq hne hv => ?_, fun i g hi hg => ?_⟩
  · rw [h2.kt q (by omega) hne (fun i hi e => ?_)]
    · exact h1.kt q hq hne hv
    · rcases h1.sub i q hi e with h | h
      · exact hv i hi h
      · omega
  · rcases h2.sub i g hi hg with h | h
    · exact h1.sub i g hi h
    · exact .inr (by omega)
theorem DPost.same {w w' : World} {B b c n : Nat} {os : List LObj} {vs : Nat → Value} (h : OwnT w B b c os vs) (hB : B ≤ w.heap.size) (hb : Below w.heap.size w w') : DPost w w' B b c n os vs vs :=
  ⟨h.below hb, hb.mono hB, fun q hq _ _ => hb.block q hq, fun _ _ _ h => .inl h⟩

theorem isDir_t (b c n k : Nat) (kd : Int) (w : World) (hk : k < n) (hb : b < w.heap.size) (h0 : w.cell? ⟨b, k * 4, none⟩ = some (.int .i64 kd)) :
    Calls Tryz.prog 224 #[.agg #[.slice (some ⟨b, 0, none⟩) n c], .int .i64 k] w fun e w' => e = .returned (.bool (kd == 2)) ∧ Below w.heap.size w w' := by
  have hkI : (k : Int) < (n : Int) := by omega
  have hk0 : (0 : Int) ≤ (k : Int) := by omega
  go_enter Tryz.func224, Tryz.ntmps224
  go_wp2_with fail
  go_ret
  exact ⟨rfl, (Below.refl _ _).alloc (Nat.le_refl _) _⟩

theorem find_t (b c n k : Nat) (a : Option Addr) (kn kc : Nat) (es : List LEnt) (L U : Nat) (name : ByteArray) (w : World) (hk : k < n) (hb : b < w.heap.size) (h3 : w.cell? ⟨b, k * 4 + 3, none⟩ = some (.slice a kn kc)) (hn : kn ≤ 1048576) (ha : Asc es) (hU : U ≤ w.heap.size) (H : EntsAt w L U a kn es) :
    Calls Tryz.prog 225 #[.agg #[.slice (some ⟨b, 0, none⟩) n c], .int .i64 k, .string name] w fun e w' => e = .returned (.int .i64 (findV es name)) ∧ Below w.heap.size w w' := by
  have hkI : (k : Int) < (n : Int) := by omega
  have hk0 : (0 : Int) ≤ (k : Int) := by omega
  have hA : ∀ o1 : Obj, Below w.heap.size w (w.alloc o1) := fun o1 => (Below.refl _ _).alloc (Nat.le_refl _) _
  go_enter Tryz.func225, Tryz.ntmps225
  go_wp2_with fail
  refine (findKid_any a kn kc es L U name _ hn ha (by simp; omega) (H.below (hA _) hU)).mono ?_
  rintro z w1 ⟨rfl, hb1⟩
  go_wp2_with fail
  go_ret
  exact ⟨rfl, (hA _).trans (hb1.mono (by simp))⟩

theorem turn_t (B b c n j : Nat) (d : LObj) (os : List LObj) (vs : Nat → Value) (w : World) (hn : n = os.length) (hd : os[j]? = some d) (hv0 : -1000000000 ≤ d.ver) (hv1 : d.ver ≤ 1000000000) (hB : B ≤ w.heap.size) (H : OwnT w B b c os vs) :
    Calls Tryz.prog 222 #[.agg #[.slice (some ⟨b, 0, none⟩) n c], .int .i64 j] w fun e w' => e = .returned (.tuple #[]) ∧ DPost w w' B b c n (os.set j { d with ver := d.ver + 1 }) vs vs := by
  have HD : Hid (os[j]? = some d) := hd
  have hlt : j < n := by rw [hn]; exact (List.getElem?_eq_some_iff.1 hd).1
  have hbl := H.lt
  have hc1 : w.cell? ⟨b, j * 4 + 1, none⟩ = some (.int .i64 d.ver) := (H.at_ j d hd).2.2.1
  have hf1 : w.frozen? ⟨b, j * 4 + 1, none⟩ = false := H.frozen _
  have hjI : (j : Int) < (n : Int) := by omega
  have hj0 : (0 : Int) ≤ (j : Int) := by omega
  have HOT : Hid (OwnT w B b c os vs) := H
  clear hd hn H
  go_enter Tryz.func222, Tryz.ntmps222
  go_wp2_with fail
  go_end0
  have hlo := HOT.out.lo
  refine ⟨rfl, (HOT.out.setVer HD.out (d.ver + 1)).alloc _, ((Below.refl B w).setCell hlo _).alloc (by simpa using hB) _, fun q hq hne _ => ?_, fun _ _ _ h => .inl h⟩
  rw [(World.grownBy_alloc _ _ none).block q (by simpa using hq) (by simp)]
  exact Below.heap_setCell _ _ _ q hne

set_option maxHeartbeats 2000000 in
set_option maxRecDepth 20000 in
theorem enter_t (B b c n j : Nat) (d : LObj) (x : LEnt) (os : List LObj) (vs : Nat → Value) (w : World) (hn : n = os.length) (hd : os[j]? = some d) (ha : Asc d.kids) (hkb : d.kids.length ≤ 1000000) (hx : x.name.size ≤ maxLen) (hB : B ≤ w.heap.size) (H : OwnT w B b c os vs) :
    Calls Tryz.prog 226 #[.agg #[.slice (some ⟨b, 0, none⟩) n c], .int .i64 j, .string x.name, .int .i64 x.id] w fun e w' => e = .returned (.tuple #[]) ∧ ∃ vs', DPost w w' B b c n (os.set j { d with kids := putL x d.kids }) vs vs' := by
  have HD : Hid (os[j]? = some d) := hd
  have HN : Hid (n = os.length) := hn
  have hlt : j < n := by rw [hn]; exact (List.getElem?_eq_some_iff.1 hd).1
  have hbl := H.lt
  obtain ⟨_, _, _, _, q3, q5, q6⟩ := H.at_ j d hd
  obtain ⟨a0, c0, hvs⟩ := q5.shape
  obtain ⟨a1, c1, hv1, hE0⟩ := q5.at_ q6
  rw [hvs] at hv1
  simp only [Value.slice.injEq, true_and] at hv1
  obtain ⟨rfl, rfl⟩ := hv1
  obtain ⟨kn, hkn⟩ : ∃ kn, kn = d.kids.length := ⟨_, rfl⟩
  have HKN : Hid (kn = d.kids.length) := hkn
  rw [hvs, ← hkn] at q3
  have HVS : Hid (vs j = .slice a0 kn c0) := by show _ = _; rw [hvs, hkn]
  rw [← hkn] at hE0 hkb
  have hE : Hid (EntsAt w B w.heap.size a0 kn d.kids) := hE0
  have HKV0 : Hid (OwnEnts w B (.slice a0 kn c0) d.kids) := by show OwnEnts _ _ _ _; rw [← HVS.out]; exact q5
  have HNM : Hid (∀ e ∈ d.kids, e.name.size ≤ maxLen) := q6
  have HOT : Hid (OwnT w B b c os vs) := H
  have hfz : w.frozen? ⟨b, j * 4 + 3, none⟩ = false := H.frozen _
  have hnb : (Value.slice a0 kn c0).ownBlock ≠ some b := H.kids_ne (by rw [← HVS.out]; exact q5)
  have hA : ∀ o1 : Obj, Below w.heap.size w (w.alloc o1) := fun o1 => (Below.refl _ _).alloc (Nat.le_refl _) _
  have hjI : (j : Int) < (n : Int) := by omega
  have hj0 : (0 : Int) ≤ (j : Int) := by omega
  clear hd hn q5 q6 hE0 hvs hkn H
  go_enter Tryz.func226, Tryz.ntmps226
  go_wp2_with fail
  refine (place2_any a0 kn c0 d.kids B w.heap.size x.name _ (by omega) ha (by simp) (hE.out.below (hA _) (Nat.le_refl _))).mono ?_
  rintro z w1 ⟨⟨p, pb, rfl, hple, hlow, hhigh⟩, hb1⟩
  have HPL : Hid (Low d.kids x.name p ∧ High d.kids x.name p) := ⟨hlow, hhigh⟩
  have hp0 : p ≤ kn := by rw [HKN.out]; exact hple
  have hbw : Below w.heap.size w w1 := (hA _).trans (hb1.mono (by simp))
  have t0 : w1.cell? ⟨w.heap.size, 0, none⟩ = some (.slice (some ⟨b, 0, none⟩) n c) := by rw [hb1.cell (by simp)]; simp [go_sem]
  have t1 : w1.cell? ⟨b, j * 4 + 3, none⟩ = some (.slice a0 kn c0) := by rw [hbw.cell (by simpa using hbl)]; exact q3
  have t2 : w1.frozen? ⟨b, j * 4 + 3, none⟩ = false := by rw [hbw.frozen (by simpa using hbl)]; exact hfz
  have hz1 : w.heap.size < w1.heap.size := by have := hb1.size; simp at this; omega
  have HKV : Hid (OwnEnts w1 B (.slice a0 kn c0) d.kids) := own_block HKV0.out fun q hq => hbw.block q (World.ownsRow.lt HKV0.out q hq).2
  have hne1 : (Value.slice a0 kn c0).ownBlock ≠ some w.heap.size := fun e => by have := (World.ownsRow.lt HKV0.out _ e).2; omega
  have hne2 := hnb
  have HBW : Hid (Below w.heap.size w w1) := hbw
  clear hple hlow hhigh hb1 hbw hnb hfz q3
  go_wp2_with fail
  go_upto_region 3 with fail
  refine wp_region_held_drew (S := (fun W => W.cell? ⟨w.heap.size, 0, none⟩ = some (.slice (some ⟨b, 0, none⟩) n c))) (by kernel_rfl) ?_ (fun hHeld => ?_)
  · exact t0
  refine listH (l2 := #[false, false, false, false, false, false, false, false, false, false, false, false, false, false]) (by kernel_rfl) ?_
  refine takeH (i := 0) (oi := _) (v := ?vt1x0) 24 #[true, false, false, false, false, false, false, false, false, false, false, false, false, false] rfl (by kernel_rfl) (by kernel_rfl) (by kernel_rfl) rfl (by kernel_rfl) (fun _ _ _ h => h) (Or.inl ⟨by rfl, ?yt1x0⟩) (by assumption) ?rt1x0
  case yt1x0 => (intro w' hSw; (try dsimp only at hSw); have x0 := hSw; go_simp; try with_reducible rfl)
  simp only [Act.put, List.setIfInBounds_toArray, List.set_cons_succ, List.set_cons_zero]
  refine takeH (i := 1) (oi := _) (v := ?vt1x1) 25 #[true, true, false, false, false, false, false, false, false, false, false, false, false, false] rfl (by kernel_rfl) (by kernel_rfl) (by kernel_rfl) rfl (by kernel_rfl) (fun _ _ _ h => h) (Or.inl ⟨by rfl, ?yt1x1⟩) (by assumption) ?rt1x1
  case yt1x1 => (intro w' hSw; (try dsimp only at hSw); have x0 := hSw; go_simp; try with_reducible rfl)
  simp only [Act.put, List.setIfInBounds_toArray, List.set_cons_succ, List.set_cons_zero]
  refine takeH (i := 2) (oi := _) (v := ?vt1x2) 26 #[true, true, true, false, false, false, false, false, false, false, false, false, false, false] rfl (by kernel_rfl) (by kernel_rfl) (by kernel_rfl) rfl (by kernel_rfl) (fun _ _ _ h => h) (Or.inl ⟨by rfl, ?yt1x2⟩) (by assumption) ?rt1x2
  case yt1x2 => (intro w' hSw; (try dsimp only at hSw); have x0 := hSw; go_simp; try with_reducible rfl)
  simp only [Act.put, List.setIfInBounds_toArray, List.set_cons_succ, List.set_cons_zero]
  refine takeH (i := 3) (oi := _) (v := ?vt1x3) 27 #[true, true, true, true, false, false, false, false, false, false, false, false, false, false] rfl (by kernel_rfl) (by kernel_rfl) (by kernel_rfl) rfl (by kernel_rfl) (fun _ _ _ h => h) (Or.inl ⟨by rfl, ?yt1x3⟩) (by assumption) ?rt1x3
  case yt1x3 => (intro w' hSw; (try dsimp only at hSw); have x0 := hSw; go_simp; try with_reducible rfl)
  simp only [Act.put, List.setIfInBounds_toArray, List.set_cons_succ, List.set_cons_zero]
  refine takeH (i := 4) (oi := _) (v := ?vt1x4) 28 #[true, true, true, true, true, false, false, false, false, false, false, false, false, false] rfl (by kernel_rfl) (by kernel_rfl) (by kernel_rfl) rfl (by kernel_rfl) (fun _ _ _ h => h) (Or.inl ⟨by rfl, ?yt1x4⟩) (by assumption) ?rt1x4
  case yt1x4 => (intro w' hSw; (try dsimp only at hSw); have x0 := hSw; go_simp; try with_reducible rfl)
  simp only [Act.put, List.setIfInBounds_toArray, List.set_cons_succ, List.set_cons_zero]
  refine takeH (i := 5) (oi := _) (v := ?vt1x5) 29 #[true, true, true, true, true, true, false, false, false, false, false, false, false, false] rfl (by kernel_rfl) (by kernel_rfl) (by kernel_rfl) rfl (by kernel_rfl) (fun _ _ _ h => h) (Or.inl ⟨by rfl, ?yt1x5⟩) (by assumption) ?rt1x5
  case yt1x5 => (intro w' hSw; (try dsimp only at hSw); have x0 := hSw; go_simp; try with_reducible rfl)
  simp only [Act.put, List.setIfInBounds_toArray, List.set_cons_succ, List.set_cons_zero]
  refine takeH (i := 6) (oi := _) (v := ?vt1x6) 30 #[true, true, true, true, true, true, true, false, false, false, false, false, false, false] rfl (by kernel_rfl) (by kernel_rfl) (by kernel_rfl) rfl (by kernel_rfl) (fun _ _ _ h => h) (Or.inl ⟨by rfl, ?yt1x6⟩) (by assumption) ?rt1x6
  case yt1x6 => (intro w' hSw; (try dsimp only at hSw); have x0 := hSw; go_simp; try with_reducible rfl)
  simp only [Act.put, List.setIfInBounds_toArray, List.set_cons_succ, List.set_cons_zero]
  refine takeH (i := 7) (oi := _) (v := ?vt1x7) 31 #[true, true, true, true, true, true, true, true, false, false, false, false, false, false] rfl (by kernel_rfl) (by kernel_rfl) (by kernel_rfl) rfl (by kernel_rfl) (fun _ _ _ h => h) (Or.inl ⟨by rfl, ?yt1x7⟩) (by assumption) ?rt1x7
  case yt1x7 => (intro w' hSw; (try dsimp only at hSw); have x0 := hSw; go_simp; try with_reducible rfl)
  simp only [Act.put, List.setIfInBounds_toArray, List.set_cons_succ, List.set_cons_zero]
  refine takeH (i := 8) (oi := _) (v := ?vt1x8) 32 #[true, true, true, true, true, true, true, true, true, false, false, false, false, false] rfl (by kernel_rfl) (by kernel_rfl) (by kernel_rfl) rfl (by kernel_rfl) (fun _ _ _ h => h) (Or.inl ⟨by rfl, ?yt1x8⟩) (by assumption) ?rt1x8
  case yt1x8 => (intro w' hSw; (try dsimp only at hSw); have x0 := hSw; go_simp; try with_reducible rfl)
  simp only [Act.put, List.setIfInBounds_toArray, List.set_cons_succ, List.set_cons_zero]
  refine wpAnyH_ready (rs := [9]) (by kernel_rfl) (by simp) ?_
  refine AllReadyH.cons (o := _) rfl (fun K hK => ?_) AllReadyH.nil
  go_simp
  refine hK.out _ _ ?_ (fun hHeld => ?_)
  · exact (by rw [World.cell?_drew, World.grownBy.cell_far (World.grownBy_alloc w1 _ none) _ (by simp; omega) (by simp)]; exact t0)
  clear hK K
  try simp only [Act.put]
  refine listH (l2 := #[true, true, true, true, true, true, true, true, true, true, false, false, false, false]) (by kernel_rfl) ?_
  refine wpAnyH_ready (rs := [10]) (by kernel_rfl) (by simp) ?_
  refine AllReadyH.cons (o := _) rfl (fun K hK => ?_) AllReadyH.nil
  go_simp
  refine (insert_any B a0 kn c0 p d.kids x w1.heap.size ((w1.alloc (Obj.cells #[.string x.name, .int .i64 x.id] 53)).drew) HKN.out hp0 (by omega) (by simp; omega) (own_block HKV.out fun q hq => (World.grownBy_alloc w1 _ none).block q (World.ownsRow.lt HKV.out q hq).2 (by simp)) (heap_alloc_new w1 _) (fun e => by have := (World.ownsRow.lt HKV.out _ e).2; omega)).mono ?_
  rintro e w2 ⟨a', c', rfl, hpost⟩
  have hgr : ((w1.alloc (Obj.cells #[.string x.name, .int .i64 x.id] 53)).drew).grownBy w2 (Value.slice a0 kn c0).ownBlock := hpost.2.1
  have s0 : w2.cell? ⟨w.heap.size, 0, none⟩ = some (.slice (some ⟨b, 0, none⟩) n c) := by rw [hgr.cell_far _ (by simp; omega) (fun e => hne1 e.symm), World.cell?_drew, World.grownBy.cell_far (World.grownBy_alloc w1 _ none) _ (by simp; omega) (by simp)]; exact t0
  have s1 : w2.cell? ⟨b, j * 4 + 3, none⟩ = some (.slice a0 kn c0) := by rw [hgr.cell_far _ (by simp; omega) (fun e => hne2 e.symm), World.cell?_drew, World.grownBy.cell_far (World.grownBy_alloc w1 _ none) _ (by simp; omega) (by simp)]; exact t1
  have s2 : w2.frozen? ⟨b, j * 4 + 3, none⟩ = false := by rw [hgr.frozen_far _ (by simp; omega) (fun e => hne2 e.symm), World.frozen?_drew, World.grownBy.frozen_far (World.grownBy_alloc w1 _ none) _ (by simp; omega) (by simp)]; exact t2
  go_wp2_with fail
  refine hK.out _ _ ?_ (fun hHeld => ?_)
  · exact s0
  clear hK K
  try simp only [Act.put]
  refine listH (l2 := #[true, true, true, true, true, true, true, true, true, true, true, false, false, false]) (by kernel_rfl) ?_
  refine takeH (i := 11) (oi := _) (v := ?vt1x11) 35 #[true, true, true, true, true, true, true, true, true, true, true, true, false, false] rfl (by kernel_rfl) (by kernel_rfl) (by kernel_rfl) rfl (by kernel_rfl) (fun _ _ _ h => h) (Or.inl ⟨by rfl, ?yt1x11⟩) (by assumption) ?rt1x11
  case yt1x11 => (intro w' hSw; (try dsimp only at hSw); have x0 := hSw; go_simp; try with_reducible rfl)
  simp only [Act.put, List.setIfInBounds_toArray, List.set_cons_succ, List.set_cons_zero]
  refine takeH (i := 12) (oi := _) (v := ?vt1x12) 36 #[true, true, true, true, true, true, true, true, true, true, true, true, true, false] rfl (by kernel_rfl) (by kernel_rfl) (by kernel_rfl) rfl (by kernel_rfl) (fun _ _ _ h => h) (Or.inl ⟨by rfl, ?yt1x12⟩) (by assumption) ?rt1x12
  case yt1x12 => (intro w' hSw; (try dsimp only at hSw); have x0 := hSw; go_simp; try with_reducible rfl)
  simp only [Act.put, List.setIfInBounds_toArray, List.set_cons_succ, List.set_cons_zero]
  refine wpAnyH_ready (rs := [13]) (by kernel_rfl) (by simp) ?_
  refine AllReadyH.cons (o := _) rfl (fun K hK => ?_) AllReadyH.nil
  go_simp
  refine hK.out _ _ ?_ (fun hHeld => ?_)
  · exact (by rw [World.cell?_setCell_other _ _ _ _ (by first | (simp; done) | (simp; omega))]; exact s0)
  clear hK K
  try simp only [Act.put]
  refine listH (l2 := #[true, true, true, true, true, true, true, true, true, true, true, true, true, true]) (by kernel_rfl) ?_
  refine wpAnyH_done (by kernel_rfl) ?_ _

  go_wp2_with fail
  go_end0
  have hw0 : w.heap.size ≤ w1.heap.size := HBW.out.size
  have hOT1 : OwnT ((w1.alloc (Obj.cells #[.string x.name, .int .i64 x.id] 53)).drew) B b c os vs := OwnT.of_heap (by rfl) ((HOT.out.below HBW.out).alloc (Obj.cells #[.string x.name, .int .i64 x.id] 53))
  refine ⟨rfl, fun i => if i = j then .slice a' (kn + 1) c' else vs i, ?_, ?_, fun q hq hne hv => ?_, fun i g hi hg => ?_⟩
  · refine hOT1.putKids HD.out hgr (.inr (by rw [HVS.out])) (by rw [putL_of (by rw [← HKN.out]; exact hp0) HPL.out.1 HPL.out.2]; exact hpost.1) (fun e he => ?_) (fun g hg => by rw [HVS.out]; exact hpost.2.2 g hg)
    rcases mem_putL he with rfl | he
    · exact hx
    · exact HNM.out e he
  · exact (below_grown ((HBW.out.mono hB).trans ((Below.refl B w1).alloc (by omega) _).drew) hgr (fun k hk => (World.ownsRow.lt HKV.out k hk).1) (by simp; omega)).setCell HOT.out.lo _
  · rw [Below.heap_setCell _ _ _ q hne, hgr.block q (by simp; omega) (fun e => hv j hlt (by rw [HVS.out]; exact e.symm)), show ((w1.alloc (Obj.cells #[.string x.name, .int .i64 x.id] 53)).drew).heap[q]? = w1.heap[q]? from (World.grownBy_alloc w1 _ none).block q (by omega) (by simp)]
    exact HBW.out.block q hq
  · by_cases hij : i = j
    · simp only [hij, if_true] at hg
      rw [hij, HVS.out]
      rcases hpost.2.2 g hg with h | h
      · exact .inl h
      · exact .inr (by simp at h; omega)
    · simp only [hij, if_false] at hg
      exact .inl hg

set_option maxHeartbeats 2000000 in
set_option maxRecDepth 20000 in
theorem leave_t (B b c n j k : Nat) (d : LObj) (x : LEnt) (os : List LObj) (vs : Nat → Value) (w : World) (hn : n = os.length) (hd : os[j]? = some d) (ha : Asc d.kids) (hkb : d.kids.length ≤ 1000000) (hxk : d.kids[k]? = some x) (hB : B ≤ w.heap.size) (H : OwnT w B b c os vs) :
    Calls Tryz.prog 233 #[.agg #[.slice (some ⟨b, 0, none⟩) n c], .int .i64 j, .string x.name] w fun e w' => e = .returned (.tuple #[]) ∧ ∃ vs', DPost w w' B b c n (os.set j { d with kids := outL x.name d.kids }) vs vs' := by
  have HD : Hid (os[j]? = some d) := hd
  have HXK : Hid (d.kids[k]? = some x ∧ Asc d.kids) := ⟨hxk, ha⟩
  have HN : Hid (n = os.length) := hn
  have hlt : j < n := by rw [hn]; exact (List.getElem?_eq_some_iff.1 hd).1
  have hkl : k < d.kids.length := (List.getElem?_eq_some_iff.1 hxk).1
  have hbl := H.lt
  obtain ⟨_, _, _, _, q3, q5, q6⟩ := H.at_ j d hd
  obtain ⟨g0, c0, hvs, _, _⟩ := World.ownsRow.form q5 (by omega)
  obtain ⟨a1, c1, hv1, hE0⟩ := q5.at_ q6
  rw [hvs] at hv1
  simp only [Value.slice.injEq, true_and] at hv1
  obtain ⟨rfl, rfl⟩ := hv1
  obtain ⟨kn, hkn⟩ : ∃ kn, kn = d.kids.length := ⟨_, rfl⟩
  have HKN : Hid (kn = d.kids.length) := hkn
  rw [hvs, ← hkn] at q3
  have HVS : Hid (vs j = .slice (some ⟨g0, 0, none⟩) kn c0) := by show _ = _; rw [hvs, hkn]
  rw [← hkn] at hE0 hkb hkl
  have hE : Hid (EntsAt w B w.heap.size (some ⟨g0, 0, none⟩) kn d.kids) := hE0
  have HKV0 : Hid (OwnEnts w B (.slice (some ⟨g0, 0, none⟩) kn c0) d.kids) := by show OwnEnts _ _ _ _; rw [← HVS.out]; exact q5
  have HNM : Hid (∀ e ∈ d.kids, e.name.size ≤ maxLen) := q6
  have HOT : Hid (OwnT w B b c os vs) := H
  have hfz : w.frozen? ⟨b, j * 4 + 3, none⟩ = false := H.frozen _
  have hnb : (Value.slice (some ⟨g0, 0, none⟩) kn c0).ownBlock ≠ some b := H.kids_ne (by rw [← HVS.out]; exact q5)
  have hA : ∀ o1 : Obj, Below w.heap.size w (w.alloc o1) := fun o1 => (Below.refl _ _).alloc (Nat.le_refl _) _
  have hjI : (j : Int) < (n : Int) := by omega
  have hj0 : (0 : Int) ≤ (j : Int) := by omega
  clear hd hn q5 q6 hE0 hvs hkn H hxk
  go_enter Tryz.func233, Tryz.ntmps233
  go_wp2_with fail
  refine (place2_any (some ⟨g0, 0, none⟩) kn c0 d.kids B w.heap.size x.name _ (by omega) ha (by simp) (hE.out.below (hA _) (Nat.le_refl _))).mono ?_
  rintro z w1 ⟨⟨p, pb, rfl, hple, hlow, hhigh⟩, hb1⟩
  have HP : Hid (p = k) := place_there ha hlow hhigh HXK.out.1 rfl
  have hp0 : p < kn := by have := HP.out; omega
  have hbw : Below w.heap.size w w1 := (hA _).trans (hb1.mono (by simp))
  have t0 : w1.cell? ⟨w.heap.size, 0, none⟩ = some (.slice (some ⟨b, 0, none⟩) n c) := by rw [hb1.cell (by simp)]; simp [go_sem]
  have t1 : w1.cell? ⟨b, j * 4 + 3, none⟩ = some (.slice (some ⟨g0, 0, none⟩) kn c0) := by rw [hbw.cell (by simpa using hbl)]; exact q3
  have t2 : w1.frozen? ⟨b, j * 4 + 3, none⟩ = false := by rw [hbw.frozen (by simpa using hbl)]; exact hfz
  have hz1 : w.heap.size < w1.heap.size := by have := hb1.size; simp at this; omega
  have HKV : Hid (OwnEnts w1 B (.slice (some ⟨g0, 0, none⟩) kn c0) d.kids) := own_block HKV0.out fun q hq => hbw.block q (World.ownsRow.lt HKV0.out q hq).2
  have hne1 : (Value.slice (some ⟨g0, 0, none⟩) kn c0).ownBlock ≠ some w.heap.size := fun e => by have := (World.ownsRow.lt HKV0.out _ e).2; omega
  have hne2 := hnb
  have HBW : Hid (Below w.heap.size w w1) := hbw
  have hpI : IntKind.i64.wrap ((p : Int) + 1) = (p : Int) + 1 := by rw [IntKind.wrap_i64]; omega
  clear hple hlow hhigh hb1 hbw hnb hfz q3 ha
  go_wp2_with fail
  go_upto_region 3 with fail
  refine wp_region_held_drew (S := (fun W => W.cell? ⟨w.heap.size, 0, none⟩ = some (.slice (some ⟨b, 0, none⟩) n c))) (by kernel_rfl) ?_ (fun hHeld => ?_)
  · exact t0
  refine listH (l2 := #[false, false, false, false, false, false, false, false, false, false, false, false]) (by kernel_rfl) ?_
  refine takeH (i := 0) (oi := _) (v := ?vt2x0) 22 #[true, false, false, false, false, false, false, false, false, false, false, false] rfl (by kernel_rfl) (by kernel_rfl) (by kernel_rfl) rfl (by kernel_rfl) (fun _ _ _ h => h) (Or.inl ⟨by rfl, ?yt2x0⟩) (by assumption) ?rt2x0
  case yt2x0 => (intro w' hSw; (try dsimp only at hSw); have x0 := hSw; go_simp; try with_reducible rfl)
  simp only [Act.put, List.setIfInBounds_toArray, List.set_cons_succ, List.set_cons_zero]
  refine takeH (i := 1) (oi := _) (v := ?vt2x1) 23 #[true, true, false, false, false, false, false, false, false, false, false, false] rfl (by kernel_rfl) (by kernel_rfl) (by kernel_rfl) rfl (by kernel_rfl) (fun _ _ _ h => h) (Or.inl ⟨by rfl, ?yt2x1⟩) (by assumption) ?rt2x1
  case yt2x1 => (intro w' hSw; (try dsimp only at hSw); have x0 := hSw; go_simp; try with_reducible rfl)
  simp only [Act.put, List.setIfInBounds_toArray, List.set_cons_succ, List.set_cons_zero]
  refine takeH (i := 2) (oi := _) (v := ?vt2x2) 24 #[true, true, true, false, false, false, false, false, false, false, false, false] rfl (by kernel_rfl) (by kernel_rfl) (by kernel_rfl) rfl (by kernel_rfl) (fun _ _ _ h => h) (Or.inl ⟨by rfl, ?yt2x2⟩) (by assumption) ?rt2x2
  case yt2x2 => (intro w' hSw; (try dsimp only at hSw); have x0 := hSw; go_simp; try with_reducible rfl)
  simp only [Act.put, List.setIfInBounds_toArray, List.set_cons_succ, List.set_cons_zero]
  refine takeH (i := 3) (oi := _) (v := ?vt2x3) 25 #[true, true, true, true, false, false, false, false, false, false, false, false] rfl (by kernel_rfl) (by kernel_rfl) (by kernel_rfl) rfl (by kernel_rfl) (fun _ _ _ h => h) (Or.inl ⟨by rfl, ?yt2x3⟩) (by assumption) ?rt2x3
  case yt2x3 => (intro w' hSw; (try dsimp only at hSw); have x0 := hSw; go_simp; try with_reducible rfl)
  simp only [Act.put, List.setIfInBounds_toArray, List.set_cons_succ, List.set_cons_zero]
  refine takeH (i := 4) (oi := _) (v := ?vt2x4) 26 #[true, true, true, true, true, false, false, false, false, false, false, false] rfl (by kernel_rfl) (by kernel_rfl) (by kernel_rfl) rfl (by kernel_rfl) (fun _ _ _ h => h) (Or.inl ⟨by rfl, ?yt2x4⟩) (by assumption) ?rt2x4
  case yt2x4 => (intro w' hSw; (try dsimp only at hSw); have x0 := hSw; go_simp; try with_reducible rfl)
  simp only [Act.put, List.setIfInBounds_toArray, List.set_cons_succ, List.set_cons_zero]
  refine takeH (i := 5) (oi := _) (v := ?vt2x5) 27 #[true, true, true, true, true, true, false, false, false, false, false, false] rfl (by kernel_rfl) (by kernel_rfl) (by kernel_rfl) rfl (by kernel_rfl) (fun _ _ _ h => h) (Or.inl ⟨by rfl, ?yt2x5⟩) (by assumption) ?rt2x5
  case yt2x5 => (intro w' hSw; (try dsimp only at hSw); have x0 := hSw; go_simp; try with_reducible rfl)
  simp only [Act.put, List.setIfInBounds_toArray, List.set_cons_succ, List.set_cons_zero]
  refine takeH (i := 6) (oi := _) (v := ?vt2x6) 28 #[true, true, true, true, true, true, true, false, false, false, false, false] rfl (by kernel_rfl) (by kernel_rfl) (by kernel_rfl) rfl (by kernel_rfl) (fun _ _ _ h => h) (Or.inl ⟨by rfl, ?yt2x6⟩) (by assumption) ?rt2x6
  case yt2x6 => (intro w' hSw; (try dsimp only at hSw); have x0 := hSw; go_simp; try with_reducible rfl)
  simp only [Act.put, List.setIfInBounds_toArray, List.set_cons_succ, List.set_cons_zero]
  refine takeH (i := 7) (oi := _) (v := ?vt2x7) 29 #[true, true, true, true, true, true, true, true, false, false, false, false] rfl (by kernel_rfl) (by kernel_rfl) (by kernel_rfl) rfl (by kernel_rfl) (fun _ _ _ h => h) (Or.inl ⟨by rfl, ?yt2x7⟩) (by assumption) ?rt2x7
  case yt2x7 => (intro w' hSw; (try dsimp only at hSw); have x0 := hSw; go_simp; try with_reducible rfl)
  simp only [Act.put, List.setIfInBounds_toArray, List.set_cons_succ, List.set_cons_zero]
  refine wpAnyH_ready (rs := [8]) (by kernel_rfl) (by simp) ?_
  refine AllReadyH.cons (o := _) rfl (fun K hK => ?_) AllReadyH.nil
  go_simp
  refine (delete_any B g0 kn c0 p d.kids w1.drew HKN.out hp0 (by omega) (own_block HKV.out fun q hq => rfl)).mono ?_
  rintro e w2 ⟨a', c', rfl, hpost⟩
  have hgr : w1.drew.grownBy w2 (Value.slice (some ⟨g0, 0, none⟩) kn c0).ownBlock := hpost.2.1
  have s0 : w2.cell? ⟨w.heap.size, 0, none⟩ = some (.slice (some ⟨b, 0, none⟩) n c) := by rw [hgr.cell_far _ (by simp; omega) (fun e => hne1 e.symm)]; exact t0
  have s1 : w2.cell? ⟨b, j * 4 + 3, none⟩ = some (.slice (some ⟨g0, 0, none⟩) kn c0) := by rw [hgr.cell_far _ (by simp; omega) (fun e => hne2 e.symm)]; exact t1
  have s2 : w2.frozen? ⟨b, j * 4 + 3, none⟩ = false := by rw [hgr.frozen_far _ (by simp; omega) (fun e => hne2 e.symm)]; exact t2
  go_wp2_with fail
  refine hK.out _ _ ?_ (fun hHeld => ?_)
  · exact s0
  clear hK K
  try simp only [Act.put]
  refine listH (l2 := #[true, true, true, true, true, true, true, true, true, false, false, false]) (by kernel_rfl) ?_
  refine takeH (i := 9) (oi := _) (v := ?vt2x9) 31 #[true, true, true, true, true, true, true, true, true, true, false, false] rfl (by kernel_rfl) (by kernel_rfl) (by kernel_rfl) rfl (by kernel_rfl) (fun _ _ _ h => h) (Or.inl ⟨by rfl, ?yt2x9⟩) (by assumption) ?rt2x9
  case yt2x9 => (intro w' hSw; (try dsimp only at hSw); have x0 := hSw; go_simp; try with_reducible rfl)
  simp only [Act.put, List.setIfInBounds_toArray, List.set_cons_succ, List.set_cons_zero]
  refine takeH (i := 10) (oi := _) (v := ?vt2x10) 32 #[true, true, true, true, true, true, true, true, true, true, true, false] rfl (by kernel_rfl) (by kernel_rfl) (by kernel_rfl) rfl (by kernel_rfl) (fun _ _ _ h => h) (Or.inl ⟨by rfl, ?yt2x10⟩) (by assumption) ?rt2x10
  case yt2x10 => (intro w' hSw; (try dsimp only at hSw); have x0 := hSw; go_simp; try with_reducible rfl)
  simp only [Act.put, List.setIfInBounds_toArray, List.set_cons_succ, List.set_cons_zero]
  refine wpAnyH_ready (rs := [11]) (by kernel_rfl) (by simp) ?_
  refine AllReadyH.cons (o := _) rfl (fun K hK => ?_) AllReadyH.nil
  go_simp
  refine hK.out _ _ ?_ (fun hHeld => ?_)
  · exact (by rw [World.cell?_setCell_other _ _ _ _ (by first | (simp; done) | (simp; omega))]; exact s0)
  clear hK K
  try simp only [Act.put]
  refine listH (l2 := #[true, true, true, true, true, true, true, true, true, true, true, true]) (by kernel_rfl) ?_
  refine wpAnyH_done (by kernel_rfl) ?_ _

  go_wp2_with fail
  go_end0
  have hw0 : w.heap.size ≤ w1.heap.size := HBW.out.size
  have hOT1 : OwnT w1.drew B b c os vs := OwnT.of_heap (w := w1) (by rfl) (HOT.out.below HBW.out)
  have hpost1 : OwnEnts w2 B (.slice a' (kn - 1) c') (outL x.name d.kids) := by
    rw [outL_of HXK.out.2 HXK.out.1 rfl, ← HP.out]
    exact hpost.1
  refine ⟨rfl, fun i => if i = j then .slice a' (kn - 1) c' else vs i, ?_, ?_, fun q hq hne hv => ?_, fun i g hi hg => ?_⟩
  · exact hOT1.putKids HD.out hgr (.inr (by rw [HVS.out])) hpost1 (fun e he => HNM.out e ((List.mem_filter.1 he).1)) (fun g hg => by rw [HVS.out]; exact hpost.2.2 g hg)
  · exact (below_grown ((HBW.out.mono hB).trans (Below.refl B w1).drew) hgr (fun k hk => (World.ownsRow.lt HKV.out k hk).1) (by simp; omega)).setCell HOT.out.lo _
  · rw [Below.heap_setCell _ _ _ q hne, hgr.block q (by simp; omega) (fun e => hv j hlt (by rw [HVS.out]; exact e.symm))]
    exact HBW.out.block q hq
  · by_cases hij : i = j
    · simp only [hij, if_true] at hg
      rw [hij, HVS.out]
      rcases hpost.2.2 g hg with h | h
      · exact .inl h
      · exact .inr (by simp at h; omega)
    · simp only [hij, if_false] at hg
      exact .inl hg
end Go.Proofs.YtnolbfijcnldjaaGreatDoor

/- Paths: contracts of the program and of the specification. -/
namespace Go.Proofs.YtnolbfijcnldjaaGreatDoor
open Go.RowKit

theorem uniq_mem {p : List (Nat × LEnt)} (h : Uniq p) {y z : Nat × LEnt} (hy : y ∈ p) (hz : z ∈ p) (e : y.2.id = z.2.id) : y = z := by
  obtain ⟨pre, post, rfl⟩ := List.append_of_mem hy
  rcases List.mem_append.1 hz with hz | hz
  · exact absurd e.symm (h pre y post rfl z hz)
  · rcases List.mem_cons.1 hz with hz | hz
    · exact hz.symm
    · obtain ⟨p1, p2, rfl⟩ := List.append_of_mem hz
      exact absurd e (h (pre ++ y :: p1) z p2 (by simp) y (by simp))
end Go.Proofs.YtnolbfijcnldjaaGreatDoor

/- Plain facts about trees that are ok: going up again and again. -/
namespace Go.Proofs.YtnolbfijcnldjaaGreatDoor
open Go.RowKit

/-- Going up so many times. -/
def it (os : List LObj) : Nat → Int → Int
  | 0, id => id
  | k + 1, id => it os k (homeIn (flat os) id)
theorem it_add (os : List LObj) : ∀ (j k : Nat) (id : Int), it os (j + k) id = it os k (it os j id)
  | 0, k, id => by simp [it]
  | j + 1, k, id => by
    have : j + 1 + k = (j + k) + 1 := by omega
    rw [this, it, it, it_add os j k]
theorem home_neg {os : List LObj} (hs : specOk os = true) {id : Int} (h : id ≤ 0) : homeIn (flat os) id = -1 := by
  have hi := (specOk_iff os).1 hs
  refine homeIn_off fun x hx e => ?_
  obtain ⟨k, e1, k1, k2⟩ := flat_ids (ids_of_ok hi.2.1) hx
  omega
theorem it_neg {os : List LObj} (hs : specOk os = true) : ∀ (k : Nat) {id : Int}, id < 0 → it os k id < 0
  | 0, _, h => h
  | k + 1, id, h => by
    rw [it, home_neg hs (by omega)]
    exact it_neg hs k (by omega)
theorem under_iff {os : List LObj} (hs : specOk os = true) (dir : Int) : ∀ (k : Nat) (id : Int), under os dir k id = true ↔ 0 ≤ dir ∧ ∃ j, j < k ∧ it os j id = dir
  | 0, id => by simp [under]
  | k + 1, id => by
    unfold under
    by_cases h0 : 0 ≤ id
    · rw [if_pos h0]
      by_cases he : id = dir
      · rw [if_pos he]
        simp
        exact ⟨by omega, 0, by omega, he⟩
      · rw [if_neg he, under_iff hs dir k]
        constructor
        · rintro ⟨h1, j, h2, h3⟩
          exact ⟨h1, j + 1, by omega, h3⟩
        · rintro ⟨h1, j, h2, h3⟩
          cases j with
          | zero => exact absurd h3 he
          | succ j => exact ⟨h1, j, by omega, h3⟩
    · rw [if_neg h0]
      simp
      intro h1 j _ h3
      have := it_neg hs j (id := id) (by omega)
      omega
theorem climb_it (os : List LObj) : ∀ (k : Nat) (id : Int), climb os k id = 0 → ∃ m, m ≤ k ∧ it os m id = 0
  | 0, id, h => ⟨0, Nat.le_refl _, h⟩
  | k + 1, id, h => by
    by_cases h0 : 0 < id
    · rw [climb_step os k h0] at h
      obtain ⟨m, hm, e⟩ := climb_it os k _ h
      exact ⟨m + 1, by omega, e⟩
    · rw [climb_stop os (k + 1) h0] at h
      exact ⟨0, by omega, h⟩
/-- From each object that is there one comes to the top. -/
theorem depth {os : List LObj} (hs : specOk os = true) {id : Int} (h : hasB os id = true) : ∃ m, m ≤ 32 ∧ it os m id = 0 := by
  have hi := (specOk_iff os).1 hs
  simp [hasB] at h
  have hc := hi.2.2.2.2 id.toNat (by omega) h.2
  have e : ((id.toNat : Nat) : Int) = id := by omega
  rw [e] at hc
  obtain ⟨m, hm, e⟩ := climb_it os 31 id hc
  exact ⟨m, by omega, e⟩
theorem depth31 {os : List LObj} (hs : specOk os = true) {id : Int} (h : hasB os id = true) : ∃ m, m ≤ 31 ∧ it os m id = 0 := by
  have hi := (specOk_iff os).1 hs
  simp [hasB] at h
  have hc := hi.2.2.2.2 id.toNat (by omega) h.2
  have e : ((id.toNat : Nat) : Int) = id := by omega
  rw [e] at hc
  exact climb_it os 31 id hc
theorem it_end {os : List LObj} (hs : specOk os = true) {id : Int} {m j : Nat} (hm : it os m id = 0) (hj : 0 ≤ it os j id) : j ≤ m := by
  apply Classical.byContradiction
  intro hn
  obtain ⟨k, rfl⟩ : ∃ k, j = m + (k + 1) := ⟨j - m - 1, by omega⟩
  rw [it_add, hm, it, home_neg hs (by omega)] at hj
  have := it_neg hs k (id := -1) (by omega)
  omega
theorem it_loop (os : List LObj) {n : Nat} {a : Int} (h : it os n a = a) : ∀ k, it os (k * n) a = a
  | 0 => by simp [it]
  | k + 1 => by rw [Nat.succ_mul, it_add, it_loop os h k, h]
theorem no_loop {os : List LObj} (hs : specOk os = true) {a : Int} (ha : hasB os a = true) {n : Nat} (h : it os n a = a) : n = 0 := by
  obtain ⟨m, hm, e⟩ := depth hs ha
  have ha0 : 0 ≤ a := by simp [hasB] at ha; omega
  have := it_end hs e (j := 33 * n) (by rw [it_loop os h]; exact ha0)
  omega
theorem has_iff (os : List LObj) (id : Int) : hasB os id = true ↔ 0 ≤ id ∧ id < 32 ∧ kindOf os id.toNat ≠ 0 := by
  simp [hasB]; omega
/-- Where something is, and by which name. -/
theorem home_mem {os : List LObj} (hs : specOk os = true) {d : Nat} {e : LEnt} (h : (d, e) ∈ flat os) : homeIn (flat os) e.id = d ∧ nameIn (flat os) e.id = e.name := by
  have hi := (specOk_iff os).1 hs
  have hu : Uniq (flat os) := hi.2.2.2.1.2.1
  cases hf : (flat os).find? (fun x => x.2.id == e.id) with
  | none =>
    have := List.find?_eq_none.1 hf (d, e) h
    simp at this
  | some x =>
    have hx := List.mem_of_find?_eq_some hf
    have hxi : x.2.id = e.id := by simpa using List.find?_some hf
    obtain rfl := uniq_mem hu hx h hxi
    exact ⟨by unfold homeIn; rw [hf], by unfold nameIn; rw [hf]⟩
/-- What has names is a directory. -/
theorem kids_dir {o : LObj} (h : objB o = true) (hk : o.kids ≠ []) : o.kind = 2 ∧ kidsB o.kids = true := by
  unfold objB at h
  rw [Bool.and_eq_true] at h
  have h2 := h.2
  have hn : ¬ nil? o.kids.length = true := by
    unfold nil?
    simp
    exact hk
  unfold partsB at h2
  split at h2
  · rw [Bool.and_eq_true] at h2; exact absurd h2.2 hn
  · split at h2
    · rw [Bool.and_eq_true] at h2; exact absurd h2.2 hn
    · split at h2
      · next h3 => rw [Bool.and_eq_true] at h2; exact ⟨h3, h2.2⟩
      · cases h2
/-- What is nothing is named nowhere. -/
theorem dead_home {os : List LObj} (hs : specOk os = true) {id : Int} (h : hasB os id = false) : homeIn (flat os) id = -1 := by
  have hi := (specOk_iff os).1 hs
  refine homeIn_off fun x hx e => ?_
  obtain ⟨k, e1, k1, k2⟩ := flat_ids (ids_of_ok hi.2.1) hx
  have hl := hi.2.2.2.1.1 x hx
  have : hasB os id = true := (has_iff os id).2 ⟨by omega, by omega, by rw [← e]; exact hl⟩
  rw [this] at h
  cases h
end Go.Proofs.YtnolbfijcnldjaaGreatDoor

/- Plain facts about paths of trees that are ok. -/
namespace Go.Proofs.YtnolbfijcnldjaaGreatDoor
open Go.RowKit

end Go.Proofs.YtnolbfijcnldjaaGreatDoor

/- Plain facts about ok trees: what the objects and their names are. -/
namespace Go.Proofs.YtnolbfijcnldjaaGreatDoor

theorem ok_len {os : List LObj} (hs : specOk os = true) : os.length = 32 := by
  simp [specOk] at hs; exact hs.1.1.1
theorem ok_obj {os : List LObj} (hs : specOk os = true) {i : Nat} {o : LObj} (ho : os[i]? = some o) : objB o = true := by
  simp [specOk] at hs
  exact hs.1.2 o (List.mem_of_getElem? ho)
theorem ok_ver {os : List LObj} (hs : specOk os = true) {i : Nat} {o : LObj} (ho : os[i]? = some o) : 0 ≤ o.ver ∧ o.ver ≤ 1000000 := by
  have h := ok_obj hs ho
  simp [objB, verB] at h
  obtain ⟨⟨h1, h2⟩, _⟩ := h
  refine ⟨?_, h2⟩
  split at h1 <;> omega
theorem ok_asc {os : List LObj} (hs : specOk os = true) {i : Nat} {o : LObj} (ho : os[i]? = some o) : Asc o.kids := by
  by_cases h : o.kids = []
  · rw [h]; intro i j x y _ hx _; simp at hx
  · exact asc_of (kids_dir (ok_obj hs ho) h).2
theorem ok_ent {os : List LObj} (hs : specOk os = true) {i : Nat} {o : LObj} (ho : os[i]? = some o) {e : LEnt} (he : e ∈ o.kids) : 0 < e.id ∧ e.id < 32 := by
  have hi := ids_of_ok (t := os) (fun i o h => ok_obj hs h)
  exact hi o (List.mem_of_getElem? ho) e he
theorem pigeonE : ∀ (m : Nat) (l : List LEnt), (∀ e ∈ l, 0 ≤ e.id ∧ e.id < (m : Int)) → (∀ k : Nat, l.countP (fun e => e.id == (k : Int)) ≤ 1) → l.length ≤ m
  | 0, l, h, _ => by
    cases l with
    | nil => simp
    | cons e r => have := h e (by simp); omega
  | m + 1, l, h, hc => by
    have h1 := List.length_eq_countP_add_countP (fun e : LEnt => e.id == (m : Int)) (l := l)
    have h2 := hc m
    have h3 := pigeonE m (l.filter fun e => !(e.id == (m : Int))) (fun e he => by
      have hm := List.mem_filter.1 he
      have := h e hm.1
      have hne : e.id ≠ (m : Int) := by simpa using hm.2
      omega) (fun k => by
      refine Nat.le_trans ?_ (hc k)
      exact List.Sublist.countP_le List.filter_sublist)
    have h4 : l.countP (fun e => !(e.id == (m : Int))) = (l.filter fun e => !(e.id == (m : Int))).length := List.countP_eq_length_filter
    have h5 : l.countP (fun a => decide ¬(a.id == (m : Int)) = true) = l.countP (fun e => !(e.id == (m : Int))) := by
      congr 1; funext e; cases e.id == (m : Int) <;> rfl
    omega
theorem flat_subF : ∀ (os : List LObj) (d i : Nat) (o : LObj), os[i]? = some o → (tagged (d + i) o.kids).Sublist (flatFrom d os)
  | [], _, _, _, h => by simp at h
  | x :: r, d, 0, o, h => by
    simp at h
    subst h
    exact List.sublist_append_left _ _
  | x :: r, d, i + 1, o, h => by
    have ih := flat_subF r (d + 1) i o (by simpa using h)
    rw [show d + (i + 1) = d + 1 + i by omega]
    exact ih.trans (List.sublist_append_right _ _)
theorem flat_sub {os : List LObj} {i : Nat} {o : LObj} (h : os[i]? = some o) : (tagged i o.kids).Sublist (flat os) := by
  have := flat_subF os 0 i o h
  rwa [Nat.zero_add] at this
theorem ok_kids {os : List LObj} (hs : specOk os = true) {i : Nat} {o : LObj} (ho : os[i]? = some o) : o.kids.length ≤ 32 := by
  refine pigeonE 32 o.kids (fun e he => by have := ok_ent hs ho he; omega) (fun k => ?_)
  have hcnt : cnt (flat os) (k : Int) ≤ 1 := by
    by_cases hk : 1 ≤ k ∧ k < 32
    · have h := hs
      simp [specOk] at h
      have h2 := h.2 (k - 1) (by omega)
      rw [show k - 1 + 1 = k by omega] at h2
      unfold specAt at h2
      split at h2 <;> simp at h2 <;> omega
    · have : cnt (flat os) (k : Int) = 0 := by
        unfold cnt
        rw [List.countP_eq_zero]
        intro x hx
        obtain ⟨q, h1, h2, h3⟩ := flat_ids (ids_of_ok (t := os) (fun i o h => ok_obj hs h)) hx
        simp only [beq_iff_eq]
        omega
      omega
  refine Nat.le_trans ?_ hcnt
  unfold cnt
  have hsub : (tagged i o.kids).Sublist (flat os) := flat_sub ho
  have h1 := hsub.countP_le (p := fun x : Nat × LEnt => x.2.id == (k : Int))
  refine Nat.le_trans (Nat.le_of_eq ?_) h1
  unfold tagged
  rw [List.countP_map]
  rfl

theorem findV_or (es : List LEnt) (name : ByteArray) : (findV es name = -1 ∧ ∀ e ∈ es, e.name ≠ name) ∨ ∃ (k : Nat) (e : LEnt), es[k]? = some e ∧ e.name = name ∧ findV es name = e.id := by
  unfold findV
  cases h : es.find? (fun e => sEq e.name name) with
  | none =>
    refine .inl ⟨rfl, fun e he hn => ?_⟩
    have := List.find?_eq_none.1 h e he
    rw [hn] at this
    simp [sEq] at this
  | some e =>
    have h1 := List.find?_some h
    have h2 := List.mem_of_find?_eq_some h
    obtain ⟨k, hk, rfl⟩ := List.getElem_of_mem h2
    exact .inr ⟨k, es[k], by simp [hk], (by
      have h3 : es[k].name.toList = name.toList := by simpa [sEq] using h1
      rw [Go.ByteArray.toList_eq, Go.ByteArray.toList_eq] at h3
      exact Go.WideShapes.bytes_inj h3), rfl⟩
theorem findV_neg {os : List LObj} (hs : specOk os = true) {i : Nat} {o : LObj} (ho : os[i]? = some o) (name : ByteArray) : (findV o.kids name != -1) = decide (0 ≤ findV o.kids name) := by
  rcases findV_or o.kids name with ⟨h, _⟩ | ⟨k, e, he, _, h⟩
  · rw [h]; rfl
  · have := ok_ent hs ho (List.mem_of_getElem? he)
    rw [h]
    simp only [bne]
    have h1 : (e.id == -1) = false := by simp; omega
    have h2 : decide (0 ≤ e.id) = true := by simp; omega
    rw [h1, h2]; rfl
theorem asc_out {es : List LEnt} (ha : Asc es) (name : ByteArray) : Asc (outL name es) := by
  have hp : es.Pairwise (fun x y => Op.bytesLess (nm x) (nm y) = true) := by
    rw [List.pairwise_iff_getElem]
    intro i j hi hj hij
    exact ha i j _ _ hij (by simp [hi]) (by simp [hj])
  have hq := hp.filter (fun e => !(e.name.toList == name.toList))
  intro i j x y hij hx hy
  rw [List.pairwise_iff_getElem] at hq
  obtain ⟨hi, hx'⟩ := List.getElem?_eq_some_iff.1 hx
  obtain ⟨hj, hy'⟩ := List.getElem?_eq_some_iff.1 hy
  have h := hq i j hi hj hij
  have e1 : (es.filter fun e => !(e.name.toList == name.toList))[i] = x := hx'
  have e2 : (es.filter fun e => !(e.name.toList == name.toList))[j] = y := hy'
  rw [e1, e2] at h
  exact h
end Go.Proofs.YtnolbfijcnldjaaGreatDoor

/- errors.Is by its contracts, for what the program hands it: a sentinel of errors.New's make against another one, or itself. -/
namespace Go.Proofs.YtnolbfijcnldjaaGreatDoor
open Go.RowKit Go.Extern.Stop Go.Stop Go.Extern

theorem isTypeOf (v : Value) (w : World) : (Extern.ReflectliteType.typeOf #[.iface 224 v]).run Tryz.prog w = .ok (.iface 207 (.agg #[.pointer (some ⟨9, 224, none⟩)])) w := by kernel_rfl
def cmpF : Array Value → Sem Value := Extern.ReflectliteType.method fun t => do Go.Extern.Rtype.noPackHeld "Comparable" t; pure (.bool (← typeInfo t).comparable)
theorem isComparable (w : World) : (cmpF #[.agg #[.pointer (some ⟨9, 224, none⟩)]]).run Tryz.prog w = .ok (.bool true) w := by kernel_rfl
theorem isMethodComparable (v : Value) (w : World) : (Go.method 371 207 v "Comparable").run Tryz.prog w = .ok (240, v) w := by kernel_rfl
theorem isComp : (Tryz.prog.info? 224).map (·.comparable) = some true := by kernel_rfl
theorem isSize : (Tryz.prog.info? 258).map (·.size) = some 1 := by kernel_rfl
theorem noIsE (v : Value) (xT : TypeId) (w : World) : (Instr.typeAssert (.iface 224 v) xT 209 true).run Tryz.prog w = .ok (.tuple #[.nilIface, .bool false]) w := run_typeAssert_lacksB Tryz.underlying209 (by kernel_rfl) (by kernel_rfl) v xT w
theorem noUnwrapE (v : Value) (xT : TypeId) (w : World) : (Instr.typeAssert (.iface 224 v) xT 212 true).run Tryz.prog w = .ok (.tuple #[.nilIface, .bool false]) w := run_typeAssert_lacksB Tryz.underlying212 (by kernel_rfl) (by kernel_rfl) v xT w
theorem noUnwrapsE (v : Value) (xT : TypeId) (w : World) : (Instr.typeAssert (.iface 224 v) xT 214 true).run Tryz.prog w = .ok (.tuple #[.nilIface, .bool false]) w := run_typeAssert_lacksB Tryz.underlying214 (by kernel_rfl) (by kernel_rfl) v xT w

set_option maxRecDepth 100000 in
/-- errors.Is(x, x), x a pointer to an errors.errorString. -/
theorem is_same (a : Addr) (w : World) :
    Calls Tryz.prog 118 #[.iface 224 (.pointer (some a)), .iface 224 (.pointer (some a))] w fun e w' => e = .returned (.bool true) ∧ w' = w := by
  obtain ⟨i, hi, hcmp⟩ := Option.map_eq_some_iff.1 isComp
  obtain ⟨j, hj, hjs⟩ := Option.map_eq_some_iff.1 isSize
  have h8 := @run_callFunc_extern Tryz.prog 168 _ Extern.ReflectliteType.typeOf Tryz.func168 (by kernel_rfl) (by kernel_rfl) (by kernel_rfl) (by kernel_rfl)
  have h32 := @run_callFunc_extern Tryz.prog 240 _ cmpF Tryz.func240 (by kernel_rfl) (by kernel_rfl) (by kernel_rfl) (by kernel_rfl)
  have tT := isTypeOf
  have cT := isComparable
  have mR := isMethodComparable
  have heq := run_eql_iface_ptr_same (P := Tryz.prog) w a Tryz.underlying88 Tryz.underlying224 hi hcmp hj
  go_enter Tryz.func118, Tryz.ntmps118
  go_wp2
  refine wp_loop_rounds 1 ?_
  rw [rounds_succ]
  go_wp2
  go_ret
  exact ⟨rfl, rfl⟩

set_option maxRecDepth 100000 in
/-- errors.Is(x, y), two different pointers to errors.errorString: neither has Is nor Unwrap: false. -/
theorem is_other (a b : Addr) (ca cb : Array Value) (ta tb : TypeId) (w : World) (hne : a ≠ b) (ha : w.heap[a.block]? = some (.cells ca ta (0, 0))) (hb : w.heap[b.block]? = some (.cells cb tb (0, 0))) :
    Calls Tryz.prog 118 #[.iface 224 (.pointer (some a)), .iface 224 (.pointer (some b))] w fun e w' => e = .returned (.bool false) ∧ w' = w := by
  obtain ⟨i, hi, hcmp⟩ := Option.map_eq_some_iff.1 isComp
  obtain ⟨j, hj, hjs⟩ := Option.map_eq_some_iff.1 isSize
  have h8 := @run_callFunc_extern Tryz.prog 168 _ Extern.ReflectliteType.typeOf Tryz.func168 (by kernel_rfl) (by kernel_rfl) (by kernel_rfl) (by kernel_rfl)
  have h32 := @run_callFunc_extern Tryz.prog 240 _ cmpF Tryz.func240 (by kernel_rfl) (by kernel_rfl) (by kernel_rfl) (by kernel_rfl)
  have tT := isTypeOf
  have cT := isComparable
  have mR := isMethodComparable
  have nE := noIsE
  have uE := noUnwrapE
  have vE := noUnwrapsE
  have heq := run_eql_iface_ptr_other (P := Tryz.prog) w Tryz.underlying88 Tryz.underlying224 hi hcmp hj (by rw [hjs]; decide) hne ha hb
  go_enter Tryz.func118, Tryz.ntmps118
  go_wp2
  refine wp_loop_rounds 1 ?_
  rw [rounds_succ]
  go_wp2
  go_ret
  exact ⟨rfl, rfl⟩
end Go.Proofs.YtnolbfijcnldjaaGreatDoor
