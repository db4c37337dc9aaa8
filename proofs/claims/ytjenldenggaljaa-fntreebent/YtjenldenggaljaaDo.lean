/- What is done, of a tree of one's own. -/
import Derived.Test.YtjenldenggaljaaMove
import Derived.Test.YtjenldenggaljaaOpImpl
namespace Go.Proofs.Ytjenldenggaljaa
open Go.RowKit

def actText (os : List LObj) (o : LOp) : List LObj × Int :=
  match os[o.id.toNat]? with
  | some x => if x.kind ≠ 1 then (os, 6) else (os.set o.id.toNat { x with text := o.text, ver := x.ver + 1 }, 0)
  | none => (os, 8)
def actDo (os : List LObj) (o : LOp) : List LObj × Int :=
  if wornB os (opIds o) = true then (os, 8) else if o.kind = 1 ∨ o.kind = 2 then actNew os o else if o.kind = 3 then actGone os o else if o.kind = 4 then actMove os o else actText os o

/-- A call within a call. -/
theorem do_pass {w W w2 : World} {A B b c n : Nat} {o : LOp} {vs : Nat → Value} {r : List LObj × Int} {e : Ending} (hF : Fr A W b c n o) (hA : w.heap.size = A) (hb : Below w.heap.size w W) (hB : B ≤ w.heap.size) (hbA : b < A) (hvi : ∀ i g, i < n → (vs i).ownBlock = some g → g < A)
    (h : DoEnd W B b c n vs r e w2) : e = .returned (.tuple #[.agg #[.slice (some ⟨b, 0, none⟩) r.1.length c], .int .i64 r.2]) ∧ Fr A w2 b c n o ∧
      ∀ v, DoEnd w B b c n vs r (.returned (.tuple #[.agg #[.slice (some ⟨b, 0, none⟩) r.1.length c], .int .i64 r.2])) (w2.setCell ⟨A + 1 + 1, 0, none⟩ v) := by
  obtain ⟨vs', rfl, hT, hb2, hk⟩ := h
  have hF2 : Fr A w2 b c n o := hF.of_blocks hb2.size fun q h1 h2 => hk q (by have := hF.size; omega) (by omega) fun i hi e => by have := hvi i q hi e; omega
  refine ⟨rfl, hF2, fun v => ⟨vs', rfl, hT.setBox hF2.r 0 v, ((hb.mono hB).trans hb2).setCell (by show B ≤ A + 1 + 1; omega) _, Kt.setNew (fun q h1 h2 h3 => ?_) (by omega) _ _⟩⟩
  rw [hk q (by have := hb.size; omega) h2 h3]
  exact hb.block q h1

set_option maxHeartbeats 2000000 in
set_option maxRecDepth 20000 in
theorem do_any (B b c n : Nat) (o : LOp) (os : List LObj) (vs : Nat → Value) (w : World) (hok : opOk o = true) (hn : n = os.length) (h32 : 32 ≤ n) (hB : B ≤ w.heap.size) (hv : Bd os 1000000) (hs : OpSz o) (H : OwnT w B b c os vs) :
    Calls Try.prog 143 #[.agg #[.slice (some ⟨b, 0, none⟩) n c], .agg o.val] w fun e w' => DoEnd w B b c n vs (actDo os o) e w' := by
  have b1 := opOk_id hok
  have b2 := opOk_dir hok
  have b3 := opOk_dir2 hok
  obtain ⟨i, hi⟩ : ∃ i : Nat, o.id = i := ⟨o.id.toNat, by omega⟩
  obtain ⟨j, hj⟩ : ∃ j : Nat, o.dir = j := ⟨o.dir.toNat, by omega⟩
  obtain ⟨l, hl⟩ : ∃ l : Nat, o.dir2 = l := ⟨o.dir2.toNat, by omega⟩
  obtain ⟨x, hx⟩ : ∃ x, os[i]? = some x := ⟨os[i]'(by omega), by simp⟩
  have hkd : o.kind = 1 ∨ o.kind = 2 ∨ o.kind = 3 ∨ o.kind = 4 ∨ o.kind = 5 := by
    apply Classical.byContradiction
    intro h
    have := (opOk_nokind h).1
    rw [this] at hok
    cases hok
  have HWO := fun w hU hO => worn_any (some ⟨b, 0, none⟩) n c os B w.heap.size o w h32 hU hO hs.name hs.name2 hs.text
  have HNEW := fun w hB H => new_any B b c n i j o os vs w hi hj hn (by omega) (by omega) hB (fun x hx => hv x hx) hs.name H
  have HGON := fun w hB H => gone_any B b c n i j o os vs w hi hj hn (by omega) (by omega) hB (fun x hx => hv x hx) hs.name H
  have HMOV := fun w hB H => move_any B b c n i j l o os vs w hi hj hl hn (by omega) (by omega) (by omega) hB hv hs.name2 H
  have HV : Hid (actDo os o = if wornB os (opIds o) = true then (os, 8) else if o.kind = 1 ∨ o.kind = 2 then actNew os o else if o.kind = 3 then actGone os o else if o.kind = 4 then actMove os o else actText os o) := rfl
  have HTX : Hid (actText os o = if x.kind ≠ 1 then (os, 6) else (os.set i { x with text := o.text, ver := x.ver + 1 }, 0)) := by
    show _ = _
    unfold actText
    rw [hi, Int.toNat_natCast, hx]
  have HX : Hid (os[i]? = some x) := hx
  have HN : Hid (n = os.length) := hn
  have HOB : Hid (ObjsAt w B w.heap.size (some ⟨b, 0, none⟩) n os) := by show ObjsAt _ _ _ _ _ _; rw [hn]; exact H.to_objs
  have hbA : b < w.heap.size := H.lt
  have hBb : B ≤ b := H.lo
  have HVI : Hid (∀ i g, i < n → (vs i).ownBlock = some g → g < w.heap.size) := fun q g hq hg => ((H.at_ q (os[q]'(by omega)) (by simp)).2.2.2.2.2.1.lt g hg).2
  have HVB := hv x (List.mem_of_getElem? hx)
  have HOT : Hid (OwnT w B b c os vs) := H
  have HTS : Hid (o.text.size ≤ maxLen) := hs.text
  have hiI : (i : Int) < (n : Int) := by omega
  generalize hR : actDo os o = R at HV ⊢
  generalize hW : wornB os (opIds o) = Wn at HV HWO
  generalize hA1 : actNew os o = R1 at HV HNEW
  generalize hA2 : actGone os o = R2 at HV HGON
  generalize hA3 : actMove os o = R3 at HV HMOV
  generalize hA4 : actText os o = R4 at HV HTX
  obtain ⟨k, dd, nm, ll, nm2, ii, tx⟩ := o
  simp only [LOp.val] at *
  subst hi hj hl
  clear hR hW hA1 hA2 hA3 hA4 hv hn b1 b2 b3 hok hs hx H
  have HF0 := Fr.start w b c n ⟨k, j, nm, l, nm2, i, tx⟩ (.slice none 0 0)
  have hA : ∀ o1 o2 o3, Below w.heap.size w (((w.alloc o1).alloc o2).alloc o3) := fun o1 o2 o3 => (((Below.refl _ _).alloc (Nat.le_refl _) _).alloc (by simp) _).alloc (by simp; omega) _
  go_enter Try.func143, Try.ntmps143
  go_wp2_with fail
  refine (HWO _ (Nat.le_refl _) ((HOB.out.below (hA _ _ _) (Nat.le_refl _)).wide (Nat.le_refl _) (hA _ _ _).size)).mono ?_
  rintro e W ⟨rfl, hb1⟩
  have HF := HF0.next hb1
  have hbW : Below w.heap.size w W := (hA _ _ _).trans (hb1.mono (by simp; omega))
  have HT : Hid (OwnT W B b c os vs) := HOT.out.below hbW
  have hBW : B ≤ W.heap.size := Nat.le_trans hB hbW.size
  clear HF0 hb1 hA HWO
  obtain ⟨⟨rv, hr0⟩, hr1⟩ := HF.res
  have q0 := HF.t
  have hzW := HF.size
  cases Wn
  case true =>
    have HV1 : Hid (R = (os, 8)) := by show _ = _; rw [HV.out]; simp
    clear HV HNEW HGON HMOV hkd
    go_wp2_with fail
    exact bodyPost_ret (v := .tuple #[.agg #[.slice (some ⟨b, 0, none⟩) n c], .int .i64 8]) (by rw [results, Try.results143]; simp [go_sem, World.cell?_setCell_same _ _ _ hr0]) rfl (do_same HV1.out HF rfl hB HT.out hbW HN.out _)
  obtain ⟨o0, o1, o2, o3, o4, o5, o6⟩ := (⟨HF.o0, HF.o1, HF.o2, HF.o3, HF.o4, HF.o5, HF.o6⟩ : _ ∧ _ ∧ _ ∧ _ ∧ _ ∧ _ ∧ _)
  rcases hkd with rfl | rfl | rfl | rfl | rfl
  · have HR : Hid (R = R1) := by show _ = _; rw [HV.out]; simp
    clear HV HGON HMOV
    go_wp2_with fail
    refine (HNEW _ hBW HT.out).mono ?_
    rintro e w2 hd
    obtain ⟨rfl, hF2, hend⟩ := do_pass HF rfl hbW hB hbA HVI.out hd
    obtain ⟨⟨rv2, hr2⟩, hr3⟩ := hF2.res
    have hz2 := hF2.size
    clear hd HF HT hr0 hr1 q0 hzW o0 o1 o2 o3 o4 o5 o6
    go_wp2_with fail
    refine bodyPost_ret (v := .tuple #[.agg #[.slice (some ⟨b, 0, none⟩) R1.1.length c], .int .i64 R1.2]) (by rw [results, Try.results143]; simp [go_sem, World.cell?_setCell_same _ _ _ hr2]) rfl ?_
    rw [HR.out]
    exact hend _
  · have HR : Hid (R = R1) := by show _ = _; rw [HV.out]; simp
    clear HV HGON HMOV
    go_wp2_with fail
    refine (HNEW _ hBW HT.out).mono ?_
    rintro e w2 hd
    obtain ⟨rfl, hF2, hend⟩ := do_pass HF rfl hbW hB hbA HVI.out hd
    obtain ⟨⟨rv2, hr2⟩, hr3⟩ := hF2.res
    have hz2 := hF2.size
    clear hd HF HT hr0 hr1 q0 hzW o0 o1 o2 o3 o4 o5 o6
    go_wp2_with fail
    refine bodyPost_ret (v := .tuple #[.agg #[.slice (some ⟨b, 0, none⟩) R1.1.length c], .int .i64 R1.2]) (by rw [results, Try.results143]; simp [go_sem, World.cell?_setCell_same _ _ _ hr2]) rfl ?_
    rw [HR.out]
    exact hend _
  · have HR : Hid (R = R2) := by show _ = _; rw [HV.out]; simp
    clear HV HNEW HMOV
    go_wp2_with fail
    refine (HGON _ hBW HT.out).mono ?_
    rintro e w2 hd
    obtain ⟨rfl, hF2, hend⟩ := do_pass HF rfl hbW hB hbA HVI.out hd
    obtain ⟨⟨rv2, hr2⟩, hr3⟩ := hF2.res
    have hz2 := hF2.size
    clear hd HF HT hr0 hr1 q0 hzW o0 o1 o2 o3 o4 o5 o6
    go_wp2_with fail
    refine bodyPost_ret (v := .tuple #[.agg #[.slice (some ⟨b, 0, none⟩) R2.1.length c], .int .i64 R2.2]) (by rw [results, Try.results143]; simp [go_sem, World.cell?_setCell_same _ _ _ hr2]) rfl ?_
    rw [HR.out]
    exact hend _
  · have HR : Hid (R = R3) := by show _ = _; rw [HV.out]; simp
    clear HV HNEW HGON
    go_wp2_with fail
    refine (HMOV _ hBW HT.out).mono ?_
    rintro e w2 hd
    obtain ⟨rfl, hF2, hend⟩ := do_pass HF rfl hbW hB hbA HVI.out hd
    obtain ⟨⟨rv2, hr2⟩, hr3⟩ := hF2.res
    have hz2 := hF2.size
    clear hd HF HT hr0 hr1 q0 hzW o0 o1 o2 o3 o4 o5 o6
    go_wp2_with fail
    refine bodyPost_ret (v := .tuple #[.agg #[.slice (some ⟨b, 0, none⟩) R3.1.length c], .int .i64 R3.2]) (by rw [results, Try.results143]; simp [go_sem, World.cell?_setCell_same _ _ _ hr2]) rfl ?_
    rw [HR.out]
    exact hend _
  · have HR : Hid (R = R4) := by show _ = _; rw [HV.out]; simp
    clear HV HNEW HGON HMOV
    obtain ⟨x1, x2, x3, x4, x5, x6, x7⟩ := HT.out.at_ i x HX.out
    have hbl := HT.out.lt
    by_cases hk1 : x.kind = 1
    case neg =>
      have t1 : (x.kind != 1) = true := by simpa using hk1
      have HV1 : Hid (R = (os, 6)) := by show _ = _; rw [HR.out, HTX.out, if_pos hk1]
      clear hk1 HR HTX x1 x3 x4 x5 x6 x7
      go_wp2_with fail
      exact bodyPost_ret (v := .tuple #[.agg #[.slice (some ⟨b, 0, none⟩) n c], .int .i64 6]) (by rw [results, Try.results143]; simp [go_sem, World.cell?_setCell_same _ _ _ hr0]) rfl (do_same HV1.out HF rfl hB HT.out hbW HN.out _)
    have t1 : (x.kind != 1) = false := by simpa using hk1
    have HV1 : Hid (R = (os.set i { x with text := tx, ver := x.ver + 1 }, 0)) := by show _ = _; rw [HR.out, HTX.out, if_neg (by simpa using hk1)]
    have z2 := HT.out.frozen (i * 4 + 2)
    have HT1 : Hid (OwnT (W.setCell ⟨b, i * 4 + 2, none⟩ (.string tx)) B b c (os.set i { x with text := tx }) vs) := HT.out.setText HX.out tx HTS.out
    have HF1 := HF.set hbA (i * 4 + 2) (.string tx)
    have hi1 : Hid ((os.set i { x with text := tx })[i]? = some { x with text := tx }) := List.getElem?_set_self (by have := HN.out; omega)
    have hl1 : Hid (n = (os.set i { x with text := tx }).length) := by show _ = _; simpa using HN.out
    have p0 := HF1.t
    have p5 := HF1.o5
    have hb1 : Below B w (W.setCell ⟨b, i * 4 + 2, none⟩ (.string tx)) := (hbW.mono hB).setCell (by simpa using hBb) _
    have hk1 : Kt w (W.setCell ⟨b, i * 4 + 2, none⟩ (.string tx)) b n vs := (Kt.of_below hbW _ _ _).set _ _
    have hz1 := HF1.size
    clear HR HTX x1 x3 x5 x6 x7
    go_wp2_with fail
    refine (turn_any B b c i { x with text := tx } _ vs n _ _ rfl hl1.out hi1.out (by simp; omega) (by simp; omega) HT1.out).mono ?_
    rintro e w3 ⟨rfl, hT3, hg3⟩
    rw [← hl1.out]
    have hF3 := HF1.grown hg3 (fun g hg => .inl (by simp at hg; omega))
    have hb3 : Below B w w3 := below_grown hb1 hg3 (fun g hg => by simp at hg; omega) (by omega)
    have hk3 : Kt w w3 b n vs := hk1.turn (by omega) hg3
    obtain ⟨⟨rv3, hr3⟩, hr4⟩ := hF3.res
    have hz3 := hF3.size
    have HT3 : Hid (OwnT w3 B b c (os.set i { x with text := tx, ver := x.ver + 1 }) vs) := by
      show OwnT _ _ _ _ _ _
      rw [List.set_set] at hT3
      exact hT3
    clear hT3 hg3 p0 p5 hz1 HF1 HT1 hk1 hb1
    go_wp2_with fail
    refine bodyPost_ret (v := .tuple #[.agg #[.slice (some ⟨b, 0, none⟩) n c], .int .i64 0]) (by rw [results, Try.results143]; simp [go_sem, World.cell?_setCell_same _ _ _ hr3]) rfl ?_
    rw [HV1.out]
    exact ⟨vs, by simp [HN.out], HT3.out.setBox hF3.r 0 _, hb3.setCell (by show B ≤ w.heap.size + 1 + 1; omega) _, hk3.setNew (by omega) _ _⟩
end Go.Proofs.Ytjenldenggaljaa
