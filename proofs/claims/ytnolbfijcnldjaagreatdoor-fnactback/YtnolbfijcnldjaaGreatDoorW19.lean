/- Lemmas that the proofs of this seat share: DeedC, OpSet, OpSame, LogA, LogB, LogIJ, IntS, LogD. -/
import Derived.Test.YtnolbfijcnldjaaGreatDoorW18
import Derived.Test.YtnolbfijcnldjaaGreatDoorW05
import Derived.Test.YtnolbfijcnldjaaGreatDoorW04
import Derived.Test.YtnolbfijcnldjaaGreatDoorW13
/- What is done to a trial: moving. -/
namespace Go.Proofs.YtnolbfijcnldjaaGreatDoor
open Go.RowKit

theorem move_one {os : List LObj} {j : Nat} {d : LObj} (hd : os[j]? = some d) {fo fp : List LEnt → List LEnt} : turnM (kidsL (kidsL os j fo) j fp) j j = os.set j { d with kids := fp (fo d.kids), ver := d.ver + 1 } := by
  have hl := (List.getElem?_eq_some_iff.1 hd).1
  rw [kidsL_at hd, kidsL_at (o := { d with kids := fo d.kids }) (List.getElem?_set_self hl)]
  unfold turnM
  rw [if_pos rfl, turnL_at (o := { d with kids := fp (fo d.kids) }) (List.getElem?_set_self (by simpa using hl))]
  simp [List.set_set]
theorem move_two {os : List LObj} {j l : Nat} {d d2 : LObj} (hd : os[j]? = some d) (hd2 : os[l]? = some d2) (hne : ¬ l = j) {fo fp : List LEnt → List LEnt} : turnM (kidsL (kidsL os j fo) l fp) j l = (os.set j { d with kids := fo d.kids, ver := d.ver + 1 }).set l { d2 with kids := fp d2.kids, ver := d2.ver + 1 } := by
  have hj := (List.getElem?_eq_some_iff.1 hd).1
  have hl := (List.getElem?_eq_some_iff.1 hd2).1
  rw [kidsL_at hd, kidsL_at (o := d2) (by rw [List.getElem?_set_ne (Ne.symm hne)]; exact hd2)]
  unfold turnM
  have e1 : turnL ((os.set j { d with kids := fo d.kids }).set l { d2 with kids := fp d2.kids }) j = ((os.set j { d with kids := fo d.kids }).set l { d2 with kids := fp d2.kids }).set j { d with kids := fo d.kids, ver := d.ver + 1 } :=
    turnL_at (o := { d with kids := fo d.kids }) (by rw [List.getElem?_set_ne hne]; exact List.getElem?_set_self hj)
  rw [if_neg hne, e1, turnL_at (o := { d2 with kids := fp d2.kids }) (by rw [List.getElem?_set_ne (Ne.symm hne)]; exact List.getElem?_set_self (by simpa using hl))]
  apply List.ext_getElem?
  intro k
  by_cases h1 : k = l
  · subst h1; simp [hl]
  · by_cases h2 : k = j
    · subst h2; simp [hj, Ne.symm h1]
    · simp [Ne.symm h1, Ne.symm h2]

set_option maxHeartbeats 4000000 in
set_option maxRecDepth 20000 in
theorem moving_do (a : Nat → Addr) (U B b c n : Nat) (o : LOp) (os : List LObj) (vs : Nat → Value) (w : World) (hU : U ≤ B) (HS : Sents w U a) (hB : B ≤ w.heap.size) (hs : specOk os = true) (hn : n = 32) (hok : opOk o = true) (hz : OpSz o) (H : OwnT w B b c os vs) :
    Calls Tryz.prog 235 #[.agg #[.int .i64 o.kind, .int .i64 o.dir, .string o.name, .int .i64 o.dir2, .string o.name2, .int .i64 o.id, .string o.text], .agg #[.slice (some ⟨b, 0, none⟩) n c]] w fun e w' => DeedEnd w a B b c n vs (actMove os o) e w' := by
  have hlen := ok_len hs
  have b1 := opOk_id hok
  have b2 := opOk_dir hok
  have b3 := opOk_dir2 hok
  have hbl := H.lt
  obtain ⟨i, hi⟩ : ∃ i : Nat, o.id = i := ⟨o.id.toNat, by omega⟩
  obtain ⟨j, hj⟩ : ∃ j : Nat, o.dir = j := ⟨o.dir.toNat, by omega⟩
  obtain ⟨d, hd⟩ : ∃ d, os[j]? = some d := ⟨os[j]'(by omega), by simp⟩
  have HD : Hid (os[j]? = some d) := hd
  obtain ⟨l, hl⟩ : ∃ l : Nat, o.dir2 = l := ⟨o.dir2.toNat, by omega⟩
  obtain ⟨d2, hd2⟩ : ∃ d2, os[l]? = some d2 := ⟨os[l]'(by omega), by simp⟩
  have HD2 : Hid (os[l]? = some d2) := hd2
  have hA : Below w.heap.size w ((w.alloc (Obj.cells #[.int .i64 o.kind, .int .i64 o.dir, .string o.name, .int .i64 o.dir2, .string o.name2, .int .i64 o.id, .string o.text] 182)).alloc (Obj.cells #[.slice (some ⟨b, 0, none⟩) n c] 85)) := ((Below.refl _ _).alloc (Nat.le_refl _) _).alloc (by simp) _
  have hD0 : DBox ((w.alloc (Obj.cells #[.int .i64 o.kind, .int .i64 o.dir, .string o.name, .int .i64 o.dir2, .string o.name2, .int .i64 o.id, .string o.text] 182)).alloc (Obj.cells #[.slice (some ⟨b, 0, none⟩) n c] 85)) w.heap.size b n c o := ⟨by simp [go_sem], by simp [go_sem], by simp [go_sem], by simp [go_sem], by simp [go_sem], by simp [go_sem], by simp [go_sem], by simp [go_sem], by simp⟩
  have HACT : Hid (actMove os o = if d.kind ≠ 2 ∨ d2.kind ≠ 2 then (os, 1) else if findV d.kids o.name ≠ o.id then (os, 2) else if 0 ≤ findV d2.kids o.name2 then (os, 3) else if under os o.id 33 o.dir2 = true then (os, 5) else (turnM (kidsL (kidsL os j (outL o.name)) l (putL ⟨o.name2, o.id⟩)) j l, 0)) := by
    show _ = _
    unfold actMove
    rw [hj, hl, Int.toNat_natCast, Int.toNat_natCast, hd, hd2]
  have HIJ : Hid (o.id = i ∧ o.dir = j ∧ o.dir2 = l) := ⟨hi, hj, hl⟩
  have hcd := H.at_ j d hd
  have hcd2 := H.at_ l d2 hd2
  obtain ⟨ka, kc, hvd, hEd⟩ := hcd.2.2.2.2.2.1.at_ hcd.2.2.2.2.2.2
  obtain ⟨la, lc, hvd2, hEd2⟩ := hcd2.2.2.2.2.2.1.at_ hcd2.2.2.2.2.2.2
  have hc3 : w.cell? ⟨b, j * 4 + 3, none⟩ = some (.slice ka d.kids.length kc) := by rw [hcd.2.2.2.2.1, hvd]
  have hc4 : w.cell? ⟨b, l * 4 + 3, none⟩ = some (.slice la d2.kids.length lc) := by rw [hcd2.2.2.2.2.1, hvd2]
  have hkb : d.kids.length ≤ 32 := ok_kids hs hd
  have hkb2 : d2.kids.length ≤ 32 := ok_kids hs hd2
  have hasc := ok_asc hs hd
  have hasc2 := ok_asc hs hd2
  have hver := ok_ver hs hd
  have hver2 := ok_ver hs hd2
  have HFV : Hid ((findV d.kids o.name = -1 ∧ ∀ e ∈ d.kids, e.name ≠ o.name) ∨ ∃ (k : Nat) (e : LEnt), d.kids[k]? = some e ∧ e.name = o.name ∧ findV d.kids o.name = e.id) := findV_or d.kids o.name
  have HFV2 : Hid ((findV d2.kids o.name2 != -1) = decide (0 ≤ findV d2.kids o.name2)) := findV_neg hs hd2 o.name2
  have HUV : Hid (d2.kind = 2 → underV os (l : Int) (i : Int) = under os (i : Int) 33 (l : Int)) := fun hk => by
    have hh : hasB os (l : Int) = true := by
      rw [has_iff]
      refine ⟨by omega, by omega, ?_⟩
      rw [Int.toNat_natCast, kindOf_at hd2, hk]; decide
    unfold underV
    rw [hs, hh]; rfl
  have HV : Hid (∀ q g, q < n → (vs q).ownBlock = some g → g < w.heap.size) := fun q g hq hg => H.vlt (by omega) q g hq hg
  have hjn : j < n := by omega
  have hln : l < n := by omega
  have HI1 : Hid (1 ≤ i) := by show 1 ≤ i; omega
  have HSE : Hid (Sents w U a) := HS
  have HOT : Hid (OwnT w B b c os vs) := H
  have HEd : Hid (EntsAt w B w.heap.size ka d.kids.length d.kids) := hEd
  have HEd2 : Hid (EntsAt w B w.heap.size la d2.kids.length d2.kids) := hEd2
  have HOA : Hid (ObjsAt w B w.heap.size (some ⟨b, 0, none⟩) n os) := by show ObjsAt _ _ _ _ _ _; rw [hn, ← hlen]; exact H.to_objs
  obtain ⟨W0, hW0⟩ : ∃ W0 : World, W0 = ((w.alloc (Obj.cells #[.int .i64 o.kind, .int .i64 o.dir, .string o.name, .int .i64 o.dir2, .string o.name2, .int .i64 o.id, .string o.text] 182)).alloc (Obj.cells #[.slice (some ⟨b, 0, none⟩) n c] 85)) := ⟨_, rfl⟩
  rw [← hW0] at hA hD0
  have HN : Hid (n = 32 ∧ os.length = 32) := ⟨hn, hlen⟩
  have hname2 := hz.name2
  have hUw : U ≤ w.heap.size := by omega
  have hz0 := hD0.sz
  have e1 := hD0.k1
  have e2 := hD0.k2
  have e3 := hD0.k3
  have e4 := hD0.k4
  have e5 := hD0.k5
  have e7 := hD0.tr
  rw [HIJ.out.1] at e5
  rw [HIJ.out.2.1] at e1
  rw [HIJ.out.2.2] at e3
  clear hi hj hl hn hlen HS H hd hd2 hEd hEd2 hvd hvd2 b1 b2 b3 hs hok hz
  go_enter Tryz.func235, Tryz.ntmps235
  go_upto_region 1 with fail
  rw [← hW0]
  clear hW0
  go_wp2_with fail
  refine (isDir_t b c n j d.kind _ hjn (by have := hA.size; omega) (by rw [hA.cell (by simpa using hbl)]; exact hcd.2.1)).mono ?_
  rintro z w1 ⟨rfl, hb1⟩
  have h1 := hD0.next hb1
  have hB1 : Below w.heap.size w w1 := hA.trans (hb1.mono hA.size)
  clear hb1 hA hD0 e1 e2 e3 e4 e5 e7
  have e1 := h1.k1
  have e2 := h1.k2
  have e3 := h1.k3
  have e4 := h1.k4
  have e5 := h1.k5
  have e7 := h1.tr
  rw [HIJ.out.1] at e5
  rw [HIJ.out.2.1] at e1
  rw [HIJ.out.2.2] at e3
  rcases t1 : (d.kind == 2) with _ | _
  · have s1 : w1.cell? ⟨1, 0, none⟩ = some (.iface 224 (.pointer (some (a 1)))) := (HSE.out.below hB1 hUw).cell 1 (by omega)
    have hne : Hid (d.kind ≠ 2) := by show _ ≠ _; simpa using t1
    go_wp2_with fail
    go_ret
    exact DeedEnd.no 1 (by omega) (by rw [HACT.out, if_pos (by have := hne.out; omega)]; rfl) HOT.out hB hB1 rfl
  have HK2 : Hid (d.kind = 2) := by show _ = _; simpa using t1
  have hz1 := h1.sz
  go_wp2_with fail
  refine (isDir_t b c n l d2.kind _ hln (by have := hB1.size; omega) (by rw [hB1.cell (by simpa using hbl)]; exact hcd2.2.1)).mono ?_
  rintro z w1b ⟨rfl, hb1⟩
  have h1b := h1.next hb1
  have hB1b : Below w.heap.size w w1b := hB1.trans (hb1.mono hB1.size)
  clear hb1 hB1 h1 e1 e2 e3 e4 e5 e7
  have e1 := h1b.k1
  have e2 := h1b.k2
  have e3 := h1b.k3
  have e4 := h1b.k4
  have e5 := h1b.k5
  have e7 := h1b.tr
  rw [HIJ.out.1] at e5
  rw [HIJ.out.2.1] at e1
  rw [HIJ.out.2.2] at e3
  rcases t1b : (d2.kind == 2) with _ | _
  · have s1 : w1b.cell? ⟨1, 0, none⟩ = some (.iface 224 (.pointer (some (a 1)))) := (HSE.out.below hB1b hUw).cell 1 (by omega)
    have hne : Hid (d2.kind ≠ 2) := by show _ ≠ _; simpa using t1b
    go_wp2_with fail
    go_ret
    exact DeedEnd.no 1 (by omega) (by rw [HACT.out, if_pos (by have := hne.out; omega)]; rfl) HOT.out hB hB1b rfl
  have HK22 : Hid (d2.kind = 2) := by show _ = _; simpa using t1b
  have h1 := h1b
  have hB1 := hB1b
  clear h1b hB1b
  have hz1 := h1.sz
  go_upto_region 3 with fail
  go_cut [21] (fun v wx => v = .bool (findV d.kids o.name != (i : Int)) ∧ DBox wx w.heap.size b n c o ∧ Below w.heap.size w wx)
  case first =>
    refine wp_region_held_drew (S := (fun W => DBox W w.heap.size b n c o)) (by kernel_rfl) ?_ (fun hHeld => ?_)
    · exact h1.next (Below.refl _ _).drew
    refine listH (l2 := #[false, false, false, false, false, false, false, false, false, false, false, false, false]) (by kernel_rfl) ?_
    refine takeH (i := 0) (oi := _) (v := ?vt3x0) 22 #[true, false, false, false, false, false, false, false, false, false, false, false, false] rfl (by kernel_rfl) (by kernel_rfl) (by kernel_rfl) rfl (by kernel_rfl) (fun _ _ _ h => h) (Or.inl ⟨by rfl, ?yt3x0⟩) (by assumption) ?rt3x0
    case yt3x0 => (intro w' hSw; (try dsimp only at hSw); have x1 := hSw.k1; rw [HIJ.out.2.1] at x1; have x2 := hSw.k2; have x5 := hSw.k5; rw [HIJ.out.1] at x5; have x7 := hSw.tr; go_simp; try with_reducible rfl)
    simp only [Act.put, List.setIfInBounds_toArray, List.set_cons_succ, List.set_cons_zero]
    refine takeH (i := 1) (oi := _) (v := ?vt3x1) 23 #[true, true, false, false, false, false, false, false, false, false, false, false, false] rfl (by kernel_rfl) (by kernel_rfl) (by kernel_rfl) rfl (by kernel_rfl) (fun _ _ _ h => h) (Or.inl ⟨by rfl, ?yt3x1⟩) (by assumption) ?rt3x1
    case yt3x1 => (intro w' hSw; (try dsimp only at hSw); have x1 := hSw.k1; rw [HIJ.out.2.1] at x1; have x2 := hSw.k2; have x5 := hSw.k5; rw [HIJ.out.1] at x5; have x7 := hSw.tr; go_simp; try with_reducible rfl)
    simp only [Act.put, List.setIfInBounds_toArray, List.set_cons_succ, List.set_cons_zero]
    refine takeH (i := 2) (oi := _) (v := ?vt3x2) 24 #[true, true, true, false, false, false, false, false, false, false, false, false, false] rfl (by kernel_rfl) (by kernel_rfl) (by kernel_rfl) rfl (by kernel_rfl) (fun _ _ _ h => h) (Or.inl ⟨by rfl, ?yt3x2⟩) (by assumption) ?rt3x2
    case yt3x2 => (intro w' hSw; (try dsimp only at hSw); have x1 := hSw.k1; rw [HIJ.out.2.1] at x1; have x2 := hSw.k2; have x5 := hSw.k5; rw [HIJ.out.1] at x5; have x7 := hSw.tr; go_simp; try with_reducible rfl)
    simp only [Act.put, List.setIfInBounds_toArray, List.set_cons_succ, List.set_cons_zero]
    refine takeH (i := 3) (oi := _) (v := ?vt3x3) 25 #[true, true, true, true, false, false, false, false, false, false, false, false, false] rfl (by kernel_rfl) (by kernel_rfl) (by kernel_rfl) rfl (by kernel_rfl) (fun _ _ _ h => h) (Or.inl ⟨by rfl, ?yt3x3⟩) (by assumption) ?rt3x3
    case yt3x3 => (intro w' hSw; (try dsimp only at hSw); have x1 := hSw.k1; rw [HIJ.out.2.1] at x1; have x2 := hSw.k2; have x5 := hSw.k5; rw [HIJ.out.1] at x5; have x7 := hSw.tr; go_simp; try with_reducible rfl)
    simp only [Act.put, List.setIfInBounds_toArray, List.set_cons_succ, List.set_cons_zero]
    refine takeH (i := 4) (oi := _) (v := ?vt3x4) 26 #[true, true, true, true, true, false, false, false, false, false, false, false, false] rfl (by kernel_rfl) (by kernel_rfl) (by kernel_rfl) rfl (by kernel_rfl) (fun _ _ _ h => h) (Or.inl ⟨by rfl, ?yt3x4⟩) (by assumption) ?rt3x4
    case yt3x4 => (intro w' hSw; (try dsimp only at hSw); have x1 := hSw.k1; rw [HIJ.out.2.1] at x1; have x2 := hSw.k2; have x5 := hSw.k5; rw [HIJ.out.1] at x5; have x7 := hSw.tr; go_simp; try with_reducible rfl)
    simp only [Act.put, List.setIfInBounds_toArray, List.set_cons_succ, List.set_cons_zero]
    refine takeH (i := 5) (oi := _) (v := ?vt3x5) 27 #[true, true, true, true, true, true, false, false, false, false, false, false, false] rfl (by kernel_rfl) (by kernel_rfl) (by kernel_rfl) rfl (by kernel_rfl) (fun _ _ _ h => h) (Or.inl ⟨by rfl, ?yt3x5⟩) (by assumption) ?rt3x5
    case yt3x5 => (intro w' hSw; (try dsimp only at hSw); have x1 := hSw.k1; rw [HIJ.out.2.1] at x1; have x2 := hSw.k2; have x5 := hSw.k5; rw [HIJ.out.1] at x5; have x7 := hSw.tr; go_simp; try with_reducible rfl)
    simp only [Act.put, List.setIfInBounds_toArray, List.set_cons_succ, List.set_cons_zero]
    refine takeH (i := 6) (oi := _) (v := ?vt3x6) 28 #[true, true, true, true, true, true, true, false, false, false, false, false, false] rfl (by kernel_rfl) (by kernel_rfl) (by kernel_rfl) rfl (by kernel_rfl) (fun _ _ _ h => h) (Or.inl ⟨by rfl, ?yt3x6⟩) (by assumption) ?rt3x6
    case yt3x6 => (intro w' hSw; (try dsimp only at hSw); have x1 := hSw.k1; rw [HIJ.out.2.1] at x1; have x2 := hSw.k2; have x5 := hSw.k5; rw [HIJ.out.1] at x5; have x7 := hSw.tr; go_simp; try with_reducible rfl)
    simp only [Act.put, List.setIfInBounds_toArray, List.set_cons_succ, List.set_cons_zero]
    refine takeH (i := 8) (oi := _) (v := ?vt3x8) 30 #[true, true, true, true, true, true, true, false, true, false, false, false, false] rfl (by kernel_rfl) (by kernel_rfl) (by kernel_rfl) rfl (by kernel_rfl) (fun _ _ _ h => h) (Or.inl ⟨by rfl, ?yt3x8⟩) (by assumption) ?rt3x8
    case yt3x8 => (intro w' hSw; (try dsimp only at hSw); have x1 := hSw.k1; rw [HIJ.out.2.1] at x1; have x2 := hSw.k2; have x5 := hSw.k5; rw [HIJ.out.1] at x5; have x7 := hSw.tr; go_simp; try with_reducible rfl)
    simp only [Act.put, List.setIfInBounds_toArray, List.set_cons_succ, List.set_cons_zero]
    refine takeH (i := 9) (oi := _) (v := ?vt3x9) 31 #[true, true, true, true, true, true, true, false, true, true, false, false, false] rfl (by kernel_rfl) (by kernel_rfl) (by kernel_rfl) rfl (by kernel_rfl) (fun _ _ _ h => h) (Or.inl ⟨by rfl, ?yt3x9⟩) (by assumption) ?rt3x9
    case yt3x9 => (intro w' hSw; (try dsimp only at hSw); have x1 := hSw.k1; rw [HIJ.out.2.1] at x1; have x2 := hSw.k2; have x5 := hSw.k5; rw [HIJ.out.1] at x5; have x7 := hSw.tr; go_simp; try with_reducible rfl)
    simp only [Act.put, List.setIfInBounds_toArray, List.set_cons_succ, List.set_cons_zero]
    refine takeH (i := 10) (oi := _) (v := ?vt3x10) 32 #[true, true, true, true, true, true, true, false, true, true, true, false, false] rfl (by kernel_rfl) (by kernel_rfl) (by kernel_rfl) rfl (by kernel_rfl) (fun _ _ _ h => h) (Or.inl ⟨by rfl, ?yt3x10⟩) (by assumption) ?rt3x10
    case yt3x10 => (intro w' hSw; (try dsimp only at hSw); have x1 := hSw.k1; rw [HIJ.out.2.1] at x1; have x2 := hSw.k2; have x5 := hSw.k5; rw [HIJ.out.1] at x5; have x7 := hSw.tr; go_simp; try with_reducible rfl)
    simp only [Act.put, List.setIfInBounds_toArray, List.set_cons_succ, List.set_cons_zero]
    refine wpAnyH_ready (rs := [7]) (by kernel_rfl) (by simp) ?_
    refine AllReadyH.cons (o := _) rfl (fun K hK => ?_) AllReadyH.nil
    go_simp
    refine (find_t b c n j ka d.kids.length kc d.kids B w.heap.size o.name _ hjn (by have := hB1.size; simp; omega) (by rw [World.cell?_drew, hB1.cell (by simpa using hbl)]; exact hc3) (by omega) hasc (by have := hB1.size; simpa using this) (HEd.out.below (hB1.trans ((Below.refl _ _).drew.mono hB1.size)) (Nat.le_refl _))).mono ?_
    rintro z w2 ⟨rfl, hb2⟩
    have h2 := (h1.next (Below.refl _ _).drew).next hb2
    go_wp2_with fail
    refine hK.out _ _ ?_ (fun hHeld => ?_)
    · exact h2
    clear hK K
    try simp only [Act.put]
    refine listH (l2 := #[true, true, true, true, true, true, true, true, true, true, true, false, false]) (by kernel_rfl) ?_
    refine takeH (i := 11) (oi := _) (v := ?vt3x11) 33 #[true, true, true, true, true, true, true, true, true, true, true, true, false] rfl (by kernel_rfl) (by kernel_rfl) (by kernel_rfl) rfl (by kernel_rfl) (fun _ _ _ h => h) (Or.inl ⟨by rfl, ?yt3x11⟩) (by assumption) ?rt3x11
    case yt3x11 => (intro w' hSw; (try dsimp only at hSw); have x1 := hSw.k1; rw [HIJ.out.2.1] at x1; have x2 := hSw.k2; have x5 := hSw.k5; rw [HIJ.out.1] at x5; have x7 := hSw.tr; go_simp; try with_reducible rfl)
    simp only [Act.put, List.setIfInBounds_toArray, List.set_cons_succ, List.set_cons_zero]
    refine wpAnyH_ready (rs := [12]) (by kernel_rfl) (by simp) ?_
    refine AllReadyH.cons (o := _) rfl (fun K hK => ?_) AllReadyH.nil
    go_simp
    refine hK.out _ _ ?_ (fun hHeld => ?_)
    · exact h2
    clear hK K
    try simp only [Act.put]
    refine listH (l2 := #[true, true, true, true, true, true, true, true, true, true, true, true, true]) (by kernel_rfl) ?_
    refine wpAnyH_done (by kernel_rfl) ?_ _

    go_wp2_with fail
    go_meet
    exact ⟨rfl, h2, hB1.trans (((Below.refl _ _).drew.mono hB1.size).trans (hb2.mono hB1.size))⟩
  obtain ⟨rfl, h3, hB3⟩ := hcut
  clear h1 hB1 e1 e2 e3 e4 e5 e7
  have e1 := h3.k1
  have e2 := h3.k2
  have e3 := h3.k3
  have e4 := h3.k4
  have e5 := h3.k5
  have e7 := h3.tr
  rw [HIJ.out.1] at e5
  rw [HIJ.out.2.1] at e1
  rw [HIJ.out.2.2] at e3
  rcases t2 : (findV d.kids o.name != (i : Int)) with _ | _
  case true =>
    have s2 : wc.cell? ⟨2, 0, none⟩ = some (.iface 224 (.pointer (some (a 2)))) := (HSE.out.below hB3 hUw).cell 2 (by omega)
    have hf : Hid (findV d.kids o.name ≠ o.id) := by show _ ≠ _; rw [HIJ.out.1]; simpa using t2
    go_wp2_with fail
    go_ret
    exact DeedEnd.no 2 (by omega) (by rw [HACT.out, if_neg (by rw [HK2.out, HK22.out]; simp), if_pos hf.out]; rfl) HOT.out hB hB3 rfl
  have hf : Hid (findV d.kids o.name = o.id) := by show _ = _; rw [HIJ.out.1]; simpa using t2
  have hz3 := h3.sz
  go_wp2_with fail
  refine (find_t b c n l la d2.kids.length lc d2.kids B w.heap.size o.name2 _ hln (by have := hB3.size; omega) (by rw [hB3.cell (by simpa using hbl)]; exact hc4) (by omega) hasc2 hB3.size (HEd2.out.below hB3 (Nat.le_refl _))).mono ?_
  rintro z w2 ⟨rfl, hb2⟩
  have h2 := h3.next hb2
  have hB2 : Below w.heap.size w w2 := hB3.trans (hb2.mono hB3.size)
  clear hb2 hB3 h3 e1 e2 e3 e4 e5 e7
  have e1 := h2.k1
  have e2 := h2.k2
  have e3 := h2.k3
  have e4 := h2.k4
  have e5 := h2.k5
  have e7 := h2.tr
  rw [HIJ.out.1] at e5
  rw [HIJ.out.2.1] at e1
  rw [HIJ.out.2.2] at e3
  rcases f0 : decide (0 ≤ findV d2.kids o.name2) with _ | _
  case true =>
    have t3 : (findV d2.kids o.name2 != -1) = true := by rw [HFV2.out]; exact f0
    have s3 : w2.cell? ⟨3, 0, none⟩ = some (.iface 224 (.pointer (some (a 3)))) := (HSE.out.below hB2 hUw).cell 3 (by omega)
    have hf2 : Hid (0 ≤ findV d2.kids o.name2) := by show _ ≤ _; simpa using f0
    clear f0
    go_wp2_with fail
    go_ret
    exact DeedEnd.no 3 (by omega) (by rw [HACT.out, if_neg (by rw [HK2.out, HK22.out]; simp), if_neg (by rw [hf.out]; simp), if_pos (by have := hf2.out; omega)]; rfl) HOT.out hB hB2 rfl
  have t3 : (findV d2.kids o.name2 != -1) = false := by rw [HFV2.out]; exact f0
  have hf2 : Hid (findV d2.kids o.name2 < 0) := by show _ < _; simpa using f0
  clear f0
  have hz2 := h2.sz
  go_wp2_with fail
  refine (implUnder (some ⟨b, 0, none⟩) n c os B w.heap.size (l : Int) (i : Int) _ hB2.size (HOA.out.below hB2 (Nat.le_refl _))).mono ?_
  rintro z w3 ⟨rfl, hb3⟩
  rw [HUV.out HK22.out]
  have h3 := h2.next hb3
  have hB3 : Below w.heap.size w w3 := hB2.trans (hb3.mono hB2.size)
  clear hb3 hB2 h2 e1 e2 e3 e4 e5 e7
  have e1 := h3.k1
  have e2 := h3.k2
  have e3 := h3.k3
  have e4 := h3.k4
  have e5 := h3.k5
  have e7 := h3.tr
  rw [HIJ.out.1] at e5
  rw [HIJ.out.2.1] at e1
  rw [HIJ.out.2.2] at e3
  rcases t4 : under os (i : Int) 33 (l : Int) with _ | _
  case true =>
    have s5 : w3.cell? ⟨5, 0, none⟩ = some (.iface 224 (.pointer (some (a 5)))) := (HSE.out.below hB3 hUw).cell 5 (by omega)
    have hu : Hid (under os o.id 33 o.dir2 = true) := by show _ = _; rw [HIJ.out.1, HIJ.out.2.2]; exact t4
    go_wp2_with fail
    go_ret
    exact DeedEnd.no 5 (by omega) (by rw [HACT.out, if_neg (by rw [HK2.out, HK22.out]; simp), if_neg (by rw [hf.out]; simp), if_neg (by have := hf2.out; omega), if_pos hu.out]; rfl) HOT.out hB hB3 rfl
  have hu : Hid (under os o.id 33 o.dir2 = false) := by show _ = _; rw [HIJ.out.1, HIJ.out.2.2]; exact t4
  have HEN : Hid (∃ (k : Nat) (e : LEnt), d.kids[k]? = some e ∧ e.name = o.name) := by
    rcases HFV.out with ⟨h, _⟩ | ⟨k, e, q1, q2, _⟩
    · rw [hf.out, HIJ.out.1] at h; omega
    · exact ⟨k, e, q1, q2⟩
  have hz3 := h3.sz
  go_wp2_with fail
  obtain ⟨ek, ee, he1, he2⟩ := HEN.out
  have HLV := leave_t B b c n j ek d ee os vs w3 (by rw [HN.out.2]; exact HN.out.1) HD.out hasc (by omega) he1 (by omega) (HOT.out.below hB3)
  rw [he2] at HLV
  refine HLV.mono ?_
  rintro z W4 ⟨rfl, vs4, hP4'⟩
  have hvf : ∀ q g, q < n → (vs q).ownBlock = some g → g < w.heap.size ∨ w.heap.size + 1 < g := fun q g hq hg => .inl (HV.out q g hq hg)
  have hP4 := (DPost.same HOT.out hB hB3).trans hP4'
  have h4 := h3.post hP4' hbl hvf
  have hvf4 := hP4'.vfar hz3 hvf
  clear HLV hP4' he1 he2 h3 e1 e2 e3 e4 e5 e7
  have e1 := h4.k1
  have e2 := h4.k2
  have e3 := h4.k3
  have e4 := h4.k4
  have e5 := h4.k5
  have e7 := h4.tr
  rw [HIJ.out.1] at e5
  rw [HIJ.out.2.1] at e1
  rw [HIJ.out.2.2] at e3
  have hBW4 : B ≤ W4.heap.size := by have := hP4.below.size; omega
  have hz4 := h4.sz
  go_wp2_with fail
  refine (turn_t B b c n j { d with kids := outL o.name d.kids } _ vs4 W4 (by rw [List.length_set, HN.out.2]; exact HN.out.1) (List.getElem?_set_self (by rw [HN.out.2, ← HN.out.1]; exact hjn)) (by show _ ≤ d.ver; omega) (by show d.ver ≤ _; omega) hBW4 hP4.own).mono ?_
  rintro z W5 ⟨rfl, hP5'⟩
  obtain ⟨vs5, hvs5⟩ : ∃ v5, v5 = vs4 := ⟨_, rfl⟩
  have hP5 := hP4.trans hP5'
  have h5 := h4.post hP5' hbl hvf4
  have hvf5 := hP5'.vfar hz4 hvf4
  rw [← hvs5] at hP5 hvf5
  clear hvs5 hP5' hP4 h4 e1 e2 e3 e4 e5 e7
  have e1 := h5.k1
  have e2 := h5.k2
  have e3 := h5.k3
  have e4 := h5.k4
  have e5 := h5.k5
  have e7 := h5.tr
  rw [HIJ.out.1] at e5
  rw [HIJ.out.2.1] at e1
  rw [HIJ.out.2.2] at e3
  have hBW5 : B ≤ W5.heap.size := by have := hP5.below.size; omega
  have hz5 := h5.sz
  go_wp2_with fail
  by_cases hlj : l = j
  case neg =>
    have HGL : Hid (((os.set j { d with kids := outL o.name d.kids }).set j { d with kids := outL o.name d.kids, ver := d.ver + 1 })[l]? = some d2) := (by show _ = _; rw [List.getElem?_set_ne (Ne.symm hlj), List.getElem?_set_ne (Ne.symm hlj)]; exact HD2.out)
    refine (enter_t B b c n l d2 ⟨o.name2, (i : Int)⟩ _ vs5 W5 (by rw [List.length_set, List.length_set, HN.out.2]; exact HN.out.1) HGL.out hasc2 (by omega) hname2 hBW5 hP5.own).mono ?_
    rintro z W6 ⟨rfl, vs6, hP6'⟩
    have h6 := h5.post hP6' hbl hvf5
    have hP6 := hP5.trans hP6'
    clear hP6' hP5 h5 e1 e2 e3 e4 e5 e7
    have e1 := h6.k1
    have e2 := h6.k2
    have e3 := h6.k3
    have e4 := h6.k4
    have e5 := h6.k5
    have e7 := h6.tr
    rw [HIJ.out.1] at e5
    rw [HIJ.out.2.1] at e1
    rw [HIJ.out.2.2] at e3
    have hBW6 : B ≤ W6.heap.size := by have := hP6.below.size; omega
    have hz6 := h6.sz
    have tn : ((l : Int) != (j : Int)) = true := by simp; omega
    go_wp2_with fail
    refine (turn_t B b c n l { d2 with kids := putL ⟨o.name2, (i : Int)⟩ d2.kids } _ vs6 W6 (by simp [HN.out.2]; exact HN.out.1) (List.getElem?_set_self (by simp [HN.out.2]; have := HN.out.1; omega)) (by show _ ≤ d2.ver; omega) (by show d2.ver ≤ _; omega) hBW6 hP6.own).mono ?_
    rintro z W7 ⟨rfl, hP7'⟩
    obtain ⟨vs9, hP⟩ : ∃ v9, DPost w W7 B b c n _ vs v9 := ⟨_, hP6.trans hP7'⟩
    clear hP6 hP7' e1 e2 e3 e4 e5 e7
    go_wp2_with fail
    go_ret
    refine ⟨0, vs9, ?_, by omega, rfl, ?_⟩
    · rw [HACT.out, if_neg (by rw [HK2.out, HK22.out]; simp), if_neg (by rw [hf.out]; simp), if_neg (by have := hf2.out; omega), if_neg (by rw [hu.out]; simp)]; rfl
    · rw [HACT.out, if_neg (by rw [HK2.out, HK22.out]; simp), if_neg (by rw [hf.out]; simp), if_neg (by have := hf2.out; omega), if_neg (by rw [hu.out]; simp), HIJ.out.1]
      show DPost w W7 B b c n (turnM (kidsL (kidsL os j (outL o.name)) l (putL ⟨o.name2, (i : Int)⟩)) j l) vs vs9
      rw [move_two HD.out HD2.out hlj]
      simpa [List.set_set] using hP
  case pos =>
    have HGL : Hid (((os.set j { d with kids := outL o.name d.kids }).set j { d with kids := outL o.name d.kids, ver := d.ver + 1 })[l]? = some { d with kids := outL o.name d.kids, ver := d.ver + 1 }) := (by show _ = _; rw [hlj]; exact List.getElem?_set_self (by rw [List.length_set, HN.out.2, ← HN.out.1]; exact hjn))
    refine (enter_t B b c n l { d with kids := outL o.name d.kids, ver := d.ver + 1 } ⟨o.name2, (i : Int)⟩ _ vs5 W5 (by rw [List.length_set, List.length_set, HN.out.2]; exact HN.out.1) HGL.out (asc_out hasc o.name) (by have := outL_le o.name d.kids; show (outL o.name d.kids).length ≤ _; omega) hname2 hBW5 hP5.own).mono ?_
    rintro z W6 ⟨rfl, vs6, hP6'⟩
    have h6 := h5.post hP6' hbl hvf5
    have hP6 := hP5.trans hP6'
    clear hP6' hP5 h5 e1 e2 e3 e4 e5 e7
    have e1 := h6.k1
    have e2 := h6.k2
    have e3 := h6.k3
    have e4 := h6.k4
    have e5 := h6.k5
    have e7 := h6.tr
    rw [HIJ.out.1] at e5
    rw [HIJ.out.2.1] at e1
    rw [HIJ.out.2.2] at e3
    have hBW6 : B ≤ W6.heap.size := by have := hP6.below.size; omega
    have hz6 := h6.sz
    have tn : ((l : Int) != (j : Int)) = false := by simp; omega
    obtain ⟨vs9, hP⟩ : ∃ v9, DPost w W6 B b c n _ vs v9 := ⟨_, hP6⟩
    clear hP6 e2 e4 e5 e7
    have HLJ : Hid (l = j) := hlj
    clear hlj
    go_wp2_with fail
    go_ret
    refine ⟨0, vs9, ?_, by omega, rfl, ?_⟩
    · rw [HACT.out, if_neg (by rw [HK2.out, HK22.out]; simp), if_neg (by rw [hf.out]; simp), if_neg (by have := hf2.out; omega), if_neg (by rw [hu.out]; simp)]; rfl
    · rw [HACT.out, if_neg (by rw [HK2.out, HK22.out]; simp), if_neg (by rw [hf.out]; simp), if_neg (by have := hf2.out; omega), if_neg (by rw [hu.out]; simp), HIJ.out.1]
      show DPost w W6 B b c n (turnM (kidsL (kidsL os j (outL o.name)) l (putL ⟨o.name2, (i : Int)⟩)) j l) vs vs9
      have HLJ' := HLJ.out
      subst HLJ'
      rw [move_one HD.out]
      simpa [List.set_set] using hP
end Go.Proofs.YtnolbfijcnldjaaGreatDoor

/- What is done: the numbers that it names, by the program's set. -/
namespace Go.Proofs.YtnolbfijcnldjaaGreatDoor
open Go.RowKit

/-! Numbers that ascend: two such lists with the same members are one. -/
def AscI (l : List Nat) : Prop := l.Pairwise (· < ·)
theorem ascI_ext : ∀ {l m : List Nat}, AscI l → AscI m → (∀ x, x ∈ l ↔ x ∈ m) → l = m
  | [], [], _, _, _ => rfl
  | [], b :: m, _, _, h => by have := (h b).2 (by simp); simp at this
  | a :: l, [], _, _, h => by have := (h a).1 (by simp); simp at this
  | a :: l, b :: m, hl, hm, h => by
    have hl' := List.pairwise_cons.1 hl
    have hm' := List.pairwise_cons.1 hm
    have hab : a = b := by
      have h1 := (h a).1 (by simp)
      have h2 := (h b).2 (by simp)
      simp at h1 h2
      rcases h1 with h1 | h1
      · exact h1
      · rcases h2 with h2 | h2
        · exact h2.symm
        · have := hl'.1 b h2; have := hm'.1 a h1; omega
    subst hab
    rw [ascI_ext hl'.2 hm'.2 fun x => ?_]
    constructor
    · intro hx
      have := hl'.1 x hx
      have := (h x).1 (by simp [hx])
      simp at this
      rcases this with e | e
      · omega
      · exact e
    · intro hx
      have := hm'.1 x hx
      have := (h x).2 (by simp [hx])
      simp at this
      rcases this with e | e
      · omega
      · exact e
theorem placeI_cons_lt {x y : Nat} {l : List Nat} (h : y < x) : placeI x (y :: l) = placeI x l + 1 := by simp [placeI, h]
theorem placeI_cons_ge {x y : Nat} {l : List Nat} (h : ¬ y < x) : placeI x (y :: l) = 0 := by simp [placeI, h]
theorem putI_cons_lt {x y : Nat} {l : List Nat} (h : y < x) : putI x (y :: l) = y :: putI x l := by
  unfold putI
  rw [placeI_cons_lt h]
  simp
  split <;> simp
theorem putI_cons_eq {x : Nat} {l : List Nat} : putI x (x :: l) = x :: l := by
  unfold putI
  rw [placeI_cons_ge (by omega)]
  simp
theorem putI_cons_gt {x y : Nat} {l : List Nat} (h : x < y) : putI x (y :: l) = x :: y :: l := by
  unfold putI
  rw [placeI_cons_ge (by omega)]
  simp; omega
theorem putI_nil (x : Nat) : putI x [] = [x] := by simp [putI, placeI]
theorem mem_putI (x y : Nat) : ∀ l, y ∈ putI x l ↔ y = x ∨ y ∈ l
  | [] => by simp [putI_nil]
  | a :: l => by
    by_cases h : a < x
    · rw [putI_cons_lt h]; simp [mem_putI x y l]; constructor <;> (intro h; rcases h with h | h | h <;> simp [h])
    · by_cases e : a = x
      · subst e; rw [putI_cons_eq]; simp
      · rw [putI_cons_gt (by omega)]; simp
theorem ascI_putI (x : Nat) : ∀ l, AscI l → AscI (putI x l)
  | [], _ => by simp [putI_nil, AscI]
  | a :: l, h => by
    have h' := List.pairwise_cons.1 h
    by_cases hlt : a < x
    · rw [putI_cons_lt hlt]
      refine List.pairwise_cons.2 ⟨fun y hy => ?_, ascI_putI x l h'.2⟩
      rcases (mem_putI x y l).1 hy with rfl | hy
      · exact hlt
      · exact h'.1 y hy
    · by_cases e : a = x
      · subst e; rw [putI_cons_eq]; exact h
      · rw [putI_cons_gt (by omega)]
        refine List.pairwise_cons.2 ⟨fun y hy => ?_, h⟩
        simp at hy
        rcases hy with rfl | hy
        · omega
        · have := h'.1 y hy; omega
theorem ascI_filter_range (p : Nat → Bool) (n : Nat) : AscI ((List.range n).filter p) :=
  List.Pairwise.filter p List.pairwise_lt_range

/-- Which numbers the set holds. -/
def inSet (k : Int) (i j l m : Nat) : Bool := m == i || (k != 5 && m == j) || (k == 4 && m == l)
def setL (s : Nat → Bool) (n : Nat) : List Nat := (List.range n).filter s
theorem opIds_set {o : LOp} (h : opOk o = true) : opIds o = setL (inSet o.kind o.id.toNat o.dir.toNat o.dir2.toNat) 32 := by
  have b1 := opOk_id h
  have b2 := opOk_dir h
  have b3 := opOk_dir2 h
  have a1 : AscI (opIds1 o) := by
    unfold opIds1
    split
    · simp [AscI]
    · exact ascI_putI _ _ (by simp [AscI])
  refine ascI_ext ?_ (ascI_filter_range _ _) fun x => ?_
  · unfold opIds
    rw [if_pos h]
    split
    · exact ascI_putI _ _ a1
    · exact a1
  · unfold opIds opIds1 setL inSet
    rw [if_pos h]
    by_cases k4 : o.kind = 4
    · simp [k4, mem_putI]
      omega
    · by_cases k5 : o.kind = 5
      · simp [k5]
        omega
      · simp [k4, k5, mem_putI]
        omega
theorem setL_yes {s : Nat → Bool} {n : Nat} (h : s n = true) : setL s (n + 1) = setL s n ++ [n] := by simp [setL, List.range_succ, List.filter_append, h]
theorem setL_no {s : Nat → Bool} {n : Nat} (h : s n = false) : setL s (n + 1) = setL s n := by simp [setL, List.range_succ, List.filter_append, h]
theorem setL_le (s : Nat → Bool) (n : Nat) : (setL s n).length ≤ n := by have := List.length_filter_le s (List.range n); simpa [setL] using this

theorem OwnInts.bare (w : World) (B : Nat) : OwnInts w B (.slice none 0 0) [] := ⟨rfl, .inl ⟨rfl, rfl⟩⟩

set_option maxHeartbeats 1000000 in
set_option maxRecDepth 20000 in
theorem list_any (b : Nat) (s : Nat → Bool) (w : World) (hrow : w.rowIs b 100 32 (fun m => .bool (s m))) :
    Calls Tryz.prog 77 #[.pointer (some ⟨b, 0, none⟩)] w fun e w' => (∃ v, e = .returned v ∧ Hid (OwnInts w' w.heap.size v (setL s 32))) ∧ Below w.heap.size w w' := by
  obtain ⟨i0, hi, hz0, hz1, hz2⟩ := info_parts infoI
  have HR : Hid (w.rowIs b 100 32 (fun m => .bool (s m))) := hrow
  have hbw : b < w.heap.size := hrow.lt
  clear hrow
  go_enter Tryz.func77, Tryz.ntmps77
  go_wp2_with fail
  go_loopg [3, 7] 32 (fun g v i wr => ∃ j : Nat, j ≤ 32 ∧ Hid (g = 32 - j) ∧ i = .int .i64 j ∧ Hid (OwnInts wr w.heap.size v (setL s j)) ∧ Below w.heap.size w wr)
  case atStart => exact ⟨0, by omega, rfl, rfl, OwnInts.bare _ _, Below.refl _ _⟩
  case round =>
    obtain ⟨j, hj, hk, rfl, hown, hb⟩ := hrel
    have hsz := hb.size
    by_cases hlt : j < 32
    · have hc : wr.cell? ⟨b, j, none⟩ = some (.bool (s j)) := by rw [hb.cell (by simpa using hbw)]; exact HR.out.cell hlt
      have hbl : b < wr.heap.size := by omega
      have hlt' : (j : Int) < 32 := by omega
      have hle := setL_le s j
      rcases hs : s j with _ | _
      · have HL : Hid (setL s (j + 1) = setL s j) := setL_no hs
        rw [hs] at hc
        clear hs
        go_wp2_with fail
        go_region
        all_goals
          go_wp2_with fail
          go_roundg (32 - (j + 1))
          case measure => have := hk.out; omega
          case rel => exact ⟨j + 1, by omega, rfl, by go_num, by show OwnInts _ _ _ _; rw [HL.out]; exact hown.out, hb.drew⟩
      · have HL : Hid (setL s (j + 1) = setL s j ++ [j]) := setL_yes hs
        rw [hs] at hc
        clear hs
        go_wp2_with fail
        go_region
        all_goals
          go_wp2_with (first
            | (at_builtin; refine wpList_append_own _ rfl _ _ 34 rfl w.heap.size 3 i0 (.int .i64 0) 1 8 Tryz.underlying34 hi hz0 hz1 hz2 rfl (by decide) _ _ _ rfl (hown.out.alloc _) ⟨wr.heap.size, 0, none⟩ 1 1 [.int .i64 (j : Int)] rfl rfl ?c1 ?c2 ?c3 ?c4 ?c5 ?_)
            | go_in)
          case c1 => intro i u hi; exact one_at hi
          case c2 => intro u hu; simp at hu; subst hu; rfl
          case c3 => unfold maxLen; omega
          case c4 => omega
          case c5 => simp; omega
          intro v' w1 hown' hgrow _
          go_wp2_with fail
          go_roundg (32 - (j + 1))
          case measure => have := hk.out; omega
          case rel => exact ⟨j + 1, by omega, rfl, by go_num, by show OwnInts _ _ _ _; rw [HL.out]; simpa [OwnInts] using hown', below_grown (hb.drew.alloc (by simpa using hsz) _) hgrow (fun k e => (hown.out.lt k e).1) (by simp; omega)⟩
    · obtain rfl : j = 32 := by omega
      go_wp2_with fail
      go_ret
      exact ⟨⟨_, rfl, hown⟩, hb⟩

def AddEnd (b i j l : Nat) (k : Int) (w : World) (e : Ending) (w' : World) : Prop :=
  e = .returned (.tuple #[]) ∧ w'.rowIs b 100 32 (fun m => .bool (inSet k i j l m)) ∧ But b w w'

theorem row_add {w : World} {b i : Nat} {s s' : Nat → Bool} (h : w.rowIs b 100 32 (fun m => .bool (s m))) (e : ∀ m, s' m = (s m || m == i)) : (w.setCell ⟨b, i, none⟩ (.bool true)).rowIs b 100 32 (fun m => .bool (s' m)) :=
  (h.set i (.bool true)).congr fun m _ => by
    rw [e m]
    by_cases hm : m = i
    · simp [hm]
    · simp [hm]
set_option maxHeartbeats 1000000 in
set_option maxRecDepth 20000 in
theorem addOf_any (b i j l : Nat) (k : Int) (nm nm2 tx : ByteArray) (w : World) (hi : i < 32) (hj : j < 32) (hl : l < 32) (hrow : w.rowIs b 100 32 (fun _ => .bool false)) :
    Calls Tryz.prog 76 #[.pointer (some ⟨b, 0, none⟩), .agg #[.int .i64 k, .int .i64 j, .string nm, .int .i64 l, .string nm2, .int .i64 i, .string tx]] w fun e w' => AddEnd b i j l k w e w' := by
  have hbw : b < w.heap.size := hrow.lt
  have hi' : (i : Int) < 32 := by omega
  have hj' : (j : Int) < 32 := by omega
  have hl' : (l : Int) < 32 := by omega
  have g1 : w.cell? ⟨b, i, none⟩ = some (.bool false) := hrow.cell hi
  have f1 : w.frozen? ⟨b, i, none⟩ = false := hrow.frozen i
  have HR : Hid (w.rowIs b 100 32 (fun _ => .bool false)) := hrow
  clear hrow
  go_enter Tryz.func76, Tryz.ntmps76
  go_upto_region 2 with fail
  go_cut [4] (fun s wx => s = .int .i64 k ∧ Hid (wx.rowIs b 100 32 (fun m => .bool (m == i))) ∧ Hid (But b w wx) ∧ w.heap.size < wx.heap.size ∧ wx.cell? ⟨w.heap.size, 1, none⟩ = some (.int .i64 j) ∧ wx.cell? ⟨w.heap.size, 3, none⟩ = some (.int .i64 l))
  case first =>
    go_region
    all_goals
      go_wp2_with fail
      go_meet
      refine ⟨rfl, ?_, ?_, by simp, by simp [go_sem], by simp [go_sem]⟩
      · show World.rowIs _ b 100 32 _
        exact ((row_add HR.out (s' := fun m => m == i) (fun m => by simp)).alloc _).drew
      · exact ((But.refl b w).set i (.bool true)).next (by simp; omega) ((Below.refl _ _).alloc (Nat.le_refl _) _).drew
  obtain ⟨rfl, hr1, hb1, hz1, c1, c3⟩ := hcut
  have hbx : b < wc.heap.size := by omega
  by_cases k5 : k = 5
  · subst k5
    go_wp2_with (first | (go_at_call 134; refine (inDir_any _ _).mono ?_; rintro e w' ⟨rfl, rfl⟩) | (go_at_call 135; refine (moves_any _ _).mono ?_; rintro e w' ⟨rfl, rfl⟩))
    go_end0
    exact ⟨rfl, hr1.out.congr fun m _ => by simp [inSet], hb1.out⟩
  have t5 : (k != 5) = true := by simpa using k5
  have g2 : wc.cell? ⟨b, j, none⟩ = some (.bool (j == i)) := hr1.out.cell hj
  have f2 : wc.frozen? ⟨b, j, none⟩ = false := hr1.out.frozen j
  have hc3 : ∀ v, (wc.setCell ⟨b, j, none⟩ v).cell? ⟨w.heap.size, 3, none⟩ = some (.int .i64 l) := fun v => by rw [World.cell?_setCell_other _ _ _ _ (by simp <;> omega)]; exact c3
  have hr2 := row_add hr1.out (i := j) (s' := fun m => m == i || m == j) (fun m => rfl)
  have g3 : (wc.setCell ⟨b, j, none⟩ (.bool true)).cell? ⟨b, l, none⟩ = some (.bool (l == i || l == j)) := hr2.cell hl
  have f3 : (wc.setCell ⟨b, j, none⟩ (.bool true)).frozen? ⟨b, l, none⟩ = false := hr2.frozen l
  have g4 := hc3 (.bool true)
  have HR2 : Hid ((wc.setCell ⟨b, j, none⟩ (.bool true)).rowIs b 100 32 (fun m => .bool (m == i || m == j))) := hr2
  clear hr2 hc3
  by_cases k4 : k = 4
  · subst k4
    go_wp2_with (go_at_call 134; refine (inDir_any _ _).mono ?_; rintro e w' ⟨rfl, rfl⟩)
    go_region
    all_goals
      go_wp2_with (go_at_call 135; refine (moves_any _ _).mono ?_; rintro e w9 ⟨rfl, rfl⟩)
      go_region
      all_goals
        go_wp2_with fail
        go_end0
        exact ⟨rfl, (row_add HR2.out (i := l) (s' := inSet 4 i j l) (fun m => by simp [inSet])).drew.drew, ((hb1.out.set j (.bool true)).set l (.bool true)).next (by simp; omega) (Below.refl _ _).drew.drew⟩
  · have t4 : (k == 4) = false := by simpa using k4
    go_wp2_with (go_at_call 134; refine (inDir_any _ _).mono ?_; rintro e w' ⟨rfl, rfl⟩)
    go_region
    all_goals
      go_wp2_with (go_at_call 135; refine (moves_any _ _).mono ?_; rintro e w9 ⟨rfl, rfl⟩)
      go_end0
      exact ⟨rfl, HR2.out.drew.congr fun m _ => by simp [inSet, t5, t4], (hb1.out.set j (.bool true)).next (by simp; omega) (Below.refl _ _).drew⟩

theorem zero110 : (#[.bool false, .bool false, .bool false, .bool false, .bool false, .bool false, .bool false, .bool false, .bool false, .bool false, .bool false, .bool false, .bool false, .bool false, .bool false, .bool false, .bool false, .bool false, .bool false, .bool false, .bool false, .bool false, .bool false, .bool false, .bool false, .bool false, .bool false, .bool false, .bool false, .bool false, .bool false, .bool false] : Array Value) = madeCells #[.bool false] 32 := by kernel_rfl
theorem row_zero (w : World) : (w.alloc (.cells #[.bool false, .bool false, .bool false, .bool false, .bool false, .bool false, .bool false, .bool false, .bool false, .bool false, .bool false, .bool false, .bool false, .bool false, .bool false, .bool false, .bool false, .bool false, .bool false, .bool false, .bool false, .bool false, .bool false, .bool false, .bool false, .bool false, .bool false, .bool false, .bool false, .bool false, .bool false, .bool false] 100)).rowIs w.heap.size 100 32 (fun _ => .bool false) := by
  rw [zero110]; exact World.rowIs_made w (.bool false) 32 100

set_option maxHeartbeats 400000 in
theorem implOpIds (o : LOp) (w : World) (hs : OpSz o) :
    Calls Tryz.prog 23 #[.agg o.val] w fun e w' => (∃ v, e = .returned v ∧ Hid (OwnInts w' w.heap.size v (opIds o))) ∧ Below w.heap.size w w' := by
  have HIM := fun w => implOpOk o w hs
  rcases hok : opOk o with _ | _
  · have hids : Hid (opIds o = []) := by show _ = _; simp [opIds, hok]
    simp only [LOp.val] at *
    go_enter Tryz.func23, Tryz.ntmps23
    go_wp2_with fail
    refine (HIM _).mono ?_
    rintro x w1 ⟨rfl, hb1⟩
    rw [hok]
    go_wp2_with fail
    go_ret
    exact ⟨⟨_, rfl, by show OwnInts _ _ _ _; rw [hids.out]; exact OwnInts.bare _ _⟩, ((Below.refl _ _).alloc (Nat.le_refl _) _).trans (hb1.mono (by simp))⟩
  · have hset : Hid (opIds o = setL (inSet o.kind o.id.toNat o.dir.toNat o.dir2.toNat) 32) := opIds_set hok
    have b1 := opOk_id hok
    have b2 := opOk_dir hok
    have b3 := opOk_dir2 hok
    obtain ⟨k, d, nm, d2, nm2, id, tx⟩ := o
    simp only [LOp.val] at *
    obtain ⟨i, rfl⟩ : ∃ i : Nat, id = i := ⟨id.toNat, by omega⟩
    obtain ⟨j, rfl⟩ : ∃ i : Nat, d = i := ⟨d.toNat, by omega⟩
    obtain ⟨l, rfl⟩ : ∃ i : Nat, d2 = i := ⟨d2.toNat, by omega⟩
    simp only [Int.toNat_natCast] at hset
    have hi : i < 32 := by omega
    have hj : j < 32 := by omega
    have hl : l < 32 := by omega
    clear b1 b2 b3
    go_enter Tryz.func23, Tryz.ntmps23
    go_wp2_with fail
    refine (HIM _).mono ?_
    rintro x w1 ⟨rfl, hb1⟩
    rw [hok]
    have hA : Below w.heap.size w w1 := ((Below.refl _ _).alloc (Nat.le_refl _) _).trans (hb1.mono (by simp))
    have hz : w.heap.size < w1.heap.size := by have := hb1.size; simp at this; omega
    have c0 : w1.cell? ⟨w.heap.size, 0, none⟩ = some (.int .i64 k) := by rw [hb1.cell (by simp)]; simp [go_sem]
    have c1 : w1.cell? ⟨w.heap.size, 1, none⟩ = some (.int .i64 j) := by rw [hb1.cell (by simp)]; simp [go_sem]
    have c2 : w1.cell? ⟨w.heap.size, 2, none⟩ = some (.string nm) := by rw [hb1.cell (by simp)]; simp [go_sem]
    have c3 : w1.cell? ⟨w.heap.size, 3, none⟩ = some (.int .i64 l) := by rw [hb1.cell (by simp)]; simp [go_sem]
    have c4 : w1.cell? ⟨w.heap.size, 4, none⟩ = some (.string nm2) := by rw [hb1.cell (by simp)]; simp [go_sem]
    have c5 : w1.cell? ⟨w.heap.size, 5, none⟩ = some (.int .i64 i) := by rw [hb1.cell (by simp)]; simp [go_sem]
    have c6 : w1.cell? ⟨w.heap.size, 6, none⟩ = some (.string tx) := by rw [hb1.cell (by simp)]; simp [go_sem]
    clear hb1
    go_wp2_with fail
    refine (addOf_any _ i j l _ _ _ _ _ hi hj hl (row_zero w1)).mono ?_
    rintro x w2 ⟨rfl, hr2, hb2⟩
    have hb3 : Below w.heap.size w w2 := (hA.alloc hA.size _).trans (hb2.below.mono hA.size)
    have hz2 : w1.heap.size < w2.heap.size := by have := hb2.below.size; simp at this; omega
    clear c0 c1 c2 c3 c4 c5 c6
    go_wp2_with fail
    refine (list_any _ _ _ hr2).mono ?_
    rintro x w3 ⟨⟨v, rfl, hv⟩, hb4⟩
    go_wp2_with fail
    go_ret
    exact ⟨⟨_, rfl, by show OwnInts _ _ _ _; rw [hset.out]; exact hv.out.mono (by omega)⟩, hb3.trans (hb4.mono (by omega))⟩
end Go.Proofs.YtnolbfijcnldjaaGreatDoor

/- Lists of what is done: compared. -/
namespace Go.Proofs.YtnolbfijcnldjaaGreatDoor
open Go.RowKit

end Go.Proofs.YtnolbfijcnldjaaGreatDoor

/- Logs: on what they lean, in memory; contracts of the law's szLog, toLog, eqLog. -/
namespace Go.Proofs.YtnolbfijcnldjaaGreatDoor
open Go.RowKit Go.ChangeShapes Go.WideShapes

structure LBase where
  id : Int
  ver : Int
/-- What a slice of bases is. -/
structure BasesAt (w : World) (L U : Nat) (a : Option Addr) (n : Nat) (bs : List LBase) : Prop where
  len : n = bs.length
  bd : n ≤ maxLen
  at_ : n ≠ 0 → ∃ b off, a = some ⟨b, off, none⟩ ∧ L ≤ b ∧ b < U ∧ ∀ i, i < n → ∃ e, bs[i]? = some e ∧ w.cell? ⟨b, off + i * 2, none⟩ = some (.int .i64 e.id) ∧ w.cell? ⟨b, off + i * 2 + 1, none⟩ = some (.int .i64 e.ver)
theorem BasesAt.below {w w' : World} {L U B : Nat} {a : Option Addr} {n : Nat} {es : List LBase} (h : BasesAt w L U a n es) (hb : Below B w w') (hU : U ≤ B) : BasesAt w' L U a n es :=
  ⟨h.len, h.bd, fun hn => by
    obtain ⟨b, off, ha, hL, hbU, hc⟩ := h.at_ hn
    refine ⟨b, off, ha, hL, hbU, fun i hi => ?_⟩
    obtain ⟨e, he, h0, h1⟩ := hc i hi
    exact ⟨e, he, by rw [hb.cell (by simp; omega)]; exact h0, by rw [hb.cell (by simp; omega)]; exact h1⟩⟩
theorem BasesAt.wide {w : World} {L U L' U' : Nat} {a : Option Addr} {n : Nat} {es : List LBase} (h : BasesAt w L U a n es) (hL' : L' ≤ L) (hU : U ≤ U') : BasesAt w L' U' a n es :=
  ⟨h.len, h.bd, fun hn => by
    obtain ⟨b, off, ha, hL, hbU, hc⟩ := h.at_ hn
    exact ⟨b, off, ha, by omega, by omega, hc⟩⟩
theorem BasesAt.blocks {w w' : World} {L U : Nat} {a : Option Addr} {n : Nat} {es : List LBase} (h : BasesAt w L U a n es) (hb : ∀ b, L ≤ b → b < U → w'.heap[b]? = w.heap[b]?) : BasesAt w' L U a n es :=
  ⟨h.len, h.bd, fun hn => by
    obtain ⟨b, off, ha, hL, hbU, hc⟩ := h.at_ hn
    refine ⟨b, off, ha, hL, hbU, fun i hi => ?_⟩
    obtain ⟨e, he, h0, h1⟩ := hc i hi
    have hk := hb b hL hbU
    exact ⟨e, he, by rw [World.cell?_of_block (w := w) hk]; exact h0, by rw [World.cell?_of_block (w := w) hk]; exact h1⟩⟩
theorem OpsAt.blocks {w w' : World} {L U : Nat} {a : Option Addr} {n : Nat} {ops : List LOp} (h : OpsAt w L U a n ops) (hb : ∀ b, L ≤ b → b < U → w'.heap[b]? = w.heap[b]?) : OpsAt w' L U a n ops :=
  ⟨h.len, h.bd, fun hn => by
    obtain ⟨b, off, ha, hL, hbU, hc⟩ := h.at_ hn
    refine ⟨b, off, ha, hL, hbU, fun i hi => ?_⟩
    obtain ⟨o, ho, hs, h0⟩ := hc i hi
    exact ⟨o, ho, hs, h0.of_block (hb b hL hbU)⟩⟩

structure LLog where
  who : Int
  seq : Int
  bases : List LBase
  list : List LOp
/-- What a log is. -/
structure LogAt (w : World) (L U : Nat) (q s : Int) (a : Option Addr) (n : Nat) (a' : Option Addr) (n' : Nat) (l : LLog) : Prop where
  q : q = l.who
  s : s = l.seq
  b : BasesAt w L U a n l.bases
  o : OpsAt w L U a' n' l.list
theorem LogAt.below {w w' : World} {L U B : Nat} {q s : Int} {a a' : Option Addr} {n n' : Nat} {l : LLog} (h : LogAt w L U q s a n a' n' l) (hb : Below B w w') (hU : U ≤ B) : LogAt w' L U q s a n a' n' l := ⟨h.q, h.s, h.b.below hb hU, h.o.below hb hU⟩
theorem LogAt.wide {w : World} {L U L' U' : Nat} {q s : Int} {a a' : Option Addr} {n n' : Nat} {l : LLog} (h : LogAt w L U q s a n a' n' l) (hL : L' ≤ L) (hU : U ≤ U') : LogAt w L' U' q s a n a' n' l := ⟨h.q, h.s, h.b.wide hL hU, h.o.wide hL hU⟩

section
variable {H : Type} {enc : TypeId × Value → H} {w : World} {spare : Nat → Bool} {held : Bool}
end

/-- Bases in a row of one's own, from its first cell on. -/
def BaseRow (w : World) (B : Nat) (a : Option Addr) (n g cap : Nat) (f : Nat → Value) : Prop := n ≠ 0 → a = some ⟨g, 0, none⟩ ∧ B ≤ g ∧ n * 2 ≤ cap ∧ w.rowIs g 121 cap f
def baseF (f : Nat → Value) (es : List LBase) : Prop := ∀ i e, es[i]? = some e → f (i * 2) = .int .i64 e.id ∧ f (i * 2 + 1) = .int .i64 e.ver
theorem BaseRow.at_ {w : World} {B : Nat} {a : Option Addr} {n g cap : Nat} {f : Nat → Value} {es : List LBase} (h : BaseRow w B a n g cap f) (hf : baseF f es) (hn : n = es.length) (hbd : n ≤ maxLen) : BasesAt w B w.heap.size a n es :=
  ⟨hn, hbd, fun h0 => by
    obtain ⟨h1, h2, h3, h4⟩ := h h0
    refine ⟨g, 0, h1, h2, h4.lt, fun i hi => ?_⟩
    have hl : es[i]? = some (es[i]'(by omega)) := by simp [show i < es.length by omega]
    obtain ⟨q0, q1⟩ := hf i _ hl
    exact ⟨_, hl, by rw [Nat.zero_add, h4.cell (by omega), q0], by rw [Nat.zero_add, h4.cell (by omega), q1]⟩⟩
end Go.Proofs.YtnolbfijcnldjaaGreatDoor

/- Logs: compared, by the program and by the specification. -/
namespace Go.Proofs.YtnolbfijcnldjaaGreatDoor
open Go.RowKit

/-! A box for a log, made and filled in a region that draws. -/
structure LogBox (W : World) (q : Nat) (x y : Int) (a : Option Addr) (n c : Nat) (a' : Option Addr) (n' c' : Nat) : Prop where
  c0 : W.cell? ⟨q, 0, none⟩ = some (.int .i64 x)
  c1 : W.cell? ⟨q, 1, none⟩ = some (.int .i64 y)
  c2 : W.cell? ⟨q, 2, none⟩ = some (.slice a n c)
  c3 : W.cell? ⟨q, 3, none⟩ = some (.slice a' n' c')
theorem LogBox.of {W W' : World} {q : Nat} {x y : Int} {a : Option Addr} {n c : Nat} {a' : Option Addr} {n' c' : Nat} (h : LogBox W q x y a n c a' n' c') (e : W'.heap[q]? = W.heap[q]?) : LogBox W' q x y a n c a' n' c' := by
  have hc : ∀ j, W'.cell? ⟨q, j, none⟩ = W.cell? ⟨q, j, none⟩ := fun j => World.cell?_of_block (w := W) e
  exact ⟨by rw [hc]; exact h.c0, by rw [hc]; exact h.c1, by rw [hc]; exact h.c2, by rw [hc]; exact h.c3⟩
section
variable {ops : Array Oper} {ac : Act} {K : Act → World → Prop} {Q : Exit → Act → World → Prop} {E : Prop} {ty : TypeId} {ps : String} {af : Array Edge}
end

end Go.Proofs.YtnolbfijcnldjaaGreatDoor

/- Logs: the numbers that a list names, of the program and of the specification. -/
namespace Go.Proofs.YtnolbfijcnldjaaGreatDoor
open Go.RowKit

/-! The plain function. -/
/-! The program's set grows. -/
end Go.Proofs.YtnolbfijcnldjaaGreatDoor

/- Logs: the numbers that a list names, of the specification. -/
namespace Go.Proofs.YtnolbfijcnldjaaGreatDoor
open Go.RowKit

theorem OwnInts.keep {w w' : World} {B g n cap : Nat} {l : List Nat} (h : OwnInts w B (.slice (some ⟨g, 0, none⟩) n cap) l) (hb : w'.heap[g]? = w.heap[g]?) : OwnInts w' B (.slice (some ⟨g, 0, none⟩) n cap) l := by
  rcases h with ⟨h0, h1⟩
  refine ⟨h0, ?_⟩
  rcases h1 with ⟨e, _⟩ | ⟨g', cap', cur, e, h2, h3, h4⟩
  · cases e
  · cases e
    exact .inr ⟨g, cap, cur, rfl, h2, by rw [hb]; exact h3, h4⟩
end Go.Proofs.YtnolbfijcnldjaaGreatDoor

/- Lists of numbers as answers: compared, marked, held. -/
namespace Go.Proofs.YtnolbfijcnldjaaGreatDoor
open Go.RowKit

/-- A list of numbers in a row of its own. -/
def IntRow (w : World) (B : Nat) (a : Option Addr) (n g cap : Nat) (f : Nat → Value) : Prop := n ≠ 0 → a = some ⟨g, 0, none⟩ ∧ B ≤ g ∧ n ≤ cap ∧ w.rowIs g 3 cap f
theorem OwnInts.row {w : World} {B : Nat} {v : Value} {l : List Nat} (h : OwnInts w B v l) : ∃ a c g cap f, v = .slice a l.length c ∧ B ≤ g ∧ IntRow w B a l.length g cap f ∧ ∀ i k, l[i]? = some k → f i = .int .i64 (k : Nat) := by
  rcases h.2 with ⟨rfl, h0⟩ | ⟨g, cap, cur, rfl, hb, hg, hnc, hcm, hcs, htake⟩
  · exact ⟨none, 0, B, 0, fun _ => default, by rw [h0], Nat.le_refl _, fun hn => absurd h0 hn, fun i k hk => by have := (List.getElem?_eq_some_iff.1 hk).1; omega⟩
  · refine ⟨_, cap, g, cap, fun i => cur[i]?.getD default, rfl, hb, fun _ => ⟨rfl, hb, hnc, ⟨cur, hg, by omega, fun i hi => by simp [Array.getElem?_eq_getElem (show i < cur.size by omega)]⟩⟩, fun i k hk => ?_⟩
    have hlt := (List.getElem?_eq_some_iff.1 hk).1
    have h1 : (cur.toList.take (l.length * 1))[i]? = some (.int .i64 (k : Nat)) := by rw [htake, List.getElem?_map, hk]; rfl
    rw [List.getElem?_take_of_lt (by omega)] at h1
    simp at h1
    simp [h1]
end Go.Proofs.YtnolbfijcnldjaaGreatDoor

/- Logs: what is ok, of the program. -/
namespace Go.Proofs.YtnolbfijcnldjaaGreatDoor
open Go.RowKit

/-- Numbers that are looked at only. -/
def IntsAt (w : World) (L U : Nat) (a : Option Addr) (n : Nat) (l : List Nat) : Prop := n = l.length ∧ ∀ i, i < n → ∃ g k, a = some ⟨g, 0, none⟩ ∧ L ≤ g ∧ g < U ∧ l[i]? = some k ∧ w.cell? ⟨g, i, none⟩ = some (.int .i64 (k : Nat))
theorem OwnInts.at_ {w : World} {B : Nat} {v : Value} {l : List Nat} (h : OwnInts w B v l) : ∃ a c, v = .slice a l.length c ∧ IntsAt w B w.heap.size a l.length l := by
  obtain ⟨a, c, rfl, hc⟩ := h.form
  exact ⟨a, c, rfl, rfl, fun i hi => by
    obtain ⟨g, k, h1, h2, h3, h4, h5⟩ := hc i hi
    exact ⟨g, k, h1, h2, h3, h4, h5⟩⟩
theorem IntsAt.below {w w' : World} {L U B : Nat} {a : Option Addr} {n : Nat} {l : List Nat} (h : IntsAt w L U a n l) (hb : Below B w w') (hU : U ≤ B) : IntsAt w' L U a n l := ⟨h.1, fun i hi => by
  obtain ⟨g, k, h1, h2, h3, h4, h5⟩ := h.2 i hi
  exact ⟨g, k, h1, h2, h3, h4, by rw [hb.cell (by simp; omega)]; exact h5⟩⟩

end Go.Proofs.YtnolbfijcnldjaaGreatDoor
