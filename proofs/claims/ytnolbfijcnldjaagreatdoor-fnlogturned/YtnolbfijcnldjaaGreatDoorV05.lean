/- Lemmas that the proofs of this seat share: Ids, Worn, HomeAll, SpecOk, Lay. -/
import Derived.Test.YtnolbfijcnldjaaGreatDoorV03
import Derived.Test.YtnolbfijcnldjaaGreatDoorV04
import Derived.BigRegion
/- The numbers that what is done names. -/
namespace Go.Proofs.YtnolbfijcnldjaaGreatDoor
open Go.RowKit

def opIds1 (o : LOp) : List Nat := if o.kind = 5 then [o.id.toNat] else putI o.dir.toNat [o.id.toNat]
def opIds (o : LOp) : List Nat := if opOk o then (if o.kind = 4 then putI o.dir2.toNat (opIds1 o) else opIds1 o) else []
theorem opOk_id {o : LOp} (h : opOk o = true) : 1 ≤ o.id ∧ o.id < 32 := by
  unfold opOk at h
  split at h
  · simp [opId, idB] at h; omega
  · split at h
    · simp [opId, idB] at h; omega
    · split at h
      · simp [opId, idB] at h; omega
      · simp at h
theorem opOk_dir {o : LOp} (h : opOk o = true) : 0 ≤ o.dir ∧ o.dir < 32 := by
  unfold opOk at h
  split at h
  · simp [opSlot, idB] at h; omega
  · split at h
    · simp [opSlot, idB] at h; omega
    · split at h
      · simp at h; omega
      · simp at h
theorem opOk_dir2 {o : LOp} (h : opOk o = true) : 0 ≤ o.dir2 ∧ o.dir2 < 32 := by
  unfold opOk at h
  split at h
  · simp [opNone2] at h; omega
  · split at h
    · simp [opSlot2, idB] at h; omega
    · split at h
      · simp [opNone2] at h; omega
      · simp at h
theorem putI_bd {x : Nat} {l : List Nat} {M : Nat} (hx : x < M) (h : ∀ i ∈ l, i < M) : ∀ i ∈ putI x l, i < M := by
  intro i hi
  unfold putI at hi
  split at hi
  · exact h i hi
  · simp at hi
    rcases hi with hi | rfl | hi
    · exact h i (List.mem_of_mem_take hi)
    · exact hx
    · exact h i (List.mem_of_mem_drop hi)
theorem putI_le (x : Nat) (l : List Nat) : (putI x l).length ≤ l.length + 1 := by
  unfold putI
  split
  · omega
  · simp; omega
theorem opIds_bd (o : LOp) : ∀ i ∈ opIds o, i < 32 := by
  unfold opIds
  split
  · rename_i h
    have h1 := opOk_id h
    have h2 := opOk_dir h
    have h3 := opOk_dir2 h
    have hb : ∀ i ∈ opIds1 o, i < 32 := by
      unfold opIds1
      split
      · intro i hi; simp at hi; omega
      · exact putI_bd (by omega) (by intro i hi; simp at hi; omega)
    split
    · exact putI_bd (by omega) hb
    · exact hb
  · intro i hi; simp at hi

theorem putI_at (B g cap n : Nat) (x : Int) (k : Nat) (e : x = k) (l : List Nat) (w : World) (hn : n = l.length) (hn2 : n ≤ 1000000) (hB : B ≤ w.heap.size) (H : OwnInts w B (.slice (some ⟨g, 0, none⟩) n cap) l) :
    Calls Tryz.prog 155 #[.slice (some ⟨g, 0, none⟩) n cap, .int .i64 x] w fun e w' => PutIEnd w B g k l e w' := by
  subst e; exact putI_any B g cap n k l w hn hn2 hB H
theorem ints_one (w : World) (B g : Nat) (x : Int) (k : Nat) (e : x = k) (hg : w.heap.size = g) (hB : B ≤ w.heap.size) : OwnInts (w.alloc (Obj.cells #[.int .i64 x] 3)) B (.slice (some ⟨g, 0, none⟩) 1 1) [k] := by
  subst e hg
  simpa [OwnInts] using World.ownsRow_lit (base := B) (e := 3) (size := 1) w #[.int .i64 (k : Int)] 1 hB (by simp [maxLen]) rfl
theorem below_put {B g : Nat} {w w1 w2 : World} {x : Nat} {l : List Nat} {e : Ending} (h : Below B w w1) (hp : PutIEnd w1 B g x l e w2) (hg : B ≤ g) (hs : B ≤ w1.heap.size) : Below B w w2 := by
  obtain ⟨_, _, _, _, _, _, hgr⟩ := hp
  exact below_grown h hgr (fun k hk => by simp at hk; omega) hs

set_option maxHeartbeats 1000000 in
set_option maxRecDepth 20000 in
theorem opIds_any (o : LOp) (w : World) (h1 : o.name.size ≤ maxLen) (h2 : o.name2.size ≤ maxLen) (h3 : o.text.size ≤ maxLen) :
    Calls Tryz.prog 154 #[.agg o.val] w fun e w' => (∃ v, e = .returned v ∧ Hid (OwnInts w' w.heap.size v (opIds o))) ∧ Below w.heap.size w w' := by
  have HOK := opOk_any o
  rcases hok : opOk o with _ | _
  · have hids : Hid (opIds o = []) := by show _ = _; simp [opIds, hok]
    simp only [LOp.val] at *
    go_enter Tryz.func154, Tryz.ntmps154
    go_wp2_with fail
    refine (HOK _ h1 h2 h3).mono ?_
    rintro x w1 ⟨rfl, rfl⟩
    rw [hok]
    go_wp2_with fail
    go_ret
    exact ⟨⟨_, rfl, by show OwnInts _ _ _ _; rw [hids.out]; exact OwnInts.empty _ _ _ (by simp) (by simp; omega)⟩, by repeat (first | exact Below.refl _ _ | refine Below.alloc ?_ (by simp <;> omega) _)⟩
  · have b1 := opOk_id hok
    have b2 := opOk_dir hok
    have b3 := opOk_dir2 hok
    have E1 : Hid (o.id = (o.id.toNat : Nat)) := by show _ = _; omega
    have E2 : Hid (o.dir = (o.dir.toNat : Nat)) := by show _ = _; omega
    have E3 : Hid (o.dir2 = (o.dir2.toNat : Nat)) := by show _ = _; omega
    clear b1 b2 b3
    by_cases k5 : o.kind = 5
    · have hids : Hid (opIds o = [o.id.toNat]) := by show _ = _; simp [opIds, opIds1, hok, k5]
      have t5 : (o.kind != 5) = false := by simp [k5]
      have t4 : (o.kind == 4) = false := by simp [k5]
      clear k5
      simp only [LOp.val] at *
      go_enter Tryz.func154, Tryz.ntmps154
      go_wp2_with fail
      refine (HOK _ h1 h2 h3).mono ?_
      rintro x w1 ⟨rfl, rfl⟩
      rw [hok]
      go_wp2_with fail
      go_ret
      exact ⟨⟨_, rfl, by show OwnInts _ _ _ _; rw [hids.out]; exact ints_one _ _ _ _ _ E1.out (by simp) (by simp; omega)⟩, by repeat (first | exact Below.refl _ _ | refine Below.alloc ?_ (by simp <;> omega) _)⟩
    · have t5 : (o.kind != 5) = true := by simp [k5]
      have hi1 : Hid (opIds1 o = putI o.dir.toNat [o.id.toNat]) := by show _ = _; simp [opIds1, k5]
      by_cases k4 : o.kind = 4
      · have hids : Hid (opIds o = putI o.dir2.toNat (putI o.dir.toNat [o.id.toNat])) := by show _ = _; rw [← hi1.out]; simp [opIds, hok, k4]
        have t4 : (o.kind == 4) = true := by simp [k4]
        clear k5 k4
        simp only [LOp.val] at *
        go_enter Tryz.func154, Tryz.ntmps154
        go_wp2_with fail
        refine (HOK _ h1 h2 h3).mono ?_
        rintro x w1 ⟨rfl, rfl⟩
        rw [hok]
        go_wp2_with fail
        have hA : Below w.heap.size w (((w.alloc (Obj.cells #[.int .i64 o.kind, .int .i64 o.dir, .string o.name, .int .i64 o.dir2, .string o.name2, .int .i64 o.id, .string o.text] 27)).alloc (Obj.cells #[.int .i64 o.kind, .int .i64 o.dir, .string o.name, .int .i64 o.dir2, .string o.name2, .int .i64 o.id, .string o.text] 27)).alloc (Obj.cells #[.int .i64 o.id] 3)) := by repeat (first | exact Below.refl _ _ | refine Below.alloc ?_ (by simp <;> omega) _)
        refine (putI_at w.heap.size _ _ _ _ _ E2.out [o.id.toNat] _ rfl (by simp) (by simp; omega) (ints_one _ _ _ _ _ E1.out (by simp) (by simp; omega))).mono ?_
        rintro x w2 hp
        have hbl := below_put hA hp (by omega) (by simp; omega)
        obtain ⟨g', n', cap', rfl, hn', hown', hgr⟩ := hp
        have HN : Hid (n' = (putI o.dir.toNat [o.id.toNat]).length) := hn'
        have hc0 : w2.cell? ⟨w.heap.size, 0, none⟩ = some (.int .i64 o.kind) := by rw [hgr.cell_far _ (by simp; omega) (by simp; omega)]; simp [go_sem]
        have hc3 : w2.cell? ⟨w.heap.size, 3, none⟩ = some (.int .i64 o.dir2) := by rw [hgr.cell_far _ (by simp; omega) (by simp; omega)]; simp [go_sem]
        have hz2 : w.heap.size ≤ w2.heap.size := hbl.size
        have hle : n' ≤ 1000 := by rw [hn']; have := putI_le o.dir.toNat [o.id.toNat]; simp at this; omega
        have hg' : w.heap.size ≤ g' := (World.ownsRow.lt hown' g' rfl).1
        have HOWN : Hid (OwnInts w2 w.heap.size (.slice (some ⟨g', 0, none⟩) n' cap') (putI o.dir.toNat [o.id.toNat])) := hown'
        clear hn' hgr hown'
        go_wp2_with fail
        refine (putI_at w.heap.size _ _ _ _ _ E3.out _ _ HN.out (by omega) hz2 HOWN.out).mono ?_
        rintro x w3 hp3
        have hbl3 := below_put hbl hp3 hg' hz2
        obtain ⟨g3, n3, cap3, rfl, hn3, hown3, hgr3⟩ := hp3
        have HOWN3 : Hid (OwnInts w3 w.heap.size (.slice (some ⟨g3, 0, none⟩) n3 cap3) (putI o.dir2.toNat (putI o.dir.toNat [o.id.toNat]))) := hown3
        clear hn3 hown3 hgr3
        go_wp2_with fail
        go_ret
        exact ⟨⟨_, rfl, by show OwnInts _ _ _ _; rw [hids.out]; exact HOWN3.out⟩, hbl3⟩
      · have hids : Hid (opIds o = putI o.dir.toNat [o.id.toNat]) := by show _ = _; rw [← hi1.out]; simp [opIds, hok, k4]
        have t4 : (o.kind == 4) = false := by simp [k4]
        clear k5 k4
        simp only [LOp.val] at *
        go_enter Tryz.func154, Tryz.ntmps154
        go_wp2_with fail
        refine (HOK _ h1 h2 h3).mono ?_
        rintro x w1 ⟨rfl, rfl⟩
        rw [hok]
        go_wp2_with fail
        have hA : Below w.heap.size w (((w.alloc (Obj.cells #[.int .i64 o.kind, .int .i64 o.dir, .string o.name, .int .i64 o.dir2, .string o.name2, .int .i64 o.id, .string o.text] 27)).alloc (Obj.cells #[.int .i64 o.kind, .int .i64 o.dir, .string o.name, .int .i64 o.dir2, .string o.name2, .int .i64 o.id, .string o.text] 27)).alloc (Obj.cells #[.int .i64 o.id] 3)) := by repeat (first | exact Below.refl _ _ | refine Below.alloc ?_ (by simp <;> omega) _)
        refine (putI_at w.heap.size _ _ _ _ _ E2.out [o.id.toNat] _ rfl (by simp) (by simp; omega) (ints_one _ _ _ _ _ E1.out (by simp) (by simp; omega))).mono ?_
        rintro x w2 hp
        have hbl := below_put hA hp (by omega) (by simp; omega)
        obtain ⟨g', n', cap', rfl, hn', hown', hgr⟩ := hp
        have HN : Hid (n' = (putI o.dir.toNat [o.id.toNat]).length) := hn'
        have hc0 : w2.cell? ⟨w.heap.size, 0, none⟩ = some (.int .i64 o.kind) := by rw [hgr.cell_far _ (by simp; omega) (by simp; omega)]; simp [go_sem]
        clear hn' hgr
        go_wp2_with fail
        go_ret
        exact ⟨⟨_, rfl, by show OwnInts _ _ _ _; rw [hids.out]; exact hown'⟩, hbl⟩
end Go.Proofs.YtnolbfijcnldjaaGreatDoor

/- Whether something that is named was turned as often as can be. -/
namespace Go.Proofs.YtnolbfijcnldjaaGreatDoor
open Go.RowKit

def oldB (os : List LObj) (i : Nat) : Bool := match os[i]? with | some o => decide (1000000 ≤ o.ver) | none => false
def wornB (os : List LObj) (l : List Nat) : Bool := l.any (oldB os)
theorem opIds_le (o : LOp) : (opIds o).length ≤ 3 := by
  have h1 : (opIds1 o).length ≤ 2 := by
    unfold opIds1
    split
    · simp
    · have := putI_le o.dir.toNat [o.id.toNat]; simp at this; omega
  unfold opIds
  split
  · split
    · have := putI_le o.dir2.toNat (opIds1 o); omega
    · omega
  · simp
theorem OwnInts.form {w : World} {B : Nat} {v : Value} {l : List Nat} (h : OwnInts w B v l) : ∃ a c, v = .slice a l.length c ∧ ∀ i, i < l.length → ∃ g k, a = some ⟨g, 0, none⟩ ∧ B ≤ g ∧ g < w.heap.size ∧ l[i]? = some k ∧ w.cell? ⟨g, i, none⟩ = some (.int .i64 (k : Nat)) := by
  by_cases hl : l = []
  · subst hl
    obtain ⟨a, c, rfl⟩ := h.nil
    exact ⟨a, c, rfl, fun i hi => by simp at hi⟩
  · obtain ⟨g, c, rfl, h1, h2, h3⟩ := h.get hl
    refine ⟨_, c, rfl, fun i hi => ?_⟩
    obtain ⟨k, hk, hc⟩ := h3 i hi
    exact ⟨g, k, rfl, h1, h2, hk, hc⟩

set_option maxHeartbeats 1000000 in
set_option maxRecDepth 20000 in
theorem worn_any (a : Option Addr) (n c : Nat) (os : List LObj) (L U : Nat) (o : LOp) (w : World) (hn : 32 ≤ n) (hU : U ≤ w.heap.size) (H : ObjsAt w L U a n os) (h1 : o.name.size ≤ maxLen) (h2 : o.name2.size ≤ maxLen) (h3 : o.text.size ≤ maxLen) :
    Calls Tryz.prog 119 #[.agg #[.slice a n c], .agg o.val] w fun e w' => e = .returned (.bool (wornB os (opIds o))) ∧ Below w.heap.size w w' := by
  have HIDS := opIds_any o
  have HBD := opIds_bd o
  have hnos := H.len
  have HNOS : Hid (n = os.length) := hnos
  obtain ⟨b, off, ha, hL, hbU, hc⟩ := H.at_ (by omega)
  subst ha
  clear hnos H
  have HCC : Hid (∀ i, i < n → ∃ p, os[i]? = some p ∧ w.cell? ⟨b, off + i * 4 + 1, none⟩ = some (.int .i64 p.ver)) := fun i hi => by
    obtain ⟨p, _, _, _, hp, _, _, hv, _⟩ := hc i hi
    exact ⟨p, hp, hv⟩
  clear hc
  simp only [LOp.val] at *
  go_enter Tryz.func119, Tryz.ntmps119
  go_wp2_with fail
  refine (HIDS _ h1 h2 h3).mono ?_
  rintro x w1 ⟨⟨v, rfl, hv⟩, hb1⟩
  have hA : Below w.heap.size w w1 := ((((Below.refl w.heap.size w).alloc (Nat.le_refl _) _).alloc (by simp) _)).trans (hb1.mono (by simp; omega))
  have hbx : w1.cell? ⟨w.heap.size, 0, none⟩ = some (.slice (some ⟨b, off, none⟩) n c) := by rw [hb1.cell (by simp; omega)]; simp [go_sem]
  have hz1 : w.heap.size + 2 ≤ w1.heap.size := by simpa using hb1.size
  obtain ⟨ia, ic, rfl, hcells⟩ := hv.out.form
  have HL : Hid (∀ i ∈ opIds o, i < 32) := HBD
  have HI : Hid (∀ i, i < (opIds o).length → ∃ g k, ia = some ⟨g, 0, none⟩ ∧ w1.cell? ⟨g, i, none⟩ = some (.int .i64 (k : Nat)) ∧ (opIds o)[i]? = some k) := fun i hi => by
    obtain ⟨g, k, h1, _, _, h4, h5⟩ := hcells i hi
    exact ⟨g, k, h1, h5, h4⟩
  clear hv hcells hb1 HBD HIDS
  obtain ⟨m, hm⟩ : ∃ m, Hid (m = (opIds o).length) := ⟨_, rfl⟩
  rw [← hm.out]
  have hm4 : m ≤ 100000 := by rw [hm.out]; have := opIds_le o; omega
  go_wp2_with fail
  go_loopg [6] m (fun k i wr => ∃ j : Nat, j ≤ m ∧ Hid (k = m - j) ∧ i = .int .i64 j ∧ Hid (∀ i, i < j → ∃ k, (opIds o)[i]? = some k ∧ oldB os k = false) ∧ Hid (∃ q, wr = w1.drewN q))
  case atStart => exact ⟨0, Nat.zero_le _, rfl, rfl, fun i hi => by omega, 0, rfl⟩
  case round =>
    obtain ⟨j, hj, hk, rfl, hno, hwr⟩ := hrel
    have hbx' : wr.cell? ⟨w.heap.size, 0, none⟩ = some (.slice (some ⟨b, off, none⟩) n c) := by obtain ⟨q, rfl⟩ := hwr.out; exact hbx
    by_cases hlt : j < m
    · obtain ⟨g, k, rfl, hck, hik⟩ := HI.out j (by rw [← hm.out]; exact hlt)
      have hk32 : k < 32 := HL.out k (List.mem_of_getElem? hik)
      have hkn : (k : Int) < (n : Int) := by omega
      obtain ⟨p, hp, hpv⟩ := HCC.out k (by omega)
      have hck' : wr.cell? ⟨g, j, none⟩ = some (.int .i64 (k : Int)) := by obtain ⟨q, rfl⟩ := hwr.out; exact hck
      have hpv' : wr.cell? ⟨b, off + k * 4 + 1, none⟩ = some (.int .i64 p.ver) := by obtain ⟨q, rfl⟩ := hwr.out; show w1.cell? _ = _; rw [hA.cell (by simp; omega)]; exact hpv
      have HIK : Hid ((opIds o)[j]? = some k) := hik
      have HP : Hid (os[k]? = some p) := hp
      clear hik hp hpv hck
      by_cases hq : 1000000 ≤ p.ver
      · have HO : Hid (wornB os (opIds o) = true) := by show _ = _; unfold wornB; rw [List.any_eq_true]; exact ⟨k, List.mem_of_getElem? HIK.out, by simp [oldB, HP.out, hq]⟩
        go_wp2_with fail
        go_quiet (fail)
        go_wp2_with fail
        go_ret
        exact ⟨ret_bool HO.out.symm, by obtain ⟨q, hq⟩ := hwr.out; rw [hq]; exact hA.trans ⟨rfl, rfl, rfl, Nat.le_refl _, fun _ _ => rfl⟩⟩
      · have HO : Hid (oldB os k = false) := by show _ = _; simp [oldB, HP.out]; omega
        have t1 : decide (1000000 ≤ p.ver) = false := by simpa using hq
        go_wp2_with fail
        go_quiet (fail)
        go_wp2_with fail
        go_roundg (m - (j + 1))
        case measure => have := hk.out; omega
        case rel =>
          refine ⟨j + 1, by omega, rfl, by go_num, fun i hi => ?_, by obtain ⟨q, hq⟩ := hwr.out; exact ⟨q + nq, by rw [hq, World.drewN_drewN]⟩⟩
          rcases Nat.lt_or_ge i j with h | h
          · exact hno.out i h
          · obtain rfl : i = j := by omega
            exact ⟨k, HIK.out, HO.out⟩
    · have HO : Hid (wornB os (opIds o) = false) := by
        show _ = _
        unfold wornB
        rw [List.any_eq_false]
        intro k hk
        obtain ⟨i, hi, hik⟩ := List.getElem_of_mem hk
        obtain ⟨k', h1, h2⟩ := hno.out i (by have := hm.out; omega)
        rw [List.getElem?_eq_getElem hi, hik] at h1
        simp at h1
        subst h1
        simp [h2]
      go_wp2_with fail
      go_ret
      exact ⟨ret_bool HO.out.symm, by obtain ⟨q, hq⟩ := hwr.out; rw [hq]; exact hA.trans ⟨rfl, rfl, rfl, Nat.le_refl _, fun _ _ => rfl⟩⟩
end Go.Proofs.YtnolbfijcnldjaaGreatDoor

/- All names of all directories as one list; where something is at home, and the way up: contracts of the specification. -/
namespace Go.Proofs.YtnolbfijcnldjaaGreatDoor
open Go.RowKit

def tagged (d : Nat) (es : List LEnt) : List (Nat × LEnt) := es.map (fun e => (d, e))
def flatFrom : Nat → List LObj → List (Nat × LEnt)
  | _, [] => []
  | d, o :: l => tagged d o.kids ++ flatFrom (d + 1) l
/-- All names of all directories, in order. -/
def flat (t : List LObj) : List (Nat × LEnt) := flatFrom 0 t
theorem flatFrom_append (d : Nat) (l m : List LObj) : flatFrom d (l ++ m) = flatFrom d l ++ flatFrom (d + l.length) m := by
  induction l generalizing d with
  | nil => simp [flatFrom]
  | cons x l ih => simp [flatFrom, ih, Nat.add_assoc, Nat.add_comm 1]
theorem flat_take {t : List LObj} {i : Nat} {o : LObj} (h : t[i]? = some o) : flat (t.take (i + 1)) = flat (t.take i) ++ tagged i o.kids := by
  have hi : i < t.length := (List.getElem?_eq_some_iff.1 h).1
  have ho : t[i] = o := (List.getElem?_eq_some_iff.1 h).2
  rw [List.take_succ_eq_append_getElem hi, ho]
  unfold flat
  rw [flatFrom_append]
  simp [flatFrom, Nat.min_eq_left (Nat.le_of_lt hi)]
theorem flat_split {t : List LObj} {i : Nat} {o : LObj} (h : t[i]? = some o) : ∃ r, flat t = flat (t.take i) ++ tagged i o.kids ++ r := by
  have e : t = t.take (i + 1) ++ t.drop (i + 1) := (List.take_append_drop _ _).symm
  refine ⟨flatFrom (0 + (t.take (i + 1)).length) (t.drop (i + 1)), ?_⟩
  rw [← flat_take h]
  conv => lhs; rw [e]
  exact flatFrom_append 0 _ _
theorem tagged_split {es : List LEnt} {d k : Nat} {e : LEnt} (h : es[k]? = some e) : ∃ r, tagged d es = tagged d (es.take k) ++ (d, e) :: r := by
  have hk : k < es.length := (List.getElem?_eq_some_iff.1 h).1
  have he : es[k] = e := (List.getElem?_eq_some_iff.1 h).2
  refine ⟨tagged d (es.drop (k + 1)), ?_⟩
  unfold tagged
  rw [← he, ← List.map_cons (f := fun e => (d, e)), ← List.map_append, ← List.drop_eq_getElem_cons hk, List.take_append_drop]
theorem tagged_take {es : List LEnt} {d k : Nat} {e : LEnt} (h : es[k]? = some e) : tagged d (es.take (k + 1)) = tagged d (es.take k) ++ [(d, e)] := by
  have hk : k < es.length := (List.getElem?_eq_some_iff.1 h).1
  have he : es[k] = e := (List.getElem?_eq_some_iff.1 h).2
  unfold tagged
  rw [List.take_succ_eq_append_getElem hk, he]; simp

def homeIn (p : List (Nat × LEnt)) (id : Int) : Int := match p.find? (fun x => x.2.id == id) with | some x => x.1 | none => -1
def nameIn (p : List (Nat × LEnt)) (id : Int) : ByteArray := match p.find? (fun x => x.2.id == id) with | some x => x.2.name | none => ⟨#[]⟩
/-- No name of the list is of this number. -/
def Off (p : List (Nat × LEnt)) (id : Int) : Prop := ∀ x ∈ p, x.2.id ≠ id
theorem off_nil (id : Int) : Off [] id := fun x hx => by simp at hx
theorem off_append {p q : List (Nat × LEnt)} {id : Int} : Off (p ++ q) id ↔ Off p id ∧ Off q id := by
  unfold Off
  constructor
  · exact fun h => ⟨fun x hx => h x (List.mem_append_left _ hx), fun x hx => h x (List.mem_append_right _ hx)⟩
  · rintro ⟨h, k⟩ x hx
    rcases List.mem_append.1 hx with hx | hx
    · exact h x hx
    · exact k x hx
theorem off_one {x : Nat × LEnt} {id : Int} : Off [x] id ↔ x.2.id ≠ id := by simp [Off]
theorem find_off {p : List (Nat × LEnt)} {id : Int} (h : Off p id) : p.find? (fun x => x.2.id == id) = none := by
  rw [List.find?_eq_none]
  intro x hx
  simpa using h x hx
theorem homeIn_off {p : List (Nat × LEnt)} {id : Int} (h : Off p id) : homeIn p id = -1 := by unfold homeIn; rw [find_off h]
theorem homeIn_at {p : List (Nat × LEnt)} {x : Nat × LEnt} {r : List (Nat × LEnt)} {id : Int} (h : Off p id) (hx : x.2.id = id) : homeIn (p ++ x :: r) id = x.1 := by
  unfold homeIn
  rw [List.find?_append, find_off h]
  simp [hx]
theorem homeIn_flat {t : List LObj} {i k : Nat} {o : LObj} {e : LEnt} {id : Int} (ho : t[i]? = some o) (he : o.kids[k]? = some e) (h1 : Off (flat (t.take i)) id) (h2 : Off (tagged i (o.kids.take k)) id) (h : e.id = id) : homeIn (flat t) id = i := by
  obtain ⟨r, hr⟩ := flat_split ho
  obtain ⟨r', hr'⟩ := tagged_split (d := i) he
  rw [hr, hr', List.append_assoc, List.append_assoc, ← List.append_assoc (flat (t.take i)), List.cons_append]
  exact homeIn_at (off_append.2 ⟨h1, h2⟩) h
theorem off_next {es : List LEnt} {d k : Nat} {e : LEnt} {id : Int} (he : es[k]? = some e) (h : Off (tagged d (es.take k)) id) (hn : e.id ≠ id) : Off (tagged d (es.take (k + 1))) id := by
  rw [tagged_take he]
  exact off_append.2 ⟨h, off_one.2 hn⟩
theorem off_dir {t : List LObj} {i : Nat} {o : LObj} {id : Int} (ho : t[i]? = some o) (h1 : Off (flat (t.take i)) id) (h2 : Off (tagged i o.kids) id) : Off (flat (t.take (i + 1))) id := by
  rw [flat_take ho]
  exact off_append.2 ⟨h1, h2⟩

theorem ret_int {k : IntKind} {a b : Int} (h : a = b) : Ending.returned (.int k a) = .returned (.int k b) := by rw [h]

set_option maxHeartbeats 1000000 in
theorem l1Home_any (a : Option Addr) (n c : Nat) (os : List LObj) (L U : Nat) (id : Int) (w : World) (hU : U ≤ w.heap.size) (H : ObjsAt w L U a n os) :
    Calls Tryz.prog 126 #[.agg #[.slice a n c], .int .i64 id] w fun e w' => e = .returned (.int .i64 (homeIn (flat os) id)) ∧ w' = w.alloc (.cells #[.slice a n c] 25) := by
  have hbd := H.bd
  unfold maxLen at hbd
  have hB : Below w.heap.size w (w.alloc (.cells #[.slice a n c] 25)) := (Below.refl _ _).alloc (Nat.le_refl _) _
  go_enter Tryz.func126, Tryz.ntmps126
  go_wp2
  go_loopg [5] n (fun g i wr => ∃ j : Nat, j ≤ n ∧ Hid (g = n - j) ∧ i = .int .i64 j ∧ Hid (Off (flat (os.take j)) id) ∧ wr = w.alloc (.cells #[.slice a n c] 25))
  case atStart => exact ⟨0, Nat.zero_le _, by show _ = _; omega, rfl, off_nil id, rfl⟩
  case round =>
    obtain ⟨j, hj, hk, rfl, hq, rfl⟩ := hrel
    by_cases hlt : j < n
    · obtain ⟨b, off, ha, hL, hbU, hc⟩ := H.at_ (by omega)
      subst ha
      obtain ⟨o, ka, kn, kc, ho, hsz, hc0, hc1, hc2, hc3, hks⟩ := hc j hlt
      have HO : Hid (os[j]? = some o) := ho
      clear ho hc hc0 hc1 hc2
      have hbl : b < w.heap.size := by omega
      have hkb := hks.bd
      unfold maxLen at hkb
      have HKL : Hid (kn = o.kids.length) := hks.len
      go_wp2_with fail
      go_loopg [6] kn (fun g i wr => ∃ m : Nat, m ≤ kn ∧ Hid (g = kn - m) ∧ i = .int .i64 m ∧ Hid (Off (tagged j (o.kids.take m)) id) ∧ wr = w.alloc (.cells #[.slice (some ⟨b, off, none⟩) n c] 25))
      case atStart => exact ⟨0, Nat.zero_le _, by show _ = _; omega, rfl, off_nil id, rfl⟩
      case round =>
        obtain ⟨m, hm, hk2, rfl, hq2, rfl⟩ := hrel
        by_cases hlt2 : m < kn
        · obtain ⟨b2, off2, ha2, hL2, hbU2, hd⟩ := hks.at_ (by omega)
          subst ha2
          obtain ⟨e, he, hez, hd0, hd1⟩ := hd m hlt2
          have HE : Hid (o.kids[m]? = some e) := he
          clear he hd hd0
          have hbl2 : b2 < w.heap.size := by omega
          by_cases hid : e.id = id
          · have t1 : (e.id == id) = true := by simpa using hid
            have HI : Hid (e.id = id) := hid
            clear hid
            go_wp2_with fail
            go_ret
            exact ⟨ret_int (homeIn_flat HO.out HE.out hq.out hq2.out HI.out).symm, rfl⟩
          · have t1 : (e.id == id) = false := by simpa using hid
            have HI : Hid (e.id ≠ id) := hid
            clear hid
            go_wp2_with fail
            go_roundg (kn - (m + 1))
            case measure => have := hk2.out; omega
            case rel => exact ⟨m + 1, by omega, rfl, by go_num, off_next HE.out hq2.out HI.out, rfl⟩
        · go_wp2_with fail
          go_roundg (n - (j + 1))
          case measure => have := hk.out; omega
          case rel =>
            have h2 := hq2.out
            rw [List.take_of_length_le (by have := HKL.out; omega)] at h2
            exact ⟨j + 1, by omega, rfl, by go_num, off_dir HO.out hq.out h2, rfl⟩
    · go_wp2_with fail
      go_ret
      have h2 := hq.out
      rw [List.take_of_length_le (by have := H.len; omega)] at h2
      exact ⟨ret_int (homeIn_off h2).symm, rfl⟩

/-- So many steps up from an object, as long as it is above 0. -/
def climb (t : List LObj) : Nat → Int → Int
  | 0, id => id
  | k + 1, id => if 0 < id then climb t k (homeIn (flat t) id) else id
theorem climb_stop (t : List LObj) (k : Nat) {id : Int} (h : ¬ 0 < id) : climb t k id = id := by
  cases k with
  | zero => rfl
  | succ k => unfold climb; rw [if_neg h]
theorem climb_step (t : List LObj) (k : Nat) {id : Int} (h : 0 < id) : climb t (k + 1) id = climb t k (homeIn (flat t) id) := by
  rw [climb, if_pos h]
def topB (t : List LObj) (id : Int) : Bool := climb t 32 id == 0

set_option maxHeartbeats 1000000 in
theorem l1Top_any (a : Option Addr) (n c : Nat) (os : List LObj) (L U : Nat) (id : Int) (w : World) (hU : U ≤ w.heap.size) (H : ObjsAt w L U a n os) :
    Calls Tryz.prog 73 #[.agg #[.slice a n c], .int .i64 id] w fun e w' => e = .returned (.bool (topB os id)) ∧ Below w.heap.size w w' := by
  have hB : ∀ o1, Below w.heap.size w (w.alloc o1) := fun o1 => (Below.refl _ _).alloc (Nat.le_refl _) _
  go_enter Tryz.func73, Tryz.ntmps73
  go_wp2
  go_loopg [1, 5] 32 (fun g d i wr => ∃ j : Nat, j ≤ 32 ∧ Hid (g = 32 - j) ∧ i = .int .i64 j ∧ (∃ x : Int, d = .int .i64 x ∧ Hid (climb os 32 id = climb os (32 - j) x)) ∧ wr.cell? ⟨w.heap.size, 0, none⟩ = some (.slice a n c) ∧ w.heap.size < wr.heap.size ∧ Below w.heap.size w wr)
  case atStart => exact ⟨0, Nat.zero_le _, by show _ = _; omega, rfl, ⟨id, rfl, rfl⟩, by simp [go_sem], by simp, hB _⟩
  case round =>
    obtain ⟨j, hj, hk, rfl, ⟨x, rfl, hq⟩, hx, hz, hb⟩ := hrel
    by_cases hlt : j < 32
    · have hlt' : (j : Int) < 32 := by omega
      by_cases hx0 : 0 < x
      · go_wp2_with fail
        refine (l1Home_any _ _ _ _ L U _ _ (by have := hb.size; omega) (H.below hb hU)).mono ?_
        rintro y w1 ⟨rfl, rfl⟩
        go_wp2_with fail
        go_roundg (32 - (j + 1))
        case measure => have := hk.out; omega
        case rel =>
          have h1 := hq.out
          rw [show 32 - j = (32 - (j + 1)) + 1 by omega, climb_step _ _ hx0] at h1
          exact ⟨j + 1, by omega, rfl, by go_num, ⟨_, rfl, h1⟩, by rw [((Below.refl wr.heap.size wr).alloc (Nat.le_refl _) _).cell (by simpa using hz)]; exact hx, by simp; omega, hb.alloc hb.size _⟩
      · go_wp2_with fail
        go_ret
        have h1 := hq.out
        rw [climb_stop os (32 - j) (id := x) (by omega)] at h1
        exact ⟨ret_bool (by unfold topB; rw [h1]), hb⟩
    · have hlt' : ¬ (j : Int) < 32 := by omega
      go_wp2_with fail
      go_ret
      have h1 := hq.out
      rw [show 32 - j = 0 by omega] at h1
      have h2 : climb os 32 id = x := h1
      exact ⟨ret_bool (by unfold topB; rw [h2]), hb⟩

def cnt (p : List (Nat × LEnt)) (id : Int) : Nat := p.countP (fun x => x.2.id == id)
theorem cnt_append (p q : List (Nat × LEnt)) (id : Int) : cnt (p ++ q) id = cnt p id + cnt q id := by unfold cnt; rw [List.countP_append]
theorem cnt_one (x : Nat × LEnt) (id : Int) : cnt [x] id = if x.2.id = id then 1 else 0 := by
  unfold cnt; rw [List.countP_singleton]; simp
theorem cnt_le (p : List (Nat × LEnt)) (id : Int) : cnt p id ≤ p.length := List.countP_le_length
theorem flatFrom_len {M : Nat} : ∀ (d : Nat) (l : List LObj), (∀ o ∈ l, o.kids.length ≤ M) → (flatFrom d l).length ≤ l.length * M
  | _, [], _ => by simp [flatFrom]
  | d, o :: l, h => by
    have h1 := flatFrom_len (M := M) (d + 1) l (fun o' ho => h o' (List.mem_cons_of_mem _ ho))
    have h2 := h o (List.mem_cons_self ..)
    simp only [flatFrom, List.length_append, List.length_cons, tagged, List.length_map, Nat.succ_mul]
    omega
/-- All numbers that the names name are objects'. -/
def IdsIn (t : List LObj) : Prop := ∀ o ∈ t, ∀ e ∈ o.kids, 0 < e.id ∧ e.id < 32

theorem info3 : (Tryz.prog.info? 3).map (fun i => (i.zero.map (·.cells), i.size, i.bytes)) = some (some #[.int .i64 0], 1, 8) := by kernel_rfl

end Go.Proofs.YtnolbfijcnldjaaGreatDoor

/- How often each object is named: the contract of the specification. -/
namespace Go.Proofs.YtnolbfijcnldjaaGreatDoor
open Go.RowKit

def zs32 : Array Value := madeCells #[.int .i64 0] 32
theorem make32 (w : World) : (Instr.makeSlice 34 (.int .i64 32) (.int .i64 32)).run Tryz.prog w = .ok (.slice (some ⟨w.heap.size, 0, none⟩) 32 32) (w.alloc (.cells zs32 3)) := by
  have h := run_make_many 34 3 _ 1 8 Tryz.underlying34 info3 32 (by omega) (by omega) w
  have e : ((32 : Nat) : Int) = 32 := by omega
  rw [e] at h
  exact h

theorem cnt_snoc {es : List LEnt} {m : Nat} {e : LEnt} (h : es[m]? = some e) (p : List (Nat × LEnt)) (j : Nat) (i : Int) :
    cnt (p ++ tagged j (es.take (m + 1))) i = cnt (p ++ tagged j (es.take m)) i + if e.id = i then 1 else 0 := by
  rw [tagged_take h, ← List.append_assoc, cnt_append _ [(j, e)], cnt_one]

set_option maxHeartbeats 1000000 in
theorem l1Homes_any (a : Option Addr) (n c : Nat) (os : List LObj) (L U : Nat) (w : World) (hn : n ≤ 32) (hS : Sizes os 1048576) (hI : IdsIn os) (hU : U ≤ w.heap.size) (H : ObjsAt w L U a n os) :
    Calls Tryz.prog 72 #[.agg #[.slice a n c]] w fun e w' => (∃ b, e = .returned (.slice (some ⟨b, 0, none⟩) 32 32) ∧ w.heap.size ≤ b ∧ w'.rowIs b 3 32 (fun i => .int .i64 (cnt (flat os) i))) ∧ Below w.heap.size w w' := by
  have hmk := make32
  have hB : ∀ o1 o2, Below w.heap.size w ((w.alloc o1).alloc o2) := fun o1 o2 => ((Below.refl _ _).alloc (Nat.le_refl _) _).alloc (by simp) _
  have hrow : ((w.alloc (.cells #[.slice a n c] 25)).alloc (.cells zs32 3)).rowIs (w.heap.size + 1) 3 32 (fun i => .int .i64 (cnt (flat (os.take 0)) i)) := by
    have := World.rowIs_made (w.alloc (.cells #[.slice a n c] 25)) (.int .i64 0) 32 3
    simpa [flat, flatFrom, cnt, zs32] using this
  have HROW : Hid (((w.alloc (.cells #[.slice a n c] 25)).alloc (.cells zs32 3)).rowIs (w.heap.size + 1) 3 32 (fun i => .int .i64 (cnt (flat (os.take 0)) i))) := hrow
  clear hrow
  go_enter Tryz.func72, Tryz.ntmps72
  go_wp2
  go_loopg [4] n (fun g i wr => ∃ j : Nat, j ≤ n ∧ Hid (g = n - j) ∧ i = .int .i64 j ∧ Hid (wr.rowIs (w.heap.size + 1) 3 32 (fun i => .int .i64 (cnt (flat (os.take j)) i))) ∧ wr.cell? ⟨w.heap.size, 0, none⟩ = some (.slice a n c) ∧ Below w.heap.size w wr)
  case atStart => exact ⟨0, Nat.zero_le _, by show _ = _; omega, rfl, HROW.out, by simp [go_sem], hB _ _⟩
  case round =>
    obtain ⟨j, hj, hk, rfl, hq, hx, hb⟩ := hrel
    by_cases hlt : j < n
    · obtain ⟨b, off, ha, hL, hbU, hc⟩ := H.at_ (by omega)
      subst ha
      obtain ⟨o, ka, kn, kc, ho, hsz, hc0, hc1, hc2, hc3, hks⟩ := hc j hlt
      have hkn : kn ≤ 1048576 := by rw [hks.len]; exact hS o (List.mem_of_getElem? ho)
      have HO : Hid (os[j]? = some o) := ho
      clear ho hc hc0 hc1 hc2
      have HKL : Hid (kn = o.kids.length) := hks.len
      go_wp2_with fail
      go_loopg [5] kn (fun g i wi => ∃ m : Nat, m ≤ kn ∧ Hid (g = kn - m) ∧ i = .int .i64 m ∧ Hid (wi.rowIs (w.heap.size + 1) 3 32 (fun i => .int .i64 (cnt (flat (os.take j) ++ tagged j (o.kids.take m)) i))) ∧ wi.cell? ⟨w.heap.size, 0, none⟩ = some (.slice (some ⟨b, off, none⟩) n c) ∧ Below w.heap.size w wi)
      case atStart => exact ⟨0, Nat.zero_le _, by show _ = _; omega, rfl, by show World.rowIs _ _ _ _ _; simpa [tagged] using hq.out, hx, hb⟩
      case round =>
        clear hx hb hq
        obtain ⟨m, hm, hk2, rfl, hq2, hx, hb2⟩ := hrel
        rw [← hb2.cell (by simp; omega)] at hc3
        by_cases hlt2 : m < kn
        · obtain ⟨b2, off2, ha2, hL2, hbU2, hd⟩ := hks.at_ (by omega)
          subst ha2
          obtain ⟨e, he, hez, hd0, hd1⟩ := hd m hlt2
          obtain ⟨id, hid, hid0⟩ : ∃ id : Nat, e.id = id ∧ id < 32 := by
            have := hI o (List.mem_of_getElem? HO.out) e (List.mem_of_getElem? he)
            exact ⟨e.id.toNat, by omega, by omega⟩
          rw [hid] at hd1
          have HE : Hid (o.kids[m]? = some e ∧ e.id = id) := ⟨he, hid⟩
          clear he hd hd0 hid
          rw [← hb2.cell (by simp; omega)] at hd1
          have g0 := hq2.out.cell (i := id) hid0
          have z0 := hq2.out.frozen id
          have hcn : cnt (flat (os.take j) ++ tagged j (o.kids.take m)) id ≤ 40000000 := by
            have h1 := cnt_le (flat (os.take j) ++ tagged j (o.kids.take m)) id
            have h2 := flatFrom_len (M := 1048576) 0 (os.take j) (fun o' ho' => hS o' (List.mem_of_mem_take ho'))
            have h3 : (os.take j).length * 1048576 ≤ 32 * 1048576 := Nat.mul_le_mul_right _ (by simp; omega)
            have h4 : (tagged j (o.kids.take m)).length ≤ 1048576 := by simp [tagged]; have := HKL.out; omega
            rw [List.length_append] at h1
            unfold flat at h1 ⊢
            omega
          have hid1 : (0 : Int) ≤ (id : Int) := by omega
          have hid2 : (id : Int) < 32 := by omega
          have hlt' : (j : Int) < (n : Int) := by omega
          have hlt2' : (m : Int) < (kn : Int) := by omega
          generalize hC : cnt (flat (os.take j) ++ tagged j (o.kids.take m)) id = C at g0 hcn
          have HC : Hid (cnt (flat (os.take j) ++ tagged j (o.kids.take m)) id = C) := hC
          clear hC
          go_wp2_with fail
          go_region
          go_wp2_with fail
          go_roundg (kn - (m + 1))
          case measure => have := hk2.out; omega
          case rel =>
            refine ⟨m + 1, by omega, rfl, by go_num, ?_, ?_, ?_⟩
            · have h1 := (hq2.out.set id (.int .i64 (C + 1))).drew
              refine h1.congr fun i hi => ?_
              rw [cnt_snoc HE.out.1]
              by_cases hii : i = id
              · subst hii
                rw [if_pos rfl, if_pos HE.out.2, HC.out]
                simp
              · rw [if_neg hii, if_neg (by have := HE.out.2; show ¬ e.id = _; omega), Nat.add_zero]
            · show World.cell? _ _ = _
              rw [World.cell?_of_block (w := wr) (Below.heap_setCell wr _ _ w.heap.size (by simp))]
              exact hx
            · exact (hb2.setCell (by simp) _).drew
        · go_wp2_with fail
          go_roundg (n - (j + 1))
          case measure => have := hk.out; omega
          case rel =>
            refine ⟨j + 1, by omega, rfl, by go_num, ?_, hx, hb2⟩
            have h1 := hq2.out
            rw [List.take_of_length_le (l := o.kids) (i := m) (by have := HKL.out; omega)] at h1
            rw [flat_take HO.out]
            exact h1
    · go_wp2_with fail
      go_ret
      have h1 := hq.out
      rw [List.take_of_length_le (by have := H.len; omega)] at h1
      exact ⟨⟨w.heap.size + 1, rfl, by omega, h1⟩, hb⟩
end Go.Proofs.YtnolbfijcnldjaaGreatDoor

/- What is ok of a tree: the contract of the specification. -/
namespace Go.Proofs.YtnolbfijcnldjaaGreatDoor
open Go.RowKit

def kindOf (t : List LObj) (i : Nat) : Int := match t[i]? with | some o => o.kind | none => 0
theorem kindOf_at {t : List LObj} {i : Nat} {o : LObj} (h : t[i]? = some o) : kindOf t i = o.kind := by unfold kindOf; rw [h]
def specAt (t : List LObj) (i : Nat) : Bool :=
  if kindOf t i = 0 then decide (cnt (flat t) i = 0) else decide (cnt (flat t) i = 1) && topB t i
def specOk (t : List LObj) : Bool := decide (t.length = 32) && decide (kindOf t 0 = 2) && t.all objB && (List.range 31).all (fun i => specAt t (i + 1))
theorem specOk_len {t : List LObj} (h : t.length ≠ 32) : specOk t = false := by simp [specOk, h]
theorem specOk_top {t : List LObj} (h : kindOf t 0 ≠ 2) : specOk t = false := by simp [specOk, h]
theorem specOk_obj {t : List LObj} {i : Nat} {o : LObj} (ho : t[i]? = some o) (h : objB o = false) : specOk t = false := by
  have : t.all objB = false := by rw [List.all_eq_false]; exact ⟨o, List.mem_of_getElem? ho, by simp [h]⟩
  simp [specOk, this]
theorem specOk_at {t : List LObj} {i : Nat} (h0 : 1 ≤ i) (h1 : i < 32) (h : specAt t i = false) : specOk t = false := by
  have : (List.range 31).all (fun i => specAt t (i + 1)) = false := by
    rw [List.all_eq_false]
    exact ⟨i - 1, by simp; omega, by rw [show i - 1 + 1 = i by omega, h]; simp⟩
  unfold specOk
  rw [this, Bool.and_false]
theorem specOk_yes {t : List LObj} (h0 : t.length = 32) (h1 : kindOf t 0 = 2) (h2 : ∀ (i : Nat) o, t[i]? = some o → objB o = true) (h3 : ∀ i, 1 ≤ i → i < 32 → specAt t i = true) : specOk t = true := by
  have a : t.all objB = true := by
    rw [List.all_eq_true]
    intro o ho
    obtain ⟨i, hi⟩ := List.getElem?_of_mem ho
    exact h2 i o hi
  have b : (List.range 31).all (fun i => specAt t (i + 1)) = true := by
    rw [List.all_eq_true]
    intro i hi
    exact h3 (i + 1) (by omega) (by have := List.mem_range.1 hi; omega)
  unfold specOk
  rw [a, b]
  simp [h0, h1]
theorem specAt_none {t : List LObj} {i : Nat} (h : kindOf t i = 0) : specAt t i = decide (cnt (flat t) i = 0) := by unfold specAt; rw [if_pos h]
theorem specAt_live {t : List LObj} {i : Nat} (h : kindOf t i ≠ 0) : specAt t i = (decide (cnt (flat t) i = 1) && topB t i) := by unfold specAt; rw [if_neg h]
theorem kids_of_ok {o : LObj} (h : objB o = true) : ∀ e ∈ o.kids, entB e = true := by
  intro e he
  unfold objB at h
  rw [Bool.and_eq_true] at h
  have h2 := h.2
  unfold partsB at h2
  have hne : ¬ o.kids.length = 0 := by
    intro hn
    rw [List.length_eq_zero_iff.1 hn] at he
    simp at he
  split at h2
  · simp [nil?, hne] at h2
  · split at h2
    · simp [nil?, hne] at h2
    · split at h2
      · rw [Bool.and_eq_true] at h2
        obtain ⟨i, hi⟩ := List.getElem?_of_mem he
        have h3 := h2.2
        unfold kidsB at h3
        rw [List.all_eq_true] at h3
        have h4 := h3 i (by have := (List.getElem?_eq_some_iff.1 hi).1; simpa using this)
        apply Classical.byContradiction
        intro hc
        rw [kidAt_ent hi (by simpa using hc)] at h4
        cases h4
      · cases h2
theorem ent_ids {e : LEnt} (h : entB e = true) : 0 < e.id ∧ e.id < 32 := by
  unfold entB at h
  simp at h
  omega
theorem ids_of_ok {t : List LObj} (h : ∀ (i : Nat) o, t[i]? = some o → objB o = true) : IdsIn t := fun o ho e he => by
  obtain ⟨i, hi⟩ := List.getElem?_of_mem ho
  exact ent_ids (kids_of_ok (h i o hi) e he)

set_option maxHeartbeats 2000000 in
theorem specTreeOk (a : Option Addr) (n c : Nat) (os : List LObj) (L U : Nat) (w : World) (hS : Sizes os 1048576) (hU : U ≤ w.heap.size) (H : ObjsAt w L U a n os) :
    Calls Tryz.prog 21 #[.agg #[.slice a n c]] w fun e w' => e = .returned (.bool (specOk os)) ∧ Below w.heap.size w w' := by
  have hbd := H.bd
  unfold maxLen at hbd
  have hB : ∀ o1, Below w.heap.size w (w.alloc o1) := fun o1 => (Below.refl _ _).alloc (Nat.le_refl _) _
  by_cases hn : n = 32
  · subst hn
    have hlen := H.len
    have HL : Hid (os.length = 32) := hlen.symm
    clear hlen
    obtain ⟨b, off, ha, hL, hbU, hc⟩ := H.at_ (by omega)
    subst ha
    have hbl : b < w.heap.size := by omega
    obtain ⟨o0, ka0, kn0, kc0, ho0, hsz0, hc0, _⟩ := hc 0 (by omega)
    simp only [Nat.zero_mul, Nat.add_zero] at hc0
    have HO0 : Hid (kindOf os 0 = o0.kind) := kindOf_at ho0
    clear ho0
    by_cases hk0 : o0.kind = 2
    · have t0 : (o0.kind != 2) = false := by simpa using hk0
      have HK0 : Hid (o0.kind = 2) := hk0
      clear hk0
      go_enter Tryz.func21, Tryz.ntmps21
      go_wp2_with fail
      go_loopg [3] 32 (fun g i wr => ∃ j : Nat, j ≤ 32 ∧ Hid (g = 32 - j) ∧ i = .int .i64 j ∧ Hid (∀ (i : Nat) o, i < j → os[i]? = some o → objB o = true) ∧ wr.cell? ⟨w.heap.size, 0, none⟩ = some (.slice (some ⟨b, off, none⟩) 32 c) ∧ w.heap.size < wr.heap.size ∧ Below w.heap.size w wr)
      case atStart => exact ⟨0, Nat.zero_le _, by show _ = _; omega, rfl, fun i o hi => by omega, by simp [go_sem], by simp, hB _⟩
      case round =>
        obtain ⟨j, hj, hk, rfl, hq, hx, hz, hb⟩ := hrel
        by_cases hlt : j < 32
        · obtain ⟨o, ka, kn, kc, ho, hsz, hd0, hd1, hd2, hd3, hks⟩ := hc j hlt
          have HO : Hid (os[j]? = some o) := ho
          clear ho hc
          rw [← hb.cell (by simp; omega)] at hd0 hd1 hd2 hd3
          have hlt' : (j : Int) < 32 := by omega
          go_wp2_with fail
          refine (l1Obj_any _ _ _ _ _ _ _ L U _ (by have := hb.size; omega) hsz (hks.below hb hU)).mono ?_
          rintro x w1 ⟨rfl, hb1⟩
          cases hob : objB o
          · have HOB : Hid (objB o = false) := hob
            clear hob
            go_wp2_with fail
            go_ret
            exact ⟨ret_bool (specOk_obj HO.out HOB.out).symm, hb.trans (hb1.mono hb.size)⟩
          · have HOB : Hid (objB o = true) := hob
            clear hob
            go_wp2_with fail
            go_roundg (32 - (j + 1))
            case measure => have := hk.out; omega
            case rel =>
              refine ⟨j + 1, by omega, rfl, by go_num, fun i o' hi ho' => ?_, by rw [hb1.cell (by simpa using hz)]; exact hx, by have := hb1.size; omega, hb.trans (hb1.mono hb.size)⟩
              by_cases e : i = j
              · subst e
                rw [HO.out] at ho'
                cases ho'
                exact HOB.out
              · exact hq.out i o' (by omega) ho'
        · have hlt' : ¬ (j : Int) < 32 := by omega
          have hall : ∀ (i : Nat) o, os[i]? = some o → objB o = true := fun i o ho => hq.out i o (by have := (List.getElem?_eq_some_iff.1 ho).1; have := HL.out; omega) ho
          have HALL : Hid (∀ (i : Nat) o, os[i]? = some o → objB o = true) := hall
          have hI := ids_of_ok hall
          clear hall
          go_wp2_with fail
          refine (l1Homes_any _ _ _ _ L U _ (by omega) hS hI (by have := hb.size; omega) (H.below hb hU)).mono ?_
          rintro x w1 ⟨⟨hb0, rfl, hlo, hrow⟩, hb1⟩
          have HROW : Hid (w1.rowIs hb0 3 32 (fun i => .int .i64 (cnt (flat os) i))) := hrow
          clear hrow
          have hx1 : w1.cell? ⟨w.heap.size, 0, none⟩ = some (.slice (some ⟨b, off, none⟩) 32 c) := by rw [hb1.cell (by simpa using hz)]; exact hx
          have hbb : Below w.heap.size w w1 := hb.trans (hb1.mono hb.size)
          have hz1 : w.heap.size < w1.heap.size := by have := hb1.size; omega
          go_wp2_with fail
          clear hx hz hb hb1 hk hq hj hlt hlt'
          go_loopg [5] 31 (fun g i wr => ∃ j : Nat, 1 ≤ j ∧ j ≤ 32 ∧ Hid (g = 32 - j) ∧ i = .int .i64 j ∧ Hid (∀ i, 1 ≤ i → i < j → specAt os i = true) ∧ wr.cell? ⟨w.heap.size, 0, none⟩ = some (.slice (some ⟨b, off, none⟩) 32 c) ∧ w.heap.size < wr.heap.size ∧ Hid (wr.rowIs hb0 3 32 (fun i => .int .i64 (cnt (flat os) i))) ∧ Below w.heap.size w wr)
          case atStart => exact ⟨1, by omega, by omega, by show _ = _; omega, rfl, fun i h0 hi => by omega, hx1, hz1, HROW.out, hbb⟩
          case round =>
            clear hx1 hbb hz1 HROW
            obtain ⟨j, hj1, hj, hk, rfl, hq, hx, hz, hrow, hb⟩ := hrel
            by_cases hlt : j < 32
            · obtain ⟨o, ka, kn, kc, ho, hsz, hd0, hd1, hd2, hd3, hks⟩ := hc j hlt
              have HO : Hid (kindOf os j = o.kind) := kindOf_at ho
              clear ho hc hd1 hd2 hd3 hks
              rw [← hb.cell (by simp; omega)] at hd0
              have hlt' : (j : Int) < 32 := by omega
              have hj0 : (0 : Int) ≤ (j : Int) := by omega
              have g0 := hrow.out.cell (i := j) hlt
              by_cases hlive : o.kind = 0
              · have t1 : (o.kind != 0) = false := by simpa using hlive
                have HV : Hid (o.kind = 0) := hlive
                clear hlive
                by_cases hcn : cnt (flat os) j = 0
                · have HC : Hid (cnt (flat os) j = 0) := hcn
                  rw [hcn] at g0
                  clear hcn
                  go_wp2_with fail
                  go_roundg (32 - (j + 1))
                  case measure => have := hk.out; omega
                  case rel =>
                    refine ⟨j + 1, by omega, by omega, rfl, by go_num, fun i h0 hi => ?_, hx, hz, hrow.out, hb⟩
                    by_cases e : i = j
                    · subst e
                      rw [specAt_none (by rw [HO.out]; exact HV.out), HC.out]
                      rfl
                    · exact hq.out i h0 (by omega)
                · have HC : Hid (cnt (flat os) j ≠ 0) := hcn
                  have t2 : ((cnt (flat os) j : Int) != 0) = true := by simpa using hcn
                  clear hcn
                  go_wp2_with fail
                  go_ret
                  exact ⟨ret_bool (specOk_at hj1 hlt (by rw [specAt_none (by rw [HO.out]; exact HV.out)]; simpa using HC.out)).symm, hb⟩
              · have t1 : (o.kind != 0) = true := by simpa using hlive
                have HV : Hid (o.kind ≠ 0) := hlive
                clear hlive
                by_cases hcn : cnt (flat os) j = 1
                · have HC : Hid (cnt (flat os) j = 1) := hcn
                  rw [hcn] at g0
                  clear hcn
                  go_wp2_with fail
                  refine (l1Top_any _ _ _ _ L U _ _ (by have := hb.size; omega) (H.below hb hU)).mono ?_
                  rintro x w2 ⟨rfl, hb2⟩
                  cases htp : topB os j
                  · have HT : Hid (topB os j = false) := htp
                    clear htp
                    go_wp2_with fail
                    go_ret
                    exact ⟨ret_bool (specOk_at hj1 hlt (by rw [specAt_live (by rw [HO.out]; exact HV.out), HT.out, Bool.and_false])).symm, hb.trans (hb2.mono hb.size)⟩
                  · have HT : Hid (topB os j = true) := htp
                    clear htp
                    go_wp2_with fail
                    go_roundg (32 - (j + 1))
                    case measure => have := hk.out; omega
                    case rel =>
                      refine ⟨j + 1, by omega, by omega, rfl, by go_num, fun i h0 hi => ?_, by rw [hb2.cell (by simpa using hz)]; exact hx, by have := hb2.size; omega, hrow.out.of_block (hb2.block _ hrow.out.lt), hb.trans (hb2.mono hb.size)⟩
                      by_cases e : i = j
                      · subst e
                        rw [specAt_live (by rw [HO.out]; exact HV.out), HT.out, HC.out]
                        rfl
                      · exact hq.out i h0 (by omega)
                · have HC : Hid (cnt (flat os) j ≠ 1) := hcn
                  have t2 : ((cnt (flat os) j : Int) != 1) = true := by simp; omega
                  clear hcn
                  go_wp2_with fail
                  go_ret
                  exact ⟨ret_bool (specOk_at hj1 hlt (by rw [specAt_live (by rw [HO.out]; exact HV.out)]; simp [HC.out])).symm, hb⟩
            · have hlt' : ¬ (j : Int) < 32 := by omega
              go_wp2_with fail
              go_ret
              exact ⟨ret_bool (specOk_yes HL.out (by rw [HO0.out]; exact HK0.out) HALL.out (fun i h0 hi => hq.out i h0 (by omega))).symm, hb⟩
    · have t0 : (o0.kind != 2) = true := by simpa using hk0
      have HK0 : Hid (o0.kind ≠ 2) := hk0
      clear hk0
      go_enter Tryz.func21, Tryz.ntmps21
      go_wp2_with fail
      go_ret
      exact ⟨ret_bool (specOk_top (by rw [HO0.out]; exact HK0.out)).symm, hB _⟩
  · have t0 : ((n : Int) != 32) = true := by simp; omega
    have HN : Hid (os.length ≠ 32) := by rw [← H.len]; exact hn
    clear hn
    go_enter Tryz.func21, Tryz.ntmps21
    go_wp2_with fail
    go_ret
    exact ⟨ret_bool (specOk_len HN.out).symm, hB _⟩
end Go.Proofs.YtnolbfijcnldjaaGreatDoor

/- The nodes of a layout, and what names say, as plain functions. -/
namespace Go.Proofs.YtnolbfijcnldjaaGreatDoor
open Go.RowKit

/-- What the first j nodes of a layout hold: the objects, with these homes and names. -/
def LayF (w : World) (L U : Nat) (os : List LObj) (f : Nat → Value) (j : Nat) (h : Nat → Int) (nm : Nat → ByteArray) : Prop :=
  ∀ i, i < j → ∃ o ka kn kc, os[i]? = some o ∧ f (i * 6) = .int .i64 o.kind ∧ f (i * 6 + 1) = .int .i64 o.ver ∧ f (i * 6 + 2) = .int .i64 (h i) ∧ f (i * 6 + 3) = .string (nm i) ∧ f (i * 6 + 4) = .string o.text ∧ f (i * 6 + 5) = .slice ka kn kc ∧ EntsAt w L U ka kn o.kids
def putNode (f : Nat → Value) (j : Nat) (v0 v1 v2 v3 v4 v5 : Value) : Nat → Value := fun i => if i = j * 6 + 5 then v5 else if i = j * 6 + 4 then v4 else if i = j * 6 + 3 then v3 else if i = j * 6 + 2 then v2 else if i = j * 6 + 1 then v1 else if i = j * 6 then v0 else f i
theorem rowIs_put {w : World} {b : Nat} {t : TypeId} {n : Nat} {f : Nat → Value} (h : w.rowIs b t n f) (j : Nat) (v0 v1 v2 v3 v4 v5 : Value) :
    ((((((w.setCell ⟨b, j * 6, none⟩ v0).setCell ⟨b, j * 6 + 1, none⟩ v1).setCell ⟨b, j * 6 + 2, none⟩ v2).setCell ⟨b, j * 6 + 3, none⟩ v3).setCell ⟨b, j * 6 + 4, none⟩ v4).setCell ⟨b, j * 6 + 5, none⟩ v5).rowIs b t n (putNode f j v0 v1 v2 v3 v4 v5) :=
  (((((h.set _ v0).set _ v1).set _ v2).set _ v3).set _ v4).set _ v5
theorem layF_put {w : World} {L U : Nat} {os : List LObj} {f : Nat → Value} {j : Nat} {h : Nat → Int} {nm : Nat → ByteArray} {o : LObj} {ka : Option Addr} {kn kc : Nat} (hf : LayF w L U os f j h nm) (ho : os[j]? = some o) (hk : EntsAt w L U ka kn o.kids) :
    LayF w L U os (putNode f j (.int .i64 o.kind) (.int .i64 o.ver) (.int .i64 (h j)) (.string (nm j)) (.string o.text) (.slice ka kn kc)) (j + 1) h nm := by
  intro i hi
  by_cases e : i = j
  · subst e
    refine ⟨o, ka, kn, kc, ho, ?_, ?_, ?_, ?_, ?_, ?_, hk⟩ <;> simp [putNode]
  · obtain ⟨o', ka', kn', kc', ho', q0, q1, q2, q3, q4, q5, hk'⟩ := hf i (by omega)
    refine ⟨o', ka', kn', kc', ho', ?_, ?_, ?_, ?_, ?_, ?_, hk'⟩ <;> unfold putNode <;> rw [if_neg (by omega), if_neg (by omega), if_neg (by omega), if_neg (by omega), if_neg (by omega), if_neg (by omega)] <;> assumption

theorem rowIs96 (w : World) : ∃ f, (w.alloc (.cells Tryz.zeroCells150 150)).rowIs w.heap.size 150 192 f := by
  refine ⟨fun i => Tryz.zeroCells150[i]?.getD default, ?_⟩
  have := World.rowIs_alloc w Tryz.zeroCells150 150 (fun i => Tryz.zeroCells150[i]?.getD default) (fun i hi => by rw [Array.getElem?_eq_getElem hi]; rfl)
  have e : Tryz.zeroCells150.size = 192 := by kernel_rfl
  rwa [e] at this


theorem homeIn_nonneg {p : List (Nat × LEnt)} {id : Int} (h : ¬ Off p id) : 0 ≤ homeIn p id := by
  unfold homeIn
  cases hf : p.find? (fun x => x.2.id == id) with
  | some x => simp
  | none =>
    exfalso
    apply h
    intro x hx
    have := List.find?_eq_none.1 hf x hx
    simpa using this
theorem off_iff {p : List (Nat × LEnt)} {id : Int} : homeIn p id = -1 ↔ Off p id := by
  constructor
  · intro h
    apply Classical.byContradiction
    intro hn
    have := homeIn_nonneg hn
    omega
  · exact homeIn_off
theorem find_snoc {p : List (Nat × LEnt)} {x : Nat × LEnt} {i : Int} (h : x.2.id = i → Off p i) : (p ++ [x]).find? (fun y => y.2.id == i) = if x.2.id = i then some x else p.find? (fun y => y.2.id == i) := by
  rw [List.find?_append]
  by_cases e : x.2.id = i
  · rw [find_off (h e)]
    simp [e]
  · have : (x.2.id == i) = false := by simpa using e
    simp [e, this]
theorem homeIn_snoc {p : List (Nat × LEnt)} {x : Nat × LEnt} (h : Off p x.2.id) (i : Int) : homeIn (p ++ [x]) i = if x.2.id = i then (x.1 : Int) else homeIn p i := by
  unfold homeIn
  rw [find_snoc (fun e => e ▸ h)]
  by_cases e : x.2.id = i <;> simp [e]
theorem nameIn_snoc {p : List (Nat × LEnt)} {x : Nat × LEnt} (h : Off p x.2.id) (i : Int) : nameIn (p ++ [x]) i = if x.2.id = i then x.2.name else nameIn p i := by
  unfold nameIn
  rw [find_snoc (fun e => e ▸ h)]
  by_cases e : x.2.id = i <;> simp [e]

/-- No number is named twice. -/
def Uniq (p : List (Nat × LEnt)) : Prop := ∀ pre x post, p = pre ++ x :: post → Off pre x.2.id
theorem uniq_nil : Uniq [] := fun pre x post h => by simp at h
theorem uniq_snoc {p : List (Nat × LEnt)} {x : Nat × LEnt} (h : Uniq p) (hx : Off p x.2.id) : Uniq (p ++ [x]) := by
  intro pre y post e
  rcases List.eq_nil_or_concat post with rfl | ⟨post', z, rfl⟩
  · have := List.append_inj' e rfl
    obtain ⟨rfl, e2⟩ := this
    simp at e2
    subst e2
    exact hx
  · rw [List.concat_eq_append] at e
    rw [show pre ++ y :: (post' ++ [z]) = (pre ++ y :: post') ++ [z] by simp] at e
    have := List.append_inj' e rfl
    exact h pre y post' this.1
/-- The names are of objects that are there, each once. -/
def Live (os : List LObj) (p : List (Nat × LEnt)) : Prop := ∀ x ∈ p, kindOf os x.2.id.toNat ≠ 0
theorem live_snoc {os : List LObj} {p : List (Nat × LEnt)} {x : Nat × LEnt} (h : Live os p) (hx : kindOf os x.2.id.toNat ≠ 0) : Live os (p ++ [x]) := by
  intro y hy
  rcases List.mem_append.1 hy with hy | hy
  · exact h y hy
  · simp at hy; subst hy; exact hx
def Named (os : List LObj) : Prop := Live os (flat os) ∧ Uniq (flat os) ∧ ∀ i : Nat, 1 ≤ i → i < 32 → kindOf os i ≠ 0 → ¬ Off (flat os) i
theorem flat_at {t : List LObj} {i k : Nat} {o : LObj} {e : LEnt} (ho : t[i]? = some o) (he : o.kids[k]? = some e) : ∃ r, flat t = (flat (t.take i) ++ tagged i (o.kids.take k)) ++ (i, e) :: r := by
  obtain ⟨r, hr⟩ := flat_split ho
  obtain ⟨r', hr'⟩ := tagged_split (d := i) he
  exact ⟨r' ++ r, by rw [hr, hr']; simp⟩
theorem named_no_live {t : List LObj} {i k : Nat} {o : LObj} {e : LEnt} (ho : t[i]? = some o) (he : o.kids[k]? = some e) (h : kindOf t e.id.toNat = 0) : ¬ Named t := by
  intro hn
  obtain ⟨r, hr⟩ := flat_at ho he
  exact hn.1 (i, e) (by rw [hr]; simp) h
theorem named_no_twice {t : List LObj} {i k : Nat} {o : LObj} {e : LEnt} (ho : t[i]? = some o) (he : o.kids[k]? = some e) (h : ¬ Off (flat (t.take i) ++ tagged i (o.kids.take k)) e.id) : ¬ Named t := by
  intro hn
  obtain ⟨r, hr⟩ := flat_at ho he
  exact h (hn.2.1 _ (i, e) r hr)
theorem layF_set {w : World} {L U : Nat} {os : List LObj} {f : Nat → Value} {h : Nat → Int} {nm : Nat → ByteArray} (hf : LayF w L U os f 32 h nm) (k : Nat) (x : Int) (s : ByteArray) :
    LayF w L U os (fun i => if i = k * 6 + 3 then .string s else if i = k * 6 + 2 then .int .i64 x else f i) 32 (fun i => if i = k then x else h i) (fun i => if i = k then s else nm i) := by
  intro i hi
  obtain ⟨o', ka', kn', kc', ho', q0, q1, q2, q3, q4, q5, hk'⟩ := hf i hi
  refine ⟨o', ka', kn', kc', ho', ?_, ?_, ?_, ?_, ?_, ?_, hk'⟩
  · dsimp only; rw [if_neg (by omega), if_neg (by omega)]; exact q0
  · dsimp only; rw [if_neg (by omega), if_neg (by omega)]; exact q1
  · by_cases e : i = k
    · subst e; simp
    · dsimp only; rw [if_neg (by omega), if_neg (by omega), if_neg e]; exact q2
  · by_cases e : i = k
    · subst e; simp
    · dsimp only; rw [if_neg (by omega), if_neg (by omega), if_neg e]; exact q3
  · dsimp only; rw [if_neg (by omega), if_neg (by omega)]; exact q4
  · dsimp only; rw [if_neg (by omega), if_neg (by omega)]; exact q5
theorem layF_congr {w : World} {L U : Nat} {os : List LObj} {f : Nat → Value} {h h' : Nat → Int} {nm nm' : Nat → ByteArray} (hf : LayF w L U os f 32 h nm) (e1 : ∀ i, i < 32 → h i = h' i) (e2 : ∀ i, i < 32 → nm i = nm' i) : LayF w L U os f 32 h' nm' := by
  intro i hi
  obtain ⟨o', ka', kn', kc', ho', q0, q1, q2, q3, q4, q5, hk'⟩ := hf i hi
  exact ⟨o', ka', kn', kc', ho', q0, q1, by rw [q2, e1 i hi], by rw [q3, e2 i hi], q4, q5, hk'⟩
end Go.Proofs.YtnolbfijcnldjaaGreatDoor
