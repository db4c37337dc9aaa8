/- The numbers that what is done names. -/
import Derived.Test.YtnfegihemhidgaaPutIAll
import Derived.Test.YtnfegihemhidgaaOpsAll
namespace Go.Proofs.Ytnfegihemhidgaa
open Go.RowKit

def opIds1 (o : LOp) : List Nat := if o.kind = 5 then [o.id.toNat] else putI o.dir.toNat [o.id.toNat]
def opIds (o : LOp) : List Nat := if opOk o then (if o.kind = 4 then putI o.dir2.toNat (opIds1 o) else opIds1 o) else []
theorem opOk_id {o : LOp} (h : opOk o = true) : 1 ≤ o.id ∧ o.id < 32 := by
  unfold opOk at h
  split at h
  · simp [opId, idB] at h; omega
  · split at h
    · simp [opId, idB] at h; omega
    · split at h
      · simp [opId, idB] at h; omega
      · simp at h
theorem opOk_dir {o : LOp} (h : opOk o = true) : 0 ≤ o.dir ∧ o.dir < 32 := by
  unfold opOk at h
  split at h
  · simp [opSlot, idB] at h; omega
  · split at h
    · simp [opSlot, idB] at h; omega
    · split at h
      · simp at h; omega
      · simp at h
theorem opOk_dir2 {o : LOp} (h : opOk o = true) : 0 ≤ o.dir2 ∧ o.dir2 < 32 := by
  unfold opOk at h
  split at h
  · simp [opNone2] at h; omega
  · split at h
    · simp [opSlot2, idB] at h; omega
    · split at h
      · simp [opNone2] at h; omega
      · simp at h
theorem putI_bd {x : Nat} {l : List Nat} {M : Nat} (hx : x < M) (h : ∀ i ∈ l, i < M) : ∀ i ∈ putI x l, i < M := by
  intro i hi
  unfold putI at hi
  split at hi
  · exact h i hi
  · simp at hi
    rcases hi with hi | rfl | hi
    · exact h i (List.mem_of_mem_take hi)
    · exact hx
    · exact h i (List.mem_of_mem_drop hi)
theorem putI_le (x : Nat) (l : List Nat) : (putI x l).length ≤ l.length + 1 := by
  unfold putI
  split
  · omega
  · simp; omega
theorem opIds_bd (o : LOp) : ∀ i ∈ opIds o, i < 32 := by
  unfold opIds
  split
  · rename_i h
    have h1 := opOk_id h
    have h2 := opOk_dir h
    have h3 := opOk_dir2 h
    have hb : ∀ i ∈ opIds1 o, i < 32 := by
      unfold opIds1
      split
      · intro i hi; simp at hi; omega
      · exact putI_bd (by omega) (by intro i hi; simp at hi; omega)
    split
    · exact putI_bd (by omega) hb
    · exact hb
  · intro i hi; simp at hi

theorem putI_at (B g cap n : Nat) (x : Int) (k : Nat) (e : x = k) (l : List Nat) (w : World) (hn : n = l.length) (hn2 : n ≤ 1000000) (hB : B ≤ w.heap.size) (H : OwnInts w B (.slice (some ⟨g, 0, none⟩) n cap) l) :
    Calls Try.prog 64 #[.slice (some ⟨g, 0, none⟩) n cap, .int .i64 x] w fun e w' => PutIEnd w B g k l e w' := by
  subst e; exact putI_any B g cap n k l w hn hn2 hB H
theorem ints_one (w : World) (B g : Nat) (x : Int) (k : Nat) (e : x = k) (hg : w.heap.size = g) (hB : B ≤ w.heap.size) : OwnInts (w.alloc (Obj.cells #[.int .i64 x] 3)) B (.slice (some ⟨g, 0, none⟩) 1 1) [k] := by
  subst e hg
  simpa [OwnInts] using World.ownsRow_lit (base := B) (e := 3) (size := 1) w #[.int .i64 (k : Int)] 1 hB (by simp [maxLen]) rfl
theorem below_put {B g : Nat} {w w1 w2 : World} {x : Nat} {l : List Nat} {e : Ending} (h : Below B w w1) (hp : PutIEnd w1 B g x l e w2) (hg : B ≤ g) (hs : B ≤ w1.heap.size) : Below B w w2 := by
  obtain ⟨_, _, _, _, _, _, hgr⟩ := hp
  exact below_grown h hgr (fun k hk => by simp at hk; omega) hs

set_option maxHeartbeats 1000000 in
set_option maxRecDepth 20000 in
theorem opIds_any (o : LOp) (w : World) (h1 : o.name.size ≤ maxLen) (h2 : o.name2.size ≤ maxLen) (h3 : o.text.size ≤ maxLen) :
    Calls Try.prog 63 #[.agg o.val] w fun e w' => (∃ v, e = .returned v ∧ Hid (OwnInts w' w.heap.size v (opIds o))) ∧ Below w.heap.size w w' := by
  have HOK := opOk_any o
  rcases hok : opOk o with _ | _
  · have hids : Hid (opIds o = []) := by show _ = _; simp [opIds, hok]
    simp only [LOp.val] at *
    go_enter Try.func63, Try.ntmps63
    go_wp2_with fail
    refine (HOK _ h1 h2 h3).mono ?_
    rintro x w1 ⟨rfl, rfl⟩
    rw [hok]
    go_wp2_with fail
    go_ret
    exact ⟨⟨_, rfl, by show OwnInts _ _ _ _; rw [hids.out]; exact OwnInts.empty _ _ _ (by simp) (by simp; omega)⟩, by repeat (first | exact Below.refl _ _ | refine Below.alloc ?_ (by simp <;> omega) _)⟩
  · have b1 := opOk_id hok
    have b2 := opOk_dir hok
    have b3 := opOk_dir2 hok
    have E1 : Hid (o.id = (o.id.toNat : Nat)) := by show _ = _; omega
    have E2 : Hid (o.dir = (o.dir.toNat : Nat)) := by show _ = _; omega
    have E3 : Hid (o.dir2 = (o.dir2.toNat : Nat)) := by show _ = _; omega
    clear b1 b2 b3
    by_cases k5 : o.kind = 5
    · have hids : Hid (opIds o = [o.id.toNat]) := by show _ = _; simp [opIds, opIds1, hok, k5]
      have t5 : (o.kind != 5) = false := by simp [k5]
      have t4 : (o.kind == 4) = false := by simp [k5]
      clear k5
      simp only [LOp.val] at *
      go_enter Try.func63, Try.ntmps63
      go_wp2_with fail
      refine (HOK _ h1 h2 h3).mono ?_
      rintro x w1 ⟨rfl, rfl⟩
      rw [hok]
      go_wp2_with fail
      go_ret
      exact ⟨⟨_, rfl, by show OwnInts _ _ _ _; rw [hids.out]; exact ints_one _ _ _ _ _ E1.out (by simp) (by simp; omega)⟩, by repeat (first | exact Below.refl _ _ | refine Below.alloc ?_ (by simp <;> omega) _)⟩
    · have t5 : (o.kind != 5) = true := by simp [k5]
      have hi1 : Hid (opIds1 o = putI o.dir.toNat [o.id.toNat]) := by show _ = _; simp [opIds1, k5]
      by_cases k4 : o.kind = 4
      · have hids : Hid (opIds o = putI o.dir2.toNat (putI o.dir.toNat [o.id.toNat])) := by show _ = _; rw [← hi1.out]; simp [opIds, hok, k4]
        have t4 : (o.kind == 4) = true := by simp [k4]
        clear k5 k4
        simp only [LOp.val] at *
        go_enter Try.func63, Try.ntmps63
        go_wp2_with fail
        refine (HOK _ h1 h2 h3).mono ?_
        rintro x w1 ⟨rfl, rfl⟩
        rw [hok]
        go_wp2_with fail
        have hA : Below w.heap.size w (((w.alloc (Obj.cells #[.int .i64 o.kind, .int .i64 o.dir, .string o.name, .int .i64 o.dir2, .string o.name2, .int .i64 o.id, .string o.text] 102)).alloc (Obj.cells #[.int .i64 o.kind, .int .i64 o.dir, .string o.name, .int .i64 o.dir2, .string o.name2, .int .i64 o.id, .string o.text] 102)).alloc (Obj.cells #[.int .i64 o.id] 3)) := by repeat (first | exact Below.refl _ _ | refine Below.alloc ?_ (by simp <;> omega) _)
        refine (putI_at w.heap.size _ _ _ _ _ E2.out [o.id.toNat] _ rfl (by simp) (by simp; omega) (ints_one _ _ _ _ _ E1.out (by simp) (by simp; omega))).mono ?_
        rintro x w2 hp
        have hbl := below_put hA hp (by omega) (by simp; omega)
        obtain ⟨g', n', cap', rfl, hn', hown', hgr⟩ := hp
        have HN : Hid (n' = (putI o.dir.toNat [o.id.toNat]).length) := hn'
        have hc0 : w2.cell? ⟨w.heap.size, 0, none⟩ = some (.int .i64 o.kind) := by rw [hgr.cell_far _ (by simp; omega) (by simp; omega)]; simp [go_sem]
        have hc3 : w2.cell? ⟨w.heap.size, 3, none⟩ = some (.int .i64 o.dir2) := by rw [hgr.cell_far _ (by simp; omega) (by simp; omega)]; simp [go_sem]
        have hz2 : w.heap.size ≤ w2.heap.size := hbl.size
        have hle : n' ≤ 1000 := by rw [hn']; have := putI_le o.dir.toNat [o.id.toNat]; simp at this; omega
        have hg' : w.heap.size ≤ g' := (World.ownsRow.lt hown' g' rfl).1
        have HOWN : Hid (OwnInts w2 w.heap.size (.slice (some ⟨g', 0, none⟩) n' cap') (putI o.dir.toNat [o.id.toNat])) := hown'
        clear hn' hgr hown'
        go_wp2_with fail
        refine (putI_at w.heap.size _ _ _ _ _ E3.out _ _ HN.out (by omega) hz2 HOWN.out).mono ?_
        rintro x w3 hp3
        have hbl3 := below_put hbl hp3 hg' hz2
        obtain ⟨g3, n3, cap3, rfl, hn3, hown3, hgr3⟩ := hp3
        have HOWN3 : Hid (OwnInts w3 w.heap.size (.slice (some ⟨g3, 0, none⟩) n3 cap3) (putI o.dir2.toNat (putI o.dir.toNat [o.id.toNat]))) := hown3
        clear hn3 hown3 hgr3
        go_wp2_with fail
        go_ret
        exact ⟨⟨_, rfl, by show OwnInts _ _ _ _; rw [hids.out]; exact HOWN3.out⟩, hbl3⟩
      · have hids : Hid (opIds o = putI o.dir.toNat [o.id.toNat]) := by show _ = _; rw [← hi1.out]; simp [opIds, hok, k4]
        have t4 : (o.kind == 4) = false := by simp [k4]
        clear k5 k4
        simp only [LOp.val] at *
        go_enter Try.func63, Try.ntmps63
        go_wp2_with fail
        refine (HOK _ h1 h2 h3).mono ?_
        rintro x w1 ⟨rfl, rfl⟩
        rw [hok]
        go_wp2_with fail
        have hA : Below w.heap.size w (((w.alloc (Obj.cells #[.int .i64 o.kind, .int .i64 o.dir, .string o.name, .int .i64 o.dir2, .string o.name2, .int .i64 o.id, .string o.text] 102)).alloc (Obj.cells #[.int .i64 o.kind, .int .i64 o.dir, .string o.name, .int .i64 o.dir2, .string o.name2, .int .i64 o.id, .string o.text] 102)).alloc (Obj.cells #[.int .i64 o.id] 3)) := by repeat (first | exact Below.refl _ _ | refine Below.alloc ?_ (by simp <;> omega) _)
        refine (putI_at w.heap.size _ _ _ _ _ E2.out [o.id.toNat] _ rfl (by simp) (by simp; omega) (ints_one _ _ _ _ _ E1.out (by simp) (by simp; omega))).mono ?_
        rintro x w2 hp
        have hbl := below_put hA hp (by omega) (by simp; omega)
        obtain ⟨g', n', cap', rfl, hn', hown', hgr⟩ := hp
        have HN : Hid (n' = (putI o.dir.toNat [o.id.toNat]).length) := hn'
        have hc0 : w2.cell? ⟨w.heap.size, 0, none⟩ = some (.int .i64 o.kind) := by rw [hgr.cell_far _ (by simp; omega) (by simp; omega)]; simp [go_sem]
        clear hn' hgr
        go_wp2_with fail
        go_ret
        exact ⟨⟨_, rfl, by show OwnInts _ _ _ _; rw [hids.out]; exact hown'⟩, hbl⟩
end Go.Proofs.Ytnfegihemhidgaa
