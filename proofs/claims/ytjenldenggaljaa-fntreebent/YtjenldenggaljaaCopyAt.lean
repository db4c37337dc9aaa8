/- A tree in new memory. -/
import Derived.Test.YtjenldenggaljaaTurn
namespace Go.Proofs.Ytjenldenggaljaa
open Go.RowKit

set_option maxHeartbeats 400000 in
theorem isDir_any (a : Option Addr) (n c i : Nat) (o : LObj) (os : List LObj) (L U : Nat) (id : Int) (w : World) (hi : id = i) (ho : os[i]? = some o) (hU : U ≤ w.heap.size) (H : ObjsAt w L U a n os) :
    Calls Try.prog 156 #[.agg #[.slice a n c], .int .i64 id] w fun e w' => e = .returned (.bool (o.kind == 2)) ∧ w' = w.alloc (.cells #[.slice a n c] 25) := by
  subst hi
  have hlt : i < n := by rw [H.len]; exact (List.getElem?_eq_some_iff.1 ho).1
  have hlt' : (i : Int) < (n : Int) := by omega
  obtain ⟨b, off, ha, hL, hbU, hc⟩ := H.at_ (by omega)
  subst ha
  obtain ⟨o', ka, kn, kc, he, hts, hc0, hc1, hc2, hc3, hks⟩ := hc i hlt
  obtain rfl : o' = o := by rw [ho] at he; simpa using he.symm
  have hlb : b < w.heap.size := by omega
  clear hc ho he hc1 hc2 hc3 hks
  go_enter Try.func156, Try.ntmps156
  go_wp2_with fail
  go_ret
  exact ⟨rfl, rfl⟩

/-- The cells of objects, their names' slices given. -/
def objCells (os : List LObj) (vs : Nat → Value) : Nat → List Value
  | 0 => []
  | k + 1 => objCells os vs k ++ (match os[k]? with | some o => [.int .i64 o.kind, .int .i64 o.ver, .string o.text, vs k] | none => [])
theorem objCells_len (os : List LObj) (vs : Nat → Value) : ∀ k, k ≤ os.length → (objCells os vs k).length = k * 4
  | 0, _ => rfl
  | k + 1, h => by
    have ih := objCells_len os vs k (by omega)
    have ho : os[k]? = some os[k] := by simp [show k < os.length by omega]
    simp only [objCells, ho, List.length_append, ih, List.length_cons, List.length_nil]
    omega
theorem objCells_at (os : List LObj) (vs : Nat → Value) : ∀ k, k ≤ os.length → ∀ i o, i < k → os[i]? = some o → (objCells os vs k)[i * 4]? = some (.int .i64 o.kind) ∧ (objCells os vs k)[i * 4 + 1]? = some (.int .i64 o.ver) ∧ (objCells os vs k)[i * 4 + 2]? = some (.string o.text) ∧ (objCells os vs k)[i * 4 + 3]? = some (vs i)
  | 0, _, i, o, h, _ => by omega
  | k + 1, hk, i, o, h, ho => by
    have hl := objCells_len os vs k (by omega)
    by_cases hik : i = k
    · subst hik
      simp only [objCells, ho]
      refine ⟨?_, ?_, ?_, ?_⟩
      · rw [List.getElem?_append_right (by omega)]; simp [hl]
      · rw [List.getElem?_append_right (by omega)]; simp [hl]
      · rw [List.getElem?_append_right (by omega)]; simp [hl]
      · rw [List.getElem?_append_right (by omega)]; simp [hl]
    · have ih := objCells_at os vs k (by omega) i o (by omega) ho
      simp only [objCells]
      refine ⟨?_, ?_, ?_, ?_⟩
      · rw [List.getElem?_append_left (by omega)]; exact ih.1
      · rw [List.getElem?_append_left (by omega)]; exact ih.2.1
      · rw [List.getElem?_append_left (by omega)]; exact ih.2.2.1
      · rw [List.getElem?_append_left (by omega)]; exact ih.2.2.2
theorem objCells_congr (os : List LObj) {vs vs' : Nat → Value} : ∀ k, (∀ i, i < k → vs i = vs' i) → objCells os vs k = objCells os vs' k
  | 0, _ => rfl
  | k + 1, h => by
    simp only [objCells]
    rw [objCells_congr os k (fun i hi => h i (by omega)), h k (by omega)]

/-- So far copied: the first k objects, in a row of the call's own, their names in rows of their own. -/
structure CopyAt (w : World) (B : Nat) (v : Value) (os : List LObj) (vs : Nat → Value) (k : Nat) : Prop where
  own : w.ownsRow B 34 4 v k (objCells os vs k)
  kids : ∀ i o, i < k → os[i]? = some o → (∃ g kc, vs i = .slice (some ⟨g, 0, none⟩) o.kids.length kc) ∧ OwnEnts w B (vs i) o.kids
  apart : ∀ i j g, i < k → j < k → i ≠ j → (vs i).ownBlock = some g → (vs j).ownBlock ≠ some g

theorem CopyAt.done {w : World} {B n : Nat} {v : Value} {os : List LObj} {vs : Nat → Value} (h : CopyAt w B v os vs n) (hn : n = os.length) (h1 : 1 ≤ n) (hs : ∀ o ∈ os, o.text.size ≤ maxLen ∧ ∀ e ∈ o.kids, e.name.size ≤ maxLen) : ∃ b c, v = .slice (some ⟨b, 0, none⟩) n c ∧ OwnT w B b c os vs := by
  subst hn
  rcases h.own.2 with ⟨_, h0⟩ | ⟨b, c, cur, rfl, hb, hg, hnc, hcm, hcs, htake⟩
  · omega
  · refine ⟨b, c, rfl, hb, ⟨cur, hg, hcs, hnc, hcm⟩, fun i o ho => ?_, h.apart⟩
    have hlt : i < os.length := (List.getElem?_eq_some_iff.1 ho).1
    have hc := objCells_at os vs os.length (Nat.le_refl _) i o hlt ho
    have hat : ∀ j, j < os.length * 4 → w.cell? ⟨b, j, none⟩ = (objCells os vs os.length)[j]? := fun j hj => World.ownsRow.cellAt h.own j hj
    have hk := h.kids i o hlt ho
    have hso := hs o (List.mem_of_getElem? ho)
    exact ⟨hso.1, by rw [hat _ (by omega)]; exact hc.1, by rw [hat _ (by omega)]; exact hc.2.1, by rw [hat _ (by omega)]; exact hc.2.2.1, by rw [hat _ (by omega)]; exact hc.2.2.2, hk.2, hso.2⟩
end Go.Proofs.Ytjenldenggaljaa
