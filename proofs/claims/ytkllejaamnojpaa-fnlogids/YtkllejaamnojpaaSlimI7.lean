import Derived.Test.YtkllejaamnojpaaSlimI6
import Derived.BigRegion
/- Lists that are made shorter: the program: where something is then. -/
namespace Go.Proofs.Ytkllejaamnojpaa
open Go.RowKit

def startV (o : LOp) : Value := .agg #[.int .i64 o.dir, .string o.name]
def endV (o : LOp) : Value := if o.kind == 4 then .agg #[.int .i64 o.dir2, .string o.name2] else .agg #[.int .i64 o.dir, .string o.name]
theorem startOf_any (o : LOp) (w : World) : Calls Try.prog 156 #[.agg o.val] w fun e w' => e = .returned (startV o) ∧ Below w.heap.size w w' := by
  simp only [LOp.val]
  go_enter Try.func156, Try.ntmps156
  go_wp2_with fail
  exact bodyPost_ret (v := startV o) (by simp [results, Try.results156, go_sem, startV]) rfl ⟨rfl, ((Below.refl _ _).alloc (Nat.le_refl _) _).alloc (by simp) _⟩
theorem endOf_any (o : LOp) (w : World) : Calls Try.prog 155 #[.agg o.val] w fun e w' => e = .returned (endV o) ∧ Below w.heap.size w w' := by
  have HS := startOf_any o
  simp only [LOp.val] at HS ⊢
  rcases t0 : (o.kind == 4) with _ | _
  · have HE : Hid (endV o = .agg #[.int .i64 o.dir, .string o.name]) := by show _ = _; unfold endV; rw [t0]; rfl
    go_enter Try.func155, Try.ntmps155
    go_wp2_with (go_at_call 129; refine (moves_any _ _).mono ?_; rintro e w1 ⟨rfl, rfl⟩; rw [t0])
    refine (HS _).mono ?_
    rintro e w1 ⟨rfl, hb1⟩
    unfold startV
    have hR : w1.rowIs (w.heap.size + 1) 169 2 (fun i => #[Value.int .i64 0, .string ⟨#[]⟩][i]?.getD default) := by
      have h0 := World.rowIs_alloc (w.alloc (Obj.cells #[Value.int .i64 o.kind, .int .i64 o.dir, .string o.name, .int .i64 o.dir2, .string o.name2, .int .i64 o.id, .string o.text] 30)) #[Value.int .i64 0, .string ⟨#[]⟩] 169 (fun i => #[Value.int .i64 0, .string ⟨#[]⟩][i]?.getD default) (fun i hi => by rw [Array.getElem?_eq_getElem hi]; rfl)
      have h1 := h0.of_block (hb1.block (w.alloc (Obj.cells #[Value.int .i64 o.kind, .int .i64 o.dir, .string o.name, .int .i64 o.dir2, .string o.name2, .int .i64 o.id, .string o.text] 30)).heap.size (by simp))
      simpa using h1
    have q0 := hR.cell (i := 0) (by omega)
    have q1 := hR.cell (i := 1) (by omega)
    have z0 := hR.frozen 0
    have z1 := hR.frozen 1
    have hB : Below w.heap.size w w1 := (((Below.refl _ _).alloc (Nat.le_refl _) _).alloc (by simp) _).trans (hb1.mono (by simp; omega))
    clear hR hb1 HS
    go_wp2_with fail
    exact bodyPost_ret (v := .agg #[.int .i64 o.dir, .string o.name]) (by simp [results, Try.results155, go_sem, q0, q1]) rfl ⟨by rw [HE.out], (hB.setCell (by simp) _).setCell (by simp) _⟩
  · have HE : Hid (endV o = .agg #[.int .i64 o.dir2, .string o.name2]) := by show _ = _; unfold endV; rw [t0]; rfl
    go_enter Try.func155, Try.ntmps155
    go_wp2_with (go_at_call 129; refine (moves_any _ _).mono ?_; rintro e w1 ⟨rfl, rfl⟩; rw [t0])
    exact bodyPost_ret (v := .agg #[.int .i64 o.dir2, .string o.name2]) (by simp [results, Try.results155, go_sem]) rfl ⟨by rw [HE.out], ((Below.refl _ _).alloc (Nat.le_refl _) _).alloc (by simp) _⟩
theorem withEnd_any (o : LOp) (d : Int) (nm : ByteArray) (w : World) : Calls Try.prog 158 #[.agg o.val, .agg #[.int .i64 d, .string nm]] w fun e w' => e = .returned (.agg (if o.kind = 4 then { o with dir2 := d, name2 := nm } else { o with dir := d, name := nm }).val) ∧ Below w.heap.size w w' := by
  simp only [LOp.val]
  rcases t0 : (o.kind == 4) with _ | _
  · have HK : ¬ o.kind = 4 := by simpa using t0
    rw [if_neg HK]
    clear HK
    go_enter Try.func158, Try.ntmps158
    go_wp2_with (go_at_call 129; refine (moves_any _ _).mono ?_; rintro e w1 ⟨rfl, rfl⟩; rw [t0])
    go_region
    all_goals
      go_wp2_with fail
      exact bodyPost_ret (v := .agg #[.int .i64 o.kind, .int .i64 d, .string nm, .int .i64 o.dir2, .string o.name2, .int .i64 o.id, .string o.text]) (by simp [results, Try.results158, go_sem]) rfl ⟨rfl, by repeat (first | with_reducible exact Below.refl _ _ | refine Below.drew ?_ | refine Below.alloc ?_ (by simp <;> omega) _ | refine Below.setCell ?_ (by simp) _)⟩
  · have HK : o.kind = 4 := by simpa using t0
    rw [if_pos HK]
    clear HK
    go_enter Try.func158, Try.ntmps158
    go_wp2_with (go_at_call 129; refine (moves_any _ _).mono ?_; rintro e w1 ⟨rfl, rfl⟩; rw [t0])
    go_region
    all_goals
      go_wp2_with fail
      exact bodyPost_ret (v := .agg #[.int .i64 o.kind, .int .i64 o.dir, .string o.name, .int .i64 d, .string nm, .int .i64 o.id, .string o.text]) (by simp [results, Try.results158, go_sem]) rfl ⟨rfl, by repeat (first | with_reducible exact Below.refl _ _ | refine Below.drew ?_ | refine Below.alloc ?_ (by simp <;> omega) _ | refine Below.setCell ?_ (by simp) _)⟩
end Go.Proofs.Ytkllejaamnojpaa
