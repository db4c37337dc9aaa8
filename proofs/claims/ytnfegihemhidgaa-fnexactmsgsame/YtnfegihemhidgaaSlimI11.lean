import Derived.Test.YtnfegihemhidgaaSlimI10
/- Lists that are made shorter: the program: steps of a region that make and fill boxes. -/
namespace Go.Proofs.Ytnfegihemhidgaa
open Go.RowKit

def zrow (z : Array Value) (i : Nat) : Value := z[i]?.getD default
theorem zrow_new (W : World) (z : Array Value) (t : TypeId) : (W.alloc (.cells z t)).rowIs W.heap.size t z.size (zrow z) := World.rowIs_alloc W z t (zrow z) (fun i hi => by unfold zrow; rw [Array.getElem?_eq_getElem hi]; rfl)
section
variable {ops : Array Oper} {ac : Act} {K : Act → World → Prop} {Q : Exit → Act → World → Prop} {E : Prop} {ty : TypeId} {ps : String} {af : Array Edge}
theorem st_alloc30 (W : World) (d : Nat)
    (h : ∀ q W', q = W.heap.size → Below W.heap.size W W' → W'.rowIs q 102 7 (zrow #[.int .i64 0, .int .i64 0, .string ⟨#[]⟩, .int .i64 0, .string ⟨#[]⟩, .int .i64 0, .string ⟨#[]⟩]) → K (ac.put (some d) (.pointer (some ⟨q, 0, none⟩))) W') :
    if Region.wanted { dst := some d, op := .alloc 102, type := ty, pos := ps, after := af, guard := none } (yielded ops ac.tmps) = true then Oper.wp Try.prog { dst := some d, op := .alloc 102, type := ty, pos := ps, after := af, guard := none } ac W K Q else E := by
  rw [if_pos (by simp [Region.wanted])]
  have := h W.heap.size (W.alloc (.cells #[.int .i64 0, .int .i64 0, .string ⟨#[]⟩, .int .i64 0, .string ⟨#[]⟩, .int .i64 0, .string ⟨#[]⟩] 102)) rfl ((Below.refl _ _).alloc (Nat.le_refl _) _) (zrow_new W _ 102)
  unfold Oper.wp
  go_simp
  exact this
theorem st_alloc4 (W : World) (d : Nat)
    (h : ∀ q W', q = W.heap.size → Below W.heap.size W W' → W'.rowIs q 4 1 (zrow #[.bool false]) → K (ac.put (some d) (.pointer (some ⟨q, 0, none⟩))) W') :
    if Region.wanted { dst := some d, op := .alloc 4, type := ty, pos := ps, after := af, guard := none } (yielded ops ac.tmps) = true then Oper.wp Try.prog { dst := some d, op := .alloc 4, type := ty, pos := ps, after := af, guard := none } ac W K Q else E := by
  rw [if_pos (by simp [Region.wanted])]
  have := h W.heap.size (W.alloc (.cells #[.bool false] 4)) rfl ((Below.refl _ _).alloc (Nat.le_refl _) _) (zrow_new W _ 4)
  unfold Oper.wp
  go_simp
  exact this
theorem But.sets {q : Nat} {W W' : World} (h : But q W W') (o : Nat) (v : Value) : But q W (W'.setCell ⟨q, o, none⟩ v) := h.set o v
theorem st_store30 (W : World) (tp tv : Nat) (q k : Nat) (x : LOp) (nn : Nat) (f : Nat → Value) (hp : ac.tmps[tp]?.getD undef = .pointer (some ⟨q, k, none⟩)) (hv : ac.tmps[tv]?.getD undef = .agg x.val) (hr : W.rowIs q 102 nn f) (hk : k + 7 ≤ nn)
    (hold : ∃ o : LOp, f k = .int .i64 o.kind ∧ f (k + 1) = .int .i64 o.dir ∧ f (k + 2) = .string o.name ∧ f (k + 3) = .int .i64 o.dir2 ∧ f (k + 4) = .string o.name2 ∧ f (k + 5) = .int .i64 o.id ∧ f (k + 6) = .string o.text)
    (h : ∀ W', But q W W' → W'.rowIs q 102 nn (fun i => if i = k + 6 then .string x.text else if i = k + 5 then .int .i64 x.id else if i = k + 4 then .string x.name2 else if i = k + 3 then .int .i64 x.dir2 else if i = k + 2 then .string x.name else if i = k + 1 then .int .i64 x.dir else if i = k then .int .i64 x.kind else f i) → K ac W') :
    if Region.wanted { dst := none, op := .store 102 (.tmp tp) (.tmp tv), type := ty, pos := ps, after := af, guard := none } (yielded ops ac.tmps) = true then Oper.wp Try.prog { dst := none, op := .store 102 (.tmp tp) (.tmp tv), type := ty, pos := ps, after := af, guard := none } ac W K Q else E := by
  rw [if_pos (by simp [Region.wanted])]
  obtain ⟨o, o0, o1, o2, o3, o4, o5, o6⟩ := hold
  have c0 : W.cell? ⟨q, k, none⟩ = some (.int .i64 o.kind) := by rw [hr.cell (by omega), o0]
  have c1 : W.cell? ⟨q, k + 1, none⟩ = some (.int .i64 o.dir) := by rw [hr.cell (by omega), o1]
  have c2 : W.cell? ⟨q, k + 2, none⟩ = some (.string o.name) := by rw [hr.cell (by omega), o2]
  have c3 : W.cell? ⟨q, k + 3, none⟩ = some (.int .i64 o.dir2) := by rw [hr.cell (by omega), o3]
  have c4 : W.cell? ⟨q, k + 4, none⟩ = some (.string o.name2) := by rw [hr.cell (by omega), o4]
  have c5 : W.cell? ⟨q, k + 5, none⟩ = some (.int .i64 o.id) := by rw [hr.cell (by omega), o5]
  have c6 : W.cell? ⟨q, k + 6, none⟩ = some (.string o.text) := by rw [hr.cell (by omega), o6]
  have z0 : W.frozen? ⟨q, k, none⟩ = false := hr.frozen _
  have z1 : W.frozen? ⟨q, k + 1, none⟩ = false := hr.frozen _
  have z2 : W.frozen? ⟨q, k + 2, none⟩ = false := hr.frozen _
  have z3 : W.frozen? ⟨q, k + 3, none⟩ = false := hr.frozen _
  have z4 : W.frozen? ⟨q, k + 4, none⟩ = false := hr.frozen _
  have z5 : W.frozen? ⟨q, k + 5, none⟩ = false := hr.frozen _
  have z6 : W.frozen? ⟨q, k + 6, none⟩ = false := hr.frozen _
  have := h (((((((W.setCell ⟨q, k, none⟩ (.int .i64 x.kind)).setCell ⟨q, k + 1, none⟩ (.int .i64 x.dir)).setCell ⟨q, k + 2, none⟩ (.string x.name)).setCell ⟨q, k + 3, none⟩ (.int .i64 x.dir2)).setCell ⟨q, k + 4, none⟩ (.string x.name2)).setCell ⟨q, k + 5, none⟩ (.int .i64 x.id)).setCell ⟨q, k + 6, none⟩ (.string x.text))
    (((((((But.refl q W).set _ _).set _ _).set _ _).set _ _).set _ _).set _ _ |>.set _ _)
    (((((((hr.set k _).set (k + 1) _).set (k + 2) _).set (k + 3) _).set (k + 4) _).set (k + 5) _).set (k + 6) _)
  clear h hr o0 o1 o2 o3 o4 o5 o6
  simp only [LOp.val] at hv
  unfold Oper.wp
  go_simp
  exact this
theorem st_store4 (W : World) (tp tv : Nat) (q : Nat) (b : Bool) (hp : ac.tmps[tp]?.getD undef = .pointer (some ⟨q, 0, none⟩)) (hv : ac.tmps[tv]?.getD undef = .bool b) (hr : W.rowIs q 4 1 (zrow #[.bool false]))
    (h : ∀ W', But q W W' → W'.cell? ⟨q, 0, none⟩ = some (.bool b) → K ac W') :
    if Region.wanted { dst := none, op := .store 4 (.tmp tp) (.tmp tv), type := ty, pos := ps, after := af, guard := none } (yielded ops ac.tmps) = true then Oper.wp Try.prog { dst := none, op := .store 4 (.tmp tp) (.tmp tv), type := ty, pos := ps, after := af, guard := none } ac W K Q else E := by
  rw [if_pos (by simp [Region.wanted])]
  have c0 := hr.cell (i := 0) (by omega)
  have z0 := hr.frozen 0
  have r2 := hr.set 0 (.bool b)
  have := h (W.setCell ⟨q, 0, none⟩ (.bool b)) ((But.refl q W).set _ _) (by rw [r2.cell (by omega)]; rfl)
  clear h hr r2
  simp [zrow] at c0
  unfold Oper.wp
  go_simp
  exact this
end
end Go.Proofs.Ytnfegihemhidgaa
