/- Lemmas that the proofs of this seat share: Rop. -/
import Derived.Test.YtnolbfijcnldjaaGreatDoorU02
import Derived.Test.YtnolbfijcnldjaaGreatDoorU06
/- Rows of what is done, of one's own, that grow. -/
namespace Go.Proofs.YtnolbfijcnldjaaGreatDoor
open Go.RowKit

/-- The cells of what is done, one behind the other. -/
def opCells (l : List LOp) : List Value := l.flatMap fun o => o.val.toList
theorem opCells_len (l : List LOp) : (opCells l).length = l.length * 7 := by
  induction l with
  | nil => rfl
  | cons o r ih => simp only [opCells, List.flatMap_cons, List.length_append, List.length_cons] at ih ⊢; rw [ih]; simp [LOp.val]; omega
theorem opCells_app (l r : List LOp) : opCells (l ++ r) = opCells l ++ opCells r := by simp [opCells]
theorem opCells_one (l : List LOp) : ∀ u ∈ opCells l, u.oneCell' = true := by
  intro u hu
  simp only [opCells, List.mem_flatMap] at hu
  obtain ⟨e, _, h⟩ := hu
  simp [LOp.val] at h
  rcases h with rfl | rfl | rfl | rfl | rfl | rfl | rfl <;> rfl
def OwnOps (w : World) (B : Nat) (v : Value) (l : List LOp) : Prop := w.ownsRow B 27 7 v l.length (opCells l)
theorem infoO : (Tryz.prog.info? 27).map (fun i => (i.zero, i.size, i.bytes)) = some (some (.agg #[.int .i64 0, .int .i64 0, .string ⟨#[]⟩, .int .i64 0, .string ⟨#[]⟩, .int .i64 0, .string ⟨#[]⟩]), 7, 80) := by kernel_rfl
structure AppOEnd (w w' : World) (B : Nat) (u v : Value) (l : List LOp) : Prop where
  own : OwnOps w' B v l
  grown : w.grownBy w' u.ownBlock
  at_ : ∀ g, v.ownBlock = some g → u.ownBlock = some g ∨ g = w.heap.size
theorem wpList_app_ops (w : World) {ops : Array Oper} {rest : List Oper} {o : Oper} {a : Act} {Q : Exit → Act → World → Prop} (hgd : o.guard = none) (s x : Operand)
    (ho : o.op = .call { callee := .builtin .append, args := #[s, x], argTypes := #[43, 43] }) (B : Nat) (u : Value) (l news : List LOp) (hown : OwnOps w B u l) (ad : Addr) (m c : Nat) (hm : m = news.length)
    (hs : a.eval s = u) (hx : a.eval x = .slice (some ad) m c)
    (hnews : ∀ j u, (opCells news)[j]? = some u → w.cell? (ad.add j) = some u) (hbd : l.length + m ≤ 1000000) (hB : B ≤ w.heap.size)
    (h : ∀ v w', AppOEnd w w' B u v (l ++ news) → wpList Tryz.prog ops Q rest (a.put o.dst v) w') : wpList Tryz.prog ops Q (o :: rest) a w := by
  obtain ⟨i0, hi, hz0, hz1, hz2⟩ := info_parts infoO
  subst hm
  obtain ⟨v', w', hr, h2, h3, h4, h5⟩ := run_append_own_at (P := Tryz.prog) w B 43 o.type 27 i0 _ 7 80 Tryz.underlying43 hi hz0 hz1 hz2 rfl (by decide) _ _ _ hown ad news.length c (opCells news) (opCells_len _) hnews (opCells_one _) (by unfold maxLen; omega) (by omega) hB
  refine wpList_plain hgd fun K hK => ?_
  unfold Oper.wp execOp
  simp only [ho, resolve, invoke, builtin, Sem.run_bind, Sem.run_pure, Result.andThen_ok, List.map_toArray, List.map_cons, List.map_nil, hs, hx, hr]
  refine hK _ _ (h v' w' ⟨?_, h3, ?_⟩)
  · unfold OwnOps; rw [opCells_app, List.length_append]; exact h2
  · intro g hg
    rcases h5 with h5 | h5
    · left; rw [← h5]; exact hg
    · right; rw [hg] at h5; simpa using h5
end Go.Proofs.YtnolbfijcnldjaaGreatDoor
