import Derived.Test.YtnfegihemhidgaaSlimS
import Derived.Deep.Upon
/- Lists that are made shorter: the specification, what goes again. -/
namespace Go.Proofs.Ytnfegihemhidgaa
open Go.RowKit

def outB (ops : List LOp) (id : Int) (i k j : Nat) : Bool := (decide (j < i) || decide (k < j)) || (idAt ops j != id)
/-! append of a whole list. -/
theorem OpsAt.cells {w : World} {L U b off n : Nat} {ops : List LOp} (H : OpsAt w L U (some ⟨b, off, none⟩) n ops) : ∀ j u, (opCells ops)[j]? = some u → w.cell? ((⟨b, off, none⟩ : Addr).add j) = some u := by
  intro j u hu
  have hadd : (⟨b, off, none⟩ : Addr).add j = ⟨b, off + j, none⟩ := by unfold Addr.add; split <;> simp_all
  rw [hadd]
  have hj := (List.getElem?_eq_some_iff.1 hu).1
  rw [opCells_len] at hj
  have hl := H.len
  obtain ⟨b', off', ha, _, _, hc⟩ := H.at_ (by omega)
  simp only [Option.some.injEq, Addr.mk.injEq, and_true] at ha
  obtain ⟨rfl, rfl⟩ := ha
  obtain ⟨o, ho, _, hat⟩ := hc (j / 7) (by omega)
  have hv : ∀ t v, t < 7 → j = j / 7 * 7 + t → o.val[t]? = some v → u = v := fun t v ht e hv => by
    have := opCells_at ops (j / 7) o ho t v hv
    rw [← e, hu] at this
    exact Option.some.inj this
  have e7 : j = j / 7 * 7 + j % 7 := by omega
  have hm : j % 7 < 7 := Nat.mod_lt _ (by omega)
  generalize j % 7 = t at e7 hm
  match t, hm with
  | 0, _ => rw [hv 0 _ (by omega) e7 (by simp [LOp.val]; rfl), e7, ← Nat.add_assoc]; exact hat.c0
  | 1, _ => rw [hv 1 _ (by omega) e7 (by simp [LOp.val]; rfl), e7, ← Nat.add_assoc]; exact hat.c1
  | 2, _ => rw [hv 2 _ (by omega) e7 (by simp [LOp.val]; rfl), e7, ← Nat.add_assoc]; exact hat.c2
  | 3, _ => rw [hv 3 _ (by omega) e7 (by simp [LOp.val]; rfl), e7, ← Nat.add_assoc]; exact hat.c3
  | 4, _ => rw [hv 4 _ (by omega) e7 (by simp [LOp.val]; rfl), e7, ← Nat.add_assoc]; exact hat.c4
  | 5, _ => rw [hv 5 _ (by omega) e7 (by simp [LOp.val]; rfl), e7, ← Nat.add_assoc]; exact hat.c5
  | 6, _ => rw [hv 6 _ (by omega) e7 (by simp [LOp.val]; rfl), e7, ← Nat.add_assoc]; exact hat.c6
theorem run_app_all (w : World) (B : Nat) (u : Value) (l news : List LOp) (ty : TypeId) (hown : OwnOps w B u l) (a : Option Addr) (m c L U : Nat) (H : OpsAt w L U a m news) (hbd : l.length + m ≤ 1000000) (hB : B ≤ w.heap.size) :
    ∃ v' w', (Builtin.append_ #[34, 34] ty #[u, .slice a m c]).run Try.prog w = .ok v' w' ∧ AppOEnd w w' B u v' (l ++ news) := by
  obtain ⟨i0, hi, hz0, hz1, hz2⟩ := info_parts infoO
  by_cases hm : m = 0
  · subst hm
    obtain rfl : news = [] := List.eq_nil_of_length_eq_zero H.len.symm
    have hsrc : Src Try.prog i0.size 34 (.slice a 0 c) 0 [] w := by
      cases a with
      | none => exact Src.ofNil w Try.underlying34 c
      | some ad => exact Src.ofSlice w Try.underlying34 ad 0 c [] (by simp) (fun j u hu => by simp at hu) (fun u hu => by simp at hu)
    obtain ⟨ua, un, uc, rfl, hle⟩ : ∃ ua un uc, u = .slice ua un uc ∧ un ≤ uc := by
      rcases hown.2 with ⟨h', _⟩ | ⟨g', cap', cur, h', _, _, hnc, _⟩
      · exact ⟨_, _, _, h', Nat.le_refl _⟩
      · exact ⟨_, _, _, h', hnc⟩
    refine ⟨_, _, run_append_nothing (P := Try.prog) w 34 34 ty 102 i0 Try.underlying34 hi ua un uc hle _ hsrc, ⟨by simpa using hown, World.grownBy.refl w _, fun g hg => .inl hg⟩⟩
  · obtain ⟨b, off, rfl, _⟩ := H.at_ hm
    have hl := H.len
    subst hl
    obtain ⟨v', w', hr, h2, h3, h4, h5⟩ := run_append_own_at (P := Try.prog) w B 34 ty 102 i0 _ 7 80 Try.underlying34 hi hz0 hz1 hz2 rfl (by decide) _ _ _ hown ⟨b, off, none⟩ news.length c (opCells news) (opCells_len _) H.cells (opCells_one _) (by unfold maxLen; omega) (by omega) hB
    refine ⟨v', w', hr, ⟨?_, h3, ?_⟩⟩
    · unfold OwnOps; rw [opCells_app, List.length_append]; exact h2
    · intro g hg
      rcases h5 with h5 | h5
      · left; rw [← h5]; exact hg
      · right; rw [hg] at h5; simpa using h5
theorem wp_app_all (w : World) {o : Oper} {ac : Act} {K : Act → World → Prop} {Q : Exit → Act → World → Prop} (s x : Operand)
    (ho : o.op = .call { callee := .builtin .append, args := #[s, x], argTypes := #[34, 34] }) (B : Nat) (u : Value) (l news : List LOp) (hown : OwnOps w B u l) (a : Option Addr) (m c L U : Nat) (H : OpsAt w L U a m news)
    (hs : ac.eval s = u) (hx : ac.eval x = .slice a m c) (hbd : l.length + m ≤ 1000000) (hB : B ≤ w.heap.size)
    (h : ∀ v w', AppOEnd w w' B u v (l ++ news) → K (ac.put o.dst v) w') : o.wp Try.prog ac w K Q := by
  obtain ⟨v', w', hr, h2⟩ := run_app_all w B u l news o.type hown a m c L U H hbd hB
  unfold Oper.wp execOp
  simp only [ho, resolve, invoke, builtin, Sem.run_bind, Sem.run_pure, Result.andThen_ok, List.map_toArray, List.map_cons, List.map_nil, hs, hx, hr]
  exact h v' w' h2
theorem wpList_app_all (w : World) {ops : Array Oper} {rest : List Oper} {o : Oper} {ac : Act} {Q : Exit → Act → World → Prop} (hgd : o.guard = none) (s x : Operand)
    (ho : o.op = .call { callee := .builtin .append, args := #[s, x], argTypes := #[34, 34] }) (B : Nat) (u : Value) (l news : List LOp) (hown : OwnOps w B u l) (a : Option Addr) (m c L U : Nat) (H : OpsAt w L U a m news)
    (hs : ac.eval s = u) (hx : ac.eval x = .slice a m c) (hbd : l.length + m ≤ 1000000) (hB : B ≤ w.heap.size)
    (h : ∀ v w', AppOEnd w w' B u v (l ++ news) → wpList Try.prog ops Q rest (ac.put o.dst v) w') : wpList Try.prog ops Q (o :: rest) ac w :=
  wpList_plain hgd fun _ hK => wp_app_all w s x ho B u l news hown a m c L U H hs hx hbd hB fun v w' h2 => hK _ _ (h v w' h2)

theorem AppOEnd.belowW {w0 W w1 : World} {B : Nat} {u v : Value} {l r : List LOp} (hE : AppOEnd W w1 B u v r) (hown : OwnOps W B u l) (hb : Below B w0 W) (hsz : B ≤ W.heap.size) : Below B w0 w1 :=
  below_grown hb hE.grown (fun k e => (hown.lt k e).1) hsz
theorem fix_pair {cur : List LOp} {i k : Nat} (hi : i < cur.length) (hk : goesL cur i = (k : Int)) (hl : ∀ t, t < i → goesL cur t < 0) : pairStep cur = some (without cur (idAt cur i) i k) := by
  unfold pairStep
  rw [firstPair_some hi (by omega) hl, Option.map_some, hk]
  rfl
theorem fix_nopair {cur : List LOp} (hl : ∀ t, t < cur.length → goesL cur t < 0) : pairStep cur = none := by
  unfold pairStep
  rw [firstPair_none hl]; rfl

end Go.Proofs.Ytnfegihemhidgaa
