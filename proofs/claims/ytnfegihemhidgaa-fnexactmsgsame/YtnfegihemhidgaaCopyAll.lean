import Derived.Test.YtnfegihemhidgaaTurn
import Derived.Deep.Upon
/- A tree in new memory. -/
namespace Go.Proofs.Ytnfegihemhidgaa
open Go.RowKit

/-- The cells of objects, their names' slices given. -/
def objCells (os : List LObj) (vs : Nat → Value) : Nat → List Value
  | 0 => []
  | k + 1 => objCells os vs k ++ (match os[k]? with | some o => [.int .i64 o.kind, .int .i64 o.ver, .string o.text, vs k] | none => [])
theorem objCells_len (os : List LObj) (vs : Nat → Value) : ∀ k, k ≤ os.length → (objCells os vs k).length = k * 4
  | 0, _ => rfl
  | k + 1, h => by
    have ih := objCells_len os vs k (by omega)
    have ho : os[k]? = some os[k] := by simp [show k < os.length by omega]
    simp only [objCells, ho, List.length_append, ih, List.length_cons, List.length_nil]
    omega
theorem objCells_at (os : List LObj) (vs : Nat → Value) : ∀ k, k ≤ os.length → ∀ i o, i < k → os[i]? = some o → (objCells os vs k)[i * 4]? = some (.int .i64 o.kind) ∧ (objCells os vs k)[i * 4 + 1]? = some (.int .i64 o.ver) ∧ (objCells os vs k)[i * 4 + 2]? = some (.string o.text) ∧ (objCells os vs k)[i * 4 + 3]? = some (vs i)
  | 0, _, i, o, h, _ => by omega
  | k + 1, hk, i, o, h, ho => by
    have hl := objCells_len os vs k (by omega)
    by_cases hik : i = k
    · subst hik
      simp only [objCells, ho]
      refine ⟨?_, ?_, ?_, ?_⟩
      · rw [List.getElem?_append_right (by omega)]; simp [hl]
      · rw [List.getElem?_append_right (by omega)]; simp [hl]
      · rw [List.getElem?_append_right (by omega)]; simp [hl]
      · rw [List.getElem?_append_right (by omega)]; simp [hl]
    · have ih := objCells_at os vs k (by omega) i o (by omega) ho
      simp only [objCells]
      refine ⟨?_, ?_, ?_, ?_⟩
      · rw [List.getElem?_append_left (by omega)]; exact ih.1
      · rw [List.getElem?_append_left (by omega)]; exact ih.2.1
      · rw [List.getElem?_append_left (by omega)]; exact ih.2.2.1
      · rw [List.getElem?_append_left (by omega)]; exact ih.2.2.2
theorem objCells_congr (os : List LObj) {vs vs' : Nat → Value} : ∀ k, (∀ i, i < k → vs i = vs' i) → objCells os vs k = objCells os vs' k
  | 0, _ => rfl
  | k + 1, h => by
    simp only [objCells]
    rw [objCells_congr os k (fun i hi => h i (by omega)), h k (by omega)]

/-- So far copied: the first k objects, in a row of the call's own, their names in rows of their own. -/
structure CopyAt (w : World) (B : Nat) (v : Value) (os : List LObj) (vs : Nat → Value) (k : Nat) : Prop where
  own : w.ownsRow B 68 4 v k (objCells os vs k)
  kids : ∀ i o, i < k → os[i]? = some o → (∃ g kc, vs i = .slice (some ⟨g, 0, none⟩) o.kids.length kc) ∧ OwnEnts w B (vs i) o.kids
  apart : ∀ i j g, i < k → j < k → i ≠ j → (vs i).ownBlock = some g → (vs j).ownBlock ≠ some g

theorem CopyAt.done {w : World} {B n : Nat} {v : Value} {os : List LObj} {vs : Nat → Value} (h : CopyAt w B v os vs n) (hn : n = os.length) (h1 : 1 ≤ n) (hs : ∀ o ∈ os, o.text.size ≤ maxLen ∧ ∀ e ∈ o.kids, e.name.size ≤ maxLen) : ∃ b c, v = .slice (some ⟨b, 0, none⟩) n c ∧ OwnT w B b c os vs := by
  subst hn
  rcases h.own.2 with ⟨_, h0⟩ | ⟨b, c, cur, rfl, hb, hg, hnc, hcm, hcs, htake⟩
  · omega
  · refine ⟨b, c, rfl, hb, ⟨cur, hg, hcs, hnc, hcm⟩, fun i o ho => ?_, h.apart⟩
    have hlt : i < os.length := (List.getElem?_eq_some_iff.1 ho).1
    have hc := objCells_at os vs os.length (Nat.le_refl _) i o hlt ho
    have hat : ∀ j, j < os.length * 4 → w.cell? ⟨b, j, none⟩ = (objCells os vs os.length)[j]? := fun j hj => World.ownsRow.cellAt h.own j hj
    have hk := h.kids i o hlt ho
    have hso := hs o (List.mem_of_getElem? ho)
    exact ⟨hso.1, by rw [hat _ (by omega)]; exact hc.1, by rw [hat _ (by omega)]; exact hc.2.1, by rw [hat _ (by omega)]; exact hc.2.2.1, by rw [hat _ (by omega)]; exact hc.2.2.2, hk.2, hso.2⟩
end Go.Proofs.Ytnfegihemhidgaa

/- A tree in new memory: the walk. -/
namespace Go.Proofs.Ytnfegihemhidgaa
open Go.RowKit

theorem info34' : (Try.prog.info? 68).map (fun i => (i.zero, i.size, i.bytes)) = some (some (.agg #[.int .i64 0, .int .i64 0, .string ⟨#[]⟩, .slice none 0 0]), 4, 56) := by kernel_rfl

theorem OwnEnts.empty' (w : World) (B g : Nat) (hg : w.heap.size = g) (hB : B ≤ w.heap.size) : OwnEnts (w.alloc (Obj.cells #[] 99)) B (.slice (some ⟨g, 0, none⟩) 0 0) [] := by
  subst hg; exact OwnEnts.empty w B hB

theorem own_block {w w' : World} {B n size : Nat} {e : TypeId} {v : Value} {xs : List Value} (h : w.ownsRow B e size v n xs) (hb : ∀ k, v.ownBlock = some k → w'.heap[k]? = w.heap[k]?) : w'.ownsRow B e size v n xs := by
  refine ⟨h.1, ?_⟩
  rcases h.2 with hn | ⟨g, cap, cur, rfl, h1, hg, rest⟩
  · exact .inl hn
  · exact .inr ⟨g, cap, cur, rfl, h1, by rw [hb g rfl]; exact hg, rest⟩
theorem own_apart {w : World} {B B' n : Nat} {u v : Value} {xs : List Value} {es : List LEnt} (hu : w.ownsRow B 68 4 u n xs) (hv : OwnEnts w B' v es) : ∀ g, v.ownBlock = some g → u.ownBlock ≠ some g := by
  intro g h1 h2
  rcases hu.2 with ⟨rfl, _⟩ | ⟨g1, c1, cur1, rfl, _, hg1, _⟩
  · simp [Value.ownBlock] at h2
  · rcases hv.2 with ⟨rfl, _⟩ | ⟨g2, c2, cur2, rfl, _, hg2, _⟩
    · simp [Value.ownBlock] at h1
    · simp [Value.ownBlock] at h1 h2
      subst h1 h2
      rw [hg1] at hg2
      simp at hg2
theorem own_set {wr w1 : World} {B n k : Nat} {u v : Value} {vs : Nat → Value} {os : List LObj} {xs : List Value} (h : w1.ownsRow B 68 4 u n xs) (_hz : wr.heap.size + 2 ≤ w1.heap.size) (hc : Hid (CopyAt wr B u os vs n)) : (w1.setCell ⟨wr.heap.size, k, none⟩ v).ownsRow B 68 4 u n xs :=
  own_block h fun g hg => Below.heap_setCell w1 ⟨wr.heap.size, k, none⟩ v g (by have := (hc.out.own.lt g hg).2; intro e; simp at e; omega)
theorem four_at {w : World} {u v0 v1 v2 v3 : Value} {t : TypeId} {i g : Nat} (h : [v0, v1, v2, v3][i]? = some u) (hg : w.heap.size = g) : (w.alloc (Obj.cells #[v0, v1, v2, v3] t)).cell? ((⟨g, 0, none⟩ : Addr).add i) = some u := by
  subst hg
  match i, h with
  | 0, h => simp at h; subst h; simp [Addr.add]
  | 1, h => simp at h; subst h; simp [Addr.add]
  | 2, h => simp at h; subst h; simp [Addr.add]
  | 3, h => simp at h; subst h; simp [Addr.add]
theorem block_set {w1 w2 : World} {c k : Nat} {v : Value} {o : Obj} {row : Option Nat} (hg : ((w1.setCell ⟨c, k, none⟩ v).alloc o).grownBy w2 row) {q : Nat} (h1 : q < w1.heap.size) (h2 : q ≠ c) (h3 : row ≠ some q) : w2.heap[q]? = w1.heap[q]? := by
  rw [hg.block q (by simp; omega) (Ne.symm h3), (World.grownBy_alloc _ _ none).block q (by simpa using h1) (by simp)]
  exact Below.heap_setCell w1 ⟨c, k, none⟩ v q h2
theorem far_set {w1 w2 : World} {c k : Nat} {v : Value} {o : Obj} {row : Option Nat} (hg : ((w1.setCell ⟨c, k, none⟩ v).alloc o).grownBy w2 row) {q : Addr} (h1 : q.block < w1.heap.size) (h2 : q.block ≠ c) (h3 : row ≠ some q.block) : w2.cell? q = w1.cell? q ∧ w2.frozen? q = w1.frozen? q :=
  ⟨World.cell?_of_block (block_set hg h1 h2 h3), World.frozen?_of_block (block_set hg h1 h2 h3)⟩
theorem ents_cells {w : World} {kb koff n : Nat} {es : List LEnt} (hn : n = es.length) (hc : ∀ i, i < n → ∃ e, es[i]? = some e ∧ e.name.size ≤ maxLen ∧ w.cell? ⟨kb, koff + i * 2, none⟩ = some (.string e.name) ∧ w.cell? ⟨kb, koff + i * 2 + 1, none⟩ = some (.int .i64 e.id)) :
    ∀ j u, (entCells es)[j]? = some u → w.cell? ((⟨kb, koff, none⟩ : Addr).add j) = some u := by
  intro j u hu
  subst hn
  have hj : j < es.length * 2 := by have := (List.getElem?_eq_some_iff.1 hu).1; rwa [entCells_len] at this
  have hadd : (⟨kb, koff, none⟩ : Addr).add j = ⟨kb, koff + j, none⟩ := by unfold Addr.add; split <;> simp_all
  rw [hadd]
  obtain ⟨e, he, _, h0, h1⟩ := hc (j / 2) (by omega)
  have ha := entCells_at es (j / 2) e he
  rcases Nat.mod_two_eq_zero_or_one j with hm | hm
  · have ej : j = j / 2 * 2 := by omega
    have ek : koff + j = koff + j / 2 * 2 := by omega
    rw [ek, h0]
    rw [ej, ha.1] at hu
    exact hu
  · have ej : j = j / 2 * 2 + 1 := by omega
    have ek : koff + j = koff + j / 2 * 2 + 1 := by omega
    rw [ek, h1]
    rw [ej, ha.2] at hu
    exact hu
theorem wpList_app_zero (w : World) {ops : Array Oper} {rest : List Oper} {o : Oper} {a : Act} {Q : Exit → Act → World → Prop} (hgd : o.guard = none) (s x : Operand)
    (ho : o.op = .call { callee := .builtin .append, args := #[s, x], argTypes := #[66, 66] }) (B g n cap : Nat) (l : List LEnt) (hn : n = l.length) (hown : OwnEnts w B (.slice (some ⟨g, 0, none⟩) n cap) l) (ka : Option Addr) (kc : Nat)
    (hs : a.eval s = .slice (some ⟨g, 0, none⟩) n cap) (hx : a.eval x = .slice ka 0 kc)
    (h : ∀ g' cap' w', AppEnd w w' B g g' (n + 0) cap' (l ++ []) → wpList Try.prog ops Q rest (a.put o.dst (.slice (some ⟨g', 0, none⟩) (n + 0) cap')) w') : wpList Try.prog ops Q (o :: rest) a w := by
  obtain ⟨i0, hi, hz0, hz1, hz2⟩ := info_parts info47'
  have hle : n ≤ cap := by
    rcases hown.2 with ⟨h', _⟩ | ⟨g', cap', cur, h', _, _, hnc, _⟩
    · simp at h'
    · simp at h'; omega
  have hlt : g < w.heap.size := (World.ownsRow.lt hown g rfl).2
  have hsrc : Src Try.prog i0.size 66 (.slice ka 0 kc) 0 [] w := by
    cases ka with
    | none => exact Src.ofNil w Try.underlying66 kc
    | some ad => exact Src.ofSlice w Try.underlying66 ad 0 kc [] (by simp) (fun j u hu => by simp at hu) (fun u hu => by simp at hu)
  have hrun := run_append_nothing (P := Try.prog) w 66 66 o.type 99 i0 Try.underlying66 hi (some ⟨g, 0, none⟩) n cap hle _ hsrc
  have hend : AppEnd w w B g g (n + 0) cap (l ++ []) := ⟨by simpa using hown, World.grownBy.refl w _, .inl rfl, hlt⟩
  refine wpList_plain hgd fun K hK => ?_
  unfold Oper.wp execOp
  simp only [ho, resolve, invoke, builtin, Sem.run_bind, Sem.run_pure, Result.andThen_ok, List.map_toArray, List.map_cons, List.map_nil, hs, hx, hrun]
  exact hK _ _ (h g cap w hend)
theorem copy_set {w : World} {B n : Nat} {v u : Value} {os : List LObj} {vs : Nat → Value} (h : CopyAt w (B + 3) v os vs n) : CopyAt (w.setCell ⟨B + 1, 0, none⟩ u) B v os vs n := by
  have hk : ∀ k, B + 3 ≤ k → (w.setCell ⟨B + 1, 0, none⟩ u).heap[k]? = w.heap[k]? := fun k hk => Below.heap_setCell w ⟨B + 1, 0, none⟩ u k (by intro e; simp at e; omega)
  refine ⟨(own_block h.own fun k e => hk k (h.own.lt k e).1).mono (by omega), fun i o hi ho => ?_, h.apart⟩
  obtain ⟨h1, h2⟩ := h.kids i o hi ho
  exact ⟨h1, World.ownsRow.mono (own_block h2 fun k e => hk k (h2.lt k e).1) (by omega)⟩
theorem CopyAt.next {wr wf : World} {B j : Nat} {u u' : Value} {os : List LObj} {vs : Nat → Value} (h : CopyAt wr B u os vs j) {o : LObj} (ho : os[j]? = some o) {g1 c1 : Nat}
    (ha : ∀ k, k < wr.heap.size → B ≤ k → u.ownBlock ≠ some k → wf.heap[k]? = wr.heap[k]?) (hu : wf.ownsRow B 68 4 u' (j + 1) (objCells os vs j ++ [.int .i64 o.kind, .int .i64 o.ver, .string o.text, .slice (some ⟨g1, 0, none⟩) o.kids.length c1]))
    (hv : OwnEnts wf B (.slice (some ⟨g1, 0, none⟩) o.kids.length c1) o.kids) (hg : wr.heap.size ≤ g1) :
    CopyAt wf B u' os (fun i => if i = j then .slice (some ⟨g1, 0, none⟩) o.kids.length c1 else vs i) (j + 1) := by
  have hc : objCells os (fun i => if i = j then .slice (some ⟨g1, 0, none⟩) o.kids.length c1 else vs i) j = objCells os vs j := objCells_congr os j fun i hi => by simp [show i ≠ j by omega]
  refine ⟨?_, fun i p hi hp => ?_, fun i k g hi hk hik => ?_⟩
  · simp only [objCells, hc, ho, if_true]; exact hu
  · by_cases hij : i = j
    · subst hij
      obtain rfl : p = o := by rw [ho] at hp; simpa using hp.symm
      simp only [if_true]
      exact ⟨⟨g1, c1, rfl⟩, hv⟩
    · simp only [if_neg hij]
      obtain ⟨h1, h2⟩ := h.kids i p (by omega) hp
      exact ⟨h1, own_block h2 fun k hk => ha k (h2.lt k hk).2 (h2.lt k hk).1 (own_apart h.own h2 k hk)⟩
  · by_cases hij : i = j
    · subst hij
      have hkj : k ≠ i := fun e => hik e.symm
      simp only [if_true, if_neg hkj, Value.ownBlock]
      intro e1 e2
      simp at e1
      subst e1
      obtain ⟨p, hp⟩ : ∃ p, os[k]? = some p := ⟨os[k]'(by have := (List.getElem?_eq_some_iff.1 ho).1; omega), by simp⟩
      have := ((h.kids k p (by omega) hp).2.lt g1 e2).2
      omega
    · by_cases hkj : k = j
      · subst hkj
        simp only [if_true, if_neg hij, Value.ownBlock]
        intro e1 e2
        simp at e2
        subst e2
        obtain ⟨p, hp⟩ : ∃ p, os[i]? = some p := ⟨os[i]'(by have := (List.getElem?_eq_some_iff.1 ho).1; omega), by simp⟩
        have := ((h.kids i p (by omega) hp).2.lt g1 e1).2
        omega
      · simp only [if_neg hij, if_neg hkj]
        exact h.apart i k g (by omega) (by omega) hik

end Go.Proofs.Ytnfegihemhidgaa
