import Derived.Test.YtnfegihemhidgaaSlimS2
import Derived.Deep.DeepCutAuto
/- Lists that are made shorter: the specification, what is moved on. -/
namespace Go.Proofs.Ytnfegihemhidgaa
open Go.RowKit

theorem joinsB_no4 {a b : LOp} (h : (b.kind != 4) = true) : joinsB a b = false := by
  have : (b.kind == 4) = false := by simpa using h
  unfold joinsB; rw [this]; rfl
theorem joinsB_noid {a b : LOp} (h : (a.id != b.id) = true) : joinsB a b = false := by
  have : (a.id == b.id) = false := by simpa using h
  unfold joinsB; rw [this]; simp
theorem joinsB_make {a b : LOp} (h : (b.kind != 4) = false) (h1 : (a.id != b.id) = false) (hm : makesB a = true) : joinsB a b = ((b.dir == a.dir) && (b.name.toList == a.name.toList)) := by
  have e1 : (b.kind == 4) = true := by simpa using h
  have e2 : (a.id == b.id) = true := by simpa using h1
  unfold joinsB; rw [e1, e2, hm]; rfl
theorem joinsB_move {a b : LOp} (h : (b.kind != 4) = false) (h1 : (a.id != b.id) = false) (hm : makesB a = false) (h4 : (a.kind == 4) = true) : joinsB a b = ((b.dir == a.dir2) && (b.name.toList == a.name2.toList)) := by
  have e1 : (b.kind == 4) = true := by simpa using h
  have e2 : (a.id == b.id) = true := by simpa using h1
  unfold joinsB; rw [e1, e2, hm, h4]; rfl
theorem joinsB_none {a b : LOp} (hm : makesB a = false) (h4 : (a.kind == 4) = false) : joinsB a b = false := by
  unfold joinsB; rw [hm, h4]; simp
theorem kinds4 (a : LOp) : ((a.kind == 1) = true ∧ makesB a = true) ∨ ((a.kind == 1) = false ∧ (a.kind == 2) = true ∧ makesB a = true) ∨ ((a.kind == 1) = false ∧ (a.kind == 2) = false ∧ (a.kind == 4) = true ∧ makesB a = false) ∨ ((a.kind == 1) = false ∧ (a.kind == 2) = false ∧ (a.kind == 4) = false ∧ makesB a = false) := by
  unfold makesB
  cases (a.kind == 1) <;> cases (a.kind == 2) <;> cases (a.kind == 4) <;> simp

theorem OwnOps.one {W : World} {o : LOp} {B q : Nat} (hB : B ≤ W.heap.size) (hq : q = W.heap.size) : OwnOps (W.alloc (Obj.cells o.val 102)) B (.slice (some ⟨q, 0, none⟩) 1 1) [o] := by
  subst hq
  have := World.ownsRow_lit (base := B) (e := 102) (size := 7) W o.val 1 hB (by simp [maxLen]) (by simp [LOp.val])
  simpa [OwnOps, opCells] using this
theorem OwnOps.none_ {W : World} {B q : Nat} (hB : B ≤ W.heap.size) (hq : q = W.heap.size) : OwnOps (W.alloc (Obj.cells #[] 102)) B (.slice (some ⟨q, 0, none⟩) 0 0) [] := by
  subst hq
  exact OwnOps.empty W B hB
theorem OpsAt.none_ (w : World) (L U : Nat) (a : Option Addr) : OpsAt w L U a 0 [] := ⟨rfl, by simp [maxLen], fun h => absurd rfl h⟩
theorem OpsAt.drop_ {w : World} {L U b off n k : Nat} {ops : List LOp} (H : OpsAt w L U (some ⟨b, off, none⟩) n ops) (hk : k ≤ n) : OpsAt w L U (some ⟨b, off + k * 7, none⟩) (n - k) (ops.drop k) := by
  have hl := H.len
  have hbd := H.bd
  refine ⟨by simp; omega, by omega, fun hn => ?_⟩
  obtain ⟨b', off', ha, hL, hU, hc⟩ := H.at_ (by omega)
  simp only [Option.some.injEq, Addr.mk.injEq, and_true] at ha
  obtain ⟨rfl, rfl⟩ := ha
  refine ⟨_, _, rfl, hL, hU, fun i hi => ?_⟩
  obtain ⟨o, ho, hs, hat⟩ := hc (k + i) (by omega)
  refine ⟨o, by simpa using ho, hs, ?_⟩
  have e : off + k * 7 + i * 7 = off + (k + i) * 7 := by omega
  rw [e]
  exact hat
theorem OpsAt.grown {w w' : World} {L U : Nat} {a : Option Addr} {n : Nat} {ops : List LOp} {row : Option Nat} (H : OpsAt w L U a n ops) (hg : w.grownBy w' row) (hne : ∀ k, row = some k → k < L) (hU : U ≤ w.heap.size) : OpsAt w' L U a n ops :=
  ⟨H.len, H.bd, fun hn => by
    obtain ⟨b, off, ha, hL, hbU, hc⟩ := H.at_ hn
    refine ⟨b, off, ha, hL, hbU, fun i hi => ?_⟩
    obtain ⟨o, ho, hs, h0⟩ := hc i hi
    exact ⟨o, ho, hs, h0.of_block (hg.block b (by omega) (fun e => by have := hne b e.symm; omega))⟩⟩
theorem OwnOps.cut {w : World} {B g n cap k : Nat} {l : List LOp} (h : OwnOps w B (.slice (some ⟨g, 0, none⟩) n cap) l) (hn : n = l.length) (hk : k ≤ n) : OwnOps w B (.slice (some ⟨g, 0, none⟩) k cap) (l.take k) := by
  subst hn
  have hl : (l.take k).length = k := by simp; omega
  refine ⟨by rw [opCells_len], .inr ?_⟩
  rcases h.2 with ⟨h', _⟩ | ⟨g', cap', cur, h', hb, hg, hnc, hcm, hcs, htake⟩
  · simp at h'
  · simp only [Value.slice.injEq, Option.some.injEq, Addr.mk.injEq, and_true, true_and] at h'
    obtain ⟨rfl, rfl⟩ := h'
    refine ⟨g, cap, cur, by rw [hl], hb, hg, by omega, hcm, hcs, ?_⟩
    have e1 : opCells l = opCells (l.take k) ++ opCells (l.drop k) := by rw [← opCells_app, List.take_append_drop]
    have e2 : cur.toList.take (k * 7) = (cur.toList.take (l.length * 7)).take (k * 7) := by rw [List.take_take]; congr 1; omega
    rw [hl, e2, htake, e1, List.take_left' (by rw [opCells_len, hl])]
theorem step_app_all (w : World) {ops : Array Oper} {o : Oper} {ac : Act} {K : Act → World → Prop} {Q : Exit → Act → World → Prop} {E : Prop} (hgd : o.guard = none) (s x : Operand)
    (ho : o.op = .call { callee := .builtin .append, args := #[s, x], argTypes := #[34, 34] }) (B : Nat) (u : Value) (l news : List LOp) (hown : OwnOps w B u l) (a : Option Addr) (m c L U : Nat) (H : OpsAt w L U a m news)
    (hs : ac.eval s = u) (hx : ac.eval x = .slice a m c) (hbd : l.length + m ≤ 1000000) (hB : B ≤ w.heap.size)
    (h : ∀ v w', AppOEnd w w' B u v (l ++ news) → K (ac.put o.dst v) w') :
    if Region.wanted o (yielded ops ac.tmps) = true then Oper.wp Try.prog o ac w K Q else E := by
  have hw : Region.wanted o (yielded ops ac.tmps) = true := by simp [Region.wanted, hgd]
  rw [if_pos hw]
  exact wp_app_all w s x ho B u l news hown a m c L U H hs hx hbd hB h

theorem fix_join {cur : List LOp} {i : Nat} {a b : LOp} (ha : cur[i]? = some a) (hb : cur[i + 1]? = some b) (hj : joinsB a b = true) (hl : ∀ t, t < i → joinsAt cur t = false) : moveStep cur = some (cur.take i ++ joinL a b ++ cur.drop (i + 2)) := by
  unfold moveStep
  rw [firstJoin_some (i := i) (List.getElem?_eq_some_iff.1 ha).1 (by unfold joinsAt; rw [ha, hb]; exact hj) hl, Option.map_some]
  unfold joinedAt
  rw [ha, hb]
theorem joinsAt_of {cur : List LOp} {i : Nat} {a b : LOp} (ha : cur[i]? = some a) (hb : cur[i + 1]? = some b) : joinsAt cur i = joinsB a b := by
  unfold joinsAt; rw [ha, hb]
theorem fix_nojoin {cur : List LOp} {j : Nat} (hj : cur.length ≤ j + 1) (hl : ∀ t, t < j → joinsAt cur t = false) : moveStep cur = none := by
  unfold moveStep
  rw [firstJoin_none fun t ht => ?_]; rfl
  by_cases h : t < j
  · exact hl t h
  · unfold joinsAt
    rw [List.getElem?_eq_none (i := t + 1) (by omega)]
    split
    · next h2 => cases h2
    · rfl
end Go.Proofs.Ytnfegihemhidgaa
