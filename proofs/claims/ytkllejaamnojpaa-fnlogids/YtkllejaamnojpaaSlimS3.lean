import Derived.Test.YtkllejaamnojpaaSlimS2
import Derived.Deep.DeepCutAuto
/- Lists that are made shorter: the specification, what is moved on. -/
namespace Go.Proofs.Ytkllejaamnojpaa
open Go.RowKit

theorem joinsB_no4 {a b : LOp} (h : (b.kind != 4) = true) : joinsB a b = false := by
  have : (b.kind == 4) = false := by simpa using h
  unfold joinsB; rw [this]; rfl
theorem joinsB_noid {a b : LOp} (h : (a.id != b.id) = true) : joinsB a b = false := by
  have : (a.id == b.id) = false := by simpa using h
  unfold joinsB; rw [this]; simp
theorem joinsB_make {a b : LOp} (h : (b.kind != 4) = false) (h1 : (a.id != b.id) = false) (hm : makesB a = true) : joinsB a b = ((b.dir == a.dir) && (b.name.toList == a.name.toList)) := by
  have e1 : (b.kind == 4) = true := by simpa using h
  have e2 : (a.id == b.id) = true := by simpa using h1
  unfold joinsB; rw [e1, e2, hm]; rfl
theorem joinsB_move {a b : LOp} (h : (b.kind != 4) = false) (h1 : (a.id != b.id) = false) (hm : makesB a = false) (h4 : (a.kind == 4) = true) : joinsB a b = ((b.dir == a.dir2) && (b.name.toList == a.name2.toList)) := by
  have e1 : (b.kind == 4) = true := by simpa using h
  have e2 : (a.id == b.id) = true := by simpa using h1
  unfold joinsB; rw [e1, e2, hm, h4]; rfl
theorem joinsB_none {a b : LOp} (hm : makesB a = false) (h4 : (a.kind == 4) = false) : joinsB a b = false := by
  unfold joinsB; rw [hm, h4]; simp
theorem kinds4 (a : LOp) : ((a.kind == 1) = true ∧ makesB a = true) ∨ ((a.kind == 1) = false ∧ (a.kind == 2) = true ∧ makesB a = true) ∨ ((a.kind == 1) = false ∧ (a.kind == 2) = false ∧ (a.kind == 4) = true ∧ makesB a = false) ∨ ((a.kind == 1) = false ∧ (a.kind == 2) = false ∧ (a.kind == 4) = false ∧ makesB a = false) := by
  unfold makesB
  cases (a.kind == 1) <;> cases (a.kind == 2) <;> cases (a.kind == 4) <;> simp

set_option maxHeartbeats 2000000 in
theorem joins_any (a b : LOp) (w : World) : Calls Try.prog 123 #[.agg a.val, .agg b.val] w fun e w' => e = .returned (.bool (joinsB a b)) ∧ w' = (w.alloc (.cells a.val 30)).alloc (.cells b.val 30) := by
  simp only [LOp.val]
  rcases t0 : (b.kind != 4) with _ | _
  · rcases t1 : (a.id != b.id) with _ | _
    · rcases kinds4 a with ⟨k1, hm⟩ | ⟨k1, k2, hm⟩ | ⟨k1, k2, k4, hm⟩ | ⟨k1, k2, k4, hm⟩
      · have HJ : Hid (joinsB a b = ((b.dir == a.dir) && (b.name.toList == a.name.toList))) := joinsB_make t0 t1 hm
        clear hm
        rcases t2 : (b.dir == a.dir) with _ | _
        all_goals
          go_enter Try.func123, Try.ntmps123
          go_wp2_with fail
          go_ret
          exact ⟨ret_bool (by rw [HJ.out, t2]; rfl), rfl⟩
      · have HJ : Hid (joinsB a b = ((b.dir == a.dir) && (b.name.toList == a.name.toList))) := joinsB_make t0 t1 hm
        clear hm
        rcases t2 : (b.dir == a.dir) with _ | _
        all_goals
          go_enter Try.func123, Try.ntmps123
          go_wp2_with fail
          go_ret
          exact ⟨ret_bool (by rw [HJ.out, t2]; rfl), rfl⟩
      · have HJ : Hid (joinsB a b = ((b.dir == a.dir2) && (b.name.toList == a.name2.toList))) := joinsB_move t0 t1 hm k4
        clear hm
        rcases t2 : (b.dir == a.dir2) with _ | _
        all_goals
          go_enter Try.func123, Try.ntmps123
          go_wp2_with fail
          go_ret
          exact ⟨ret_bool (by rw [HJ.out, t2]; rfl), rfl⟩
      · have HJ : Hid (joinsB a b = false) := joinsB_none hm k4
        clear hm
        go_enter Try.func123, Try.ntmps123
        go_wp2_with fail
        go_ret
        exact ⟨ret_bool (by rw [HJ.out]), rfl⟩
    · have HJ : Hid (joinsB a b = false) := joinsB_noid t1
      go_enter Try.func123, Try.ntmps123
      go_wp2_with fail
      go_ret
      exact ⟨ret_bool (by rw [HJ.out]), rfl⟩
  · have HJ : Hid (joinsB a b = false) := joinsB_no4 t0
    go_enter Try.func123, Try.ntmps123
    go_wp2_with fail
    go_ret
    exact ⟨ret_bool (by rw [HJ.out]), rfl⟩
theorem OwnOps.one {W : World} {o : LOp} {B q : Nat} (hB : B ≤ W.heap.size) (hq : q = W.heap.size) : OwnOps (W.alloc (Obj.cells o.val 30)) B (.slice (some ⟨q, 0, none⟩) 1 1) [o] := by
  subst hq
  have := World.ownsRow_lit (base := B) (e := 30) (size := 7) W o.val 1 hB (by simp [maxLen]) (by simp [LOp.val])
  simpa [OwnOps, opCells] using this
theorem OwnOps.none_ {W : World} {B q : Nat} (hB : B ≤ W.heap.size) (hq : q = W.heap.size) : OwnOps (W.alloc (Obj.cells #[] 30)) B (.slice (some ⟨q, 0, none⟩) 0 0) [] := by
  subst hq
  exact OwnOps.empty W B hB
set_option maxHeartbeats 2000000 in
theorem join_any (a b : LOp) (w : World) : Calls Try.prog 124 #[.agg a.val, .agg b.val] w (SlimEnd w (joinL a b)) := by
  have HB : ∀ o1 o2 o3 : Obj, Below w.heap.size w (((w.alloc o1).alloc o2).alloc o3) := fun o1 o2 o3 => (((Below.refl _ _).alloc (Nat.le_refl _) _).alloc (by simp) _).alloc (by simp; omega) _
  simp only [LOp.val]
  rcases t0 : (a.kind != 4) with _ | _
  · have k4 : (a.kind == 4) = true := by simpa using t0
    have k4' : a.kind = 4 := by simpa using t0
    rcases t1 : (a.dir == b.dir2) with _ | _
    · have HJ : Hid (joinL a b = [{ a with dir2 := b.dir2, name2 := b.name2 }]) := by show _ = _; unfold joinL backB onB; rw [k4, t1, if_pos k4']; rfl
      clear k4 k4'
      go_enter Try.func124, Try.ntmps124
      go_wp2_with fail
      go_ret
      refine ⟨⟨_, rfl, ?_⟩, HB _ _ _⟩
      rw [HJ.out]
      exact OwnOps.one (by simp; omega) (by simp)
    · rcases t2 : (a.name.toList == b.name2.toList) with _ | _
      · have HJ : Hid (joinL a b = [{ a with dir2 := b.dir2, name2 := b.name2 }]) := by show _ = _; unfold joinL backB onB; rw [k4, t1, t2, if_pos k4']; rfl
        clear k4 k4'
        go_enter Try.func124, Try.ntmps124
        go_wp2_with fail
        go_ret
        refine ⟨⟨_, rfl, ?_⟩, HB _ _ _⟩
        rw [HJ.out]
        exact OwnOps.one (by simp; omega) (by simp)
      · have HJ : Hid (joinL a b = []) := by show _ = _; unfold joinL backB; rw [k4, t1, t2]; rfl
        clear k4 k4'
        go_enter Try.func124, Try.ntmps124
        go_wp2_with fail
        go_ret
        refine ⟨⟨_, rfl, ?_⟩, HB _ _ _⟩
        rw [HJ.out]
        exact OwnOps.none_ (by simp; omega) (by simp)
  · have k4 : (a.kind == 4) = false := by simpa using t0
    have k4' : ¬ a.kind = 4 := by simpa using t0
    have HJ : Hid (joinL a b = [{ a with dir := b.dir2, name := b.name2 }]) := by show _ = _; unfold joinL backB onB; rw [k4, if_neg k4']; rfl
    clear k4 k4'
    go_enter Try.func124, Try.ntmps124
    go_wp2_with fail
    go_ret
    refine ⟨⟨_, rfl, ?_⟩, HB _ _ _⟩
    rw [HJ.out]
    exact OwnOps.one (by simp; omega) (by simp)
theorem OpsAt.none_ (w : World) (L U : Nat) (a : Option Addr) : OpsAt w L U a 0 [] := ⟨rfl, by simp [maxLen], fun h => absurd rfl h⟩
theorem OpsAt.drop_ {w : World} {L U b off n k : Nat} {ops : List LOp} (H : OpsAt w L U (some ⟨b, off, none⟩) n ops) (hk : k ≤ n) : OpsAt w L U (some ⟨b, off + k * 7, none⟩) (n - k) (ops.drop k) := by
  have hl := H.len
  have hbd := H.bd
  refine ⟨by simp; omega, by omega, fun hn => ?_⟩
  obtain ⟨b', off', ha, hL, hU, hc⟩ := H.at_ (by omega)
  simp only [Option.some.injEq, Addr.mk.injEq, and_true] at ha
  obtain ⟨rfl, rfl⟩ := ha
  refine ⟨_, _, rfl, hL, hU, fun i hi => ?_⟩
  obtain ⟨o, ho, hs, hat⟩ := hc (k + i) (by omega)
  refine ⟨o, by simpa using ho, hs, ?_⟩
  have e : off + k * 7 + i * 7 = off + (k + i) * 7 := by omega
  rw [e]
  exact hat
theorem OpsAt.grown {w w' : World} {L U : Nat} {a : Option Addr} {n : Nat} {ops : List LOp} {row : Option Nat} (H : OpsAt w L U a n ops) (hg : w.grownBy w' row) (hne : ∀ k, row = some k → k < L) (hU : U ≤ w.heap.size) : OpsAt w' L U a n ops :=
  ⟨H.len, H.bd, fun hn => by
    obtain ⟨b, off, ha, hL, hbU, hc⟩ := H.at_ hn
    refine ⟨b, off, ha, hL, hbU, fun i hi => ?_⟩
    obtain ⟨o, ho, hs, h0⟩ := hc i hi
    exact ⟨o, ho, hs, h0.of_block (hg.block b (by omega) (fun e => by have := hne b e.symm; omega))⟩⟩
theorem OwnOps.cut {w : World} {B g n cap k : Nat} {l : List LOp} (h : OwnOps w B (.slice (some ⟨g, 0, none⟩) n cap) l) (hn : n = l.length) (hk : k ≤ n) : OwnOps w B (.slice (some ⟨g, 0, none⟩) k cap) (l.take k) := by
  subst hn
  have hl : (l.take k).length = k := by simp; omega
  refine ⟨by rw [opCells_len], .inr ?_⟩
  rcases h.2 with ⟨h', _⟩ | ⟨g', cap', cur, h', hb, hg, hnc, hcm, hcs, htake⟩
  · simp at h'
  · simp only [Value.slice.injEq, Option.some.injEq, Addr.mk.injEq, and_true, true_and] at h'
    obtain ⟨rfl, rfl⟩ := h'
    refine ⟨g, cap, cur, by rw [hl], hb, hg, by omega, hcm, hcs, ?_⟩
    have e1 : opCells l = opCells (l.take k) ++ opCells (l.drop k) := by rw [← opCells_app, List.take_append_drop]
    have e2 : cur.toList.take (k * 7) = (cur.toList.take (l.length * 7)).take (k * 7) := by rw [List.take_take]; congr 1; omega
    rw [hl, e2, htake, e1, List.take_left' (by rw [opCells_len, hl])]
theorem step_app_all (w : World) {ops : Array Oper} {o : Oper} {ac : Act} {K : Act → World → Prop} {Q : Exit → Act → World → Prop} {E : Prop} (hgd : o.guard = none) (s x : Operand)
    (ho : o.op = .call { callee := .builtin .append, args := #[s, x], argTypes := #[23, 23] }) (B : Nat) (u : Value) (l news : List LOp) (hown : OwnOps w B u l) (a : Option Addr) (m c L U : Nat) (H : OpsAt w L U a m news)
    (hs : ac.eval s = u) (hx : ac.eval x = .slice a m c) (hbd : l.length + m ≤ 1000000) (hB : B ≤ w.heap.size)
    (h : ∀ v w', AppOEnd w w' B u v (l ++ news) → K (ac.put o.dst v) w') :
    if Region.wanted o (yielded ops ac.tmps) = true then Oper.wp Try.prog o ac w K Q else E := by
  have hw : Region.wanted o (yielded ops ac.tmps) = true := by simp [Region.wanted, hgd]
  rw [if_pos hw]
  exact wp_app_all w s x ho B u l news hown a m c L U H hs hx hbd hB h

theorem fix_join {cur : List LOp} {i : Nat} {a b : LOp} (ha : cur[i]? = some a) (hb : cur[i + 1]? = some b) (hj : joinsB a b = true) (hl : ∀ t, t < i → joinsAt cur t = false) : moveStep cur = some (cur.take i ++ joinL a b ++ cur.drop (i + 2)) := by
  unfold moveStep
  rw [firstJoin_some (i := i) (List.getElem?_eq_some_iff.1 ha).1 (by unfold joinsAt; rw [ha, hb]; exact hj) hl, Option.map_some]
  unfold joinedAt
  rw [ha, hb]
theorem joinsAt_of {cur : List LOp} {i : Nat} {a b : LOp} (ha : cur[i]? = some a) (hb : cur[i + 1]? = some b) : joinsAt cur i = joinsB a b := by
  unfold joinsAt; rw [ha, hb]
theorem fix_nojoin {cur : List LOp} {j : Nat} (hj : cur.length ≤ j + 1) (hl : ∀ t, t < j → joinsAt cur t = false) : moveStep cur = none := by
  unfold moveStep
  rw [firstJoin_none fun t ht => ?_]; rfl
  by_cases h : t < j
  · exact hl t h
  · unfold joinsAt
    rw [List.getElem?_eq_none (i := t + 1) (by omega)]
    split
    · next h2 => cases h2
    · rfl
end Go.Proofs.Ytkllejaamnojpaa
