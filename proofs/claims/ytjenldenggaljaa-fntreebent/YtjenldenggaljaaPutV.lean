/- Putting a name into names that the call owns, nil or not. -/
import Derived.Test.YtjenldenggaljaaSetKids
namespace Go.Proofs.Ytjenldenggaljaa
open Go.RowKit

theorem OwnEnts.bare (w : World) (B : Nat) : OwnEnts w B (.slice none 0 0) [] := ⟨rfl, .inl ⟨rfl, rfl⟩⟩

theorem step_app_nil (w : World) {ops : Array Oper} {o : Oper} {a : Act} {K : Act → World → Prop} {Q : Exit → Act → World → Prop} {E : Prop} (hgd : o.guard = none) (s x : Operand)
    (ho : o.op = .call { callee := .builtin .append, args := #[s, x], argTypes := #[32, 32] }) (B : Nat) (y : LEnt) (ad : Addr) (c : Nat)
    (hs : a.eval s = .slice none 0 0) (hx : a.eval x = .slice (some ad) 1 c)
    (hnews : ∀ j u, (entCells [y])[j]? = some u → w.cell? (ad.add j) = some u) (hB : B ≤ w.heap.size)
    (h : ∀ g' cap' w', OwnEnts w' B (.slice (some ⟨g', 0, none⟩) 1 cap') [y] → w.grownBy w' none → Hid (g' = w.heap.size) → K (a.put o.dst (.slice (some ⟨g', 0, none⟩) 1 cap')) w') :
    if Region.wanted o (yielded ops a.tmps) = true then Oper.wp Try.prog o a w K Q else E := by
  have hw : Region.wanted o (yielded ops a.tmps) = true := by simp [Region.wanted, hgd]
  rw [if_pos hw]
  obtain ⟨i0, hi, hz0, hz1, hz2⟩ := info_parts info47'
  obtain ⟨v', w', hr, h2, h3, h4, h5⟩ := run_append_own_at (P := Try.prog) w B 32 o.type 47 i0 _ 2 24 Try.underlying32 hi hz0 hz1 hz2 rfl (by decide) _ _ _ (OwnEnts.bare w B) ad 1 c (entCells [y]) (entCells_len _) hnews (entCells_one _) (by simp [maxLen]) (by simp) hB
  have h2' := h2
  rcases h2.2 with ⟨hv, _⟩ | ⟨g', cap', cur, rfl, hb, hg, _⟩
  · have := (h4.1 hv).2; simp at this
  · have h5' : g' = w.heap.size := by simpa [Value.ownBlock] using h5
    unfold Oper.wp execOp
    simp only [ho, resolve, invoke, builtin, Sem.run_bind, Sem.run_pure, Result.andThen_ok, List.map_toArray, List.map_cons, List.map_nil, hs, hx, hr]
    exact h g' cap' w' (by simpa [OwnEnts, entCells] using h2') (by simpa [Value.ownBlock] using h3) h5'
theorem step_app_zero (w : World) {ops : Array Oper} {o : Oper} {a : Act} {K : Act → World → Prop} {Q : Exit → Act → World → Prop} {E : Prop} (hgd : o.guard = none) (s x : Operand)
    (ho : o.op = .call { callee := .builtin .append, args := #[s, x], argTypes := #[32, 32] }) (B g n cap : Nat) (l : List LEnt) (hn : n = l.length) (hown : OwnEnts w B (.slice (some ⟨g, 0, none⟩) n cap) l) (ka : Option Addr) (kc : Nat)
    (hs : a.eval s = .slice (some ⟨g, 0, none⟩) n cap) (hx : a.eval x = .slice ka 0 kc)
    (h : K (a.put o.dst (.slice (some ⟨g, 0, none⟩) (n + 0) cap)) w) :
    if Region.wanted o (yielded ops a.tmps) = true then Oper.wp Try.prog o a w K Q else E := by
  have hw : Region.wanted o (yielded ops a.tmps) = true := by simp [Region.wanted, hgd]
  rw [if_pos hw]
  obtain ⟨i0, hi, hz0, hz1, hz2⟩ := info_parts info47'
  have hle : n ≤ cap := by
    rcases hown.2 with ⟨h', _⟩ | ⟨g', cap', cur, h', _, _, hnc, _⟩
    · simp at h'
    · simp at h'; omega
  have hsrc : Src Try.prog i0.size 32 (.slice ka 0 kc) 0 [] w := by
    cases ka with
    | none => exact Src.ofNil w Try.underlying32 kc
    | some ad => exact Src.ofSlice w Try.underlying32 ad 0 kc [] (by simp) (fun j u hu => by simp at hu) (fun u hu => by simp at hu)
  have hrun := run_append_nothing (P := Try.prog) w 32 32 o.type 47 i0 Try.underlying32 hi (some ⟨g, 0, none⟩) n cap hle _ hsrc
  unfold Oper.wp execOp
  simp only [ho, resolve, invoke, builtin, Sem.run_bind, Sem.run_pure, Result.andThen_ok, List.map_toArray, List.map_cons, List.map_nil, hs, hx, hrun]
  exact h

def PutV (w : World) (B : Nat) (v : Value) (x : LEnt) (es : List LEnt) (e : Ending) (w' : World) : Prop :=
  ∃ v', e = .returned v' ∧ OwnEnts w' B v' (putL x es) ∧ w.grownBy w' v.ownBlock ∧ ∀ g, v'.ownBlock = some g → v.ownBlock = some g ∨ w.heap.size ≤ g

set_option maxHeartbeats 1000000 in
set_option maxRecDepth 20000 in
theorem put_nil (B : Nat) (x : LEnt) (w : World) (hB : B ≤ w.heap.size) :
    Calls Try.prog 157 #[.slice none 0 0, .agg #[.string x.name, .int .i64 x.id]] w fun e w' => PutV w B (.slice none 0 0) x [] e w' := by
  go_enter Try.func157, Try.ntmps157
  go_wp2_with fail
  go_loopg [5] 0 (fun k i wr => i = .int .i64 0 ∧ Hid (∃ m, wr = (w.alloc (.cells #[.string x.name, .int .i64 x.id] 47)).drewN m))
  case atStart => exact ⟨rfl, 0, rfl⟩
  case round =>
    obtain ⟨rfl, hwr⟩ := hrel
    have hbx : wr.cell? ⟨w.heap.size, 0, none⟩ = some (.string x.name) := by obtain ⟨m, rfl⟩ := hwr.out; show World.cell? (w.alloc _) _ = _; simp [go_sem]
    go_wp2_with fail
    go_quiet (fail)
    obtain ⟨W, hW⟩ : ∃ W, Hid (W = wr.drewN nq) := ⟨_, rfl⟩
    rw [← hW.out]
    have HWsz : W.heap.size = w.heap.size + 1 := by rw [hW.out]; obtain ⟨m, hm⟩ := hwr.out; rw [hm]; simp
    have hW0 : W.cell? ⟨w.heap.size, 0, none⟩ = some (.string x.name) := by rw [hW.out]; obtain ⟨m, hm⟩ := hwr.out; rw [hm]; show World.cell? (w.alloc _) _ = _; simp [go_sem]
    have hW1 : W.cell? ⟨w.heap.size, 1, none⟩ = some (.int .i64 x.id) := by rw [hW.out]; obtain ⟨m, hm⟩ := hwr.out; rw [hm]; show World.cell? (w.alloc _) _ = _; simp [go_sem]
    have hWg : Hid (w.grownBy W none) := by
      show World.grownBy _ _ _
      rw [hW.out]; obtain ⟨m, hm⟩ := hwr.out; rw [hm]
      exact ⟨rfl, rfl, rfl, by simp, fun k hk _ => (World.grownBy_alloc w _ none).block k hk (by simp)⟩
    have HWS : Hid (W.heap.size = w.heap.size + 1) := HWsz
    clear hbx HWsz
    go_wp2_with (first
      | (at_builtin; refine wpList_app_zero _ rfl _ _ rfl W.heap.size W.heap.size 0 0 [] rfl (OwnEnts.empty W _ (Nat.le_refl _)) none 0 rfl rfl ?_)
      | go_in)
    intro g1 cap1 w1 hend1
    have hWsz := HWS.out
    have hbx0 : w1.cell? ⟨w.heap.size, 0, none⟩ = some (.string x.name) := by
      rw [hend1.grown.cell_far _ (by simp; omega) (by simp; omega), (World.grownBy_alloc W _ none).cell_far _ (by simp; omega) (by simp)]; exact hW0
    have hbx1 : w1.cell? ⟨w.heap.size, 1, none⟩ = some (.int .i64 x.id) := by
      rw [hend1.grown.cell_far _ (by simp; omega) (by simp; omega), (World.grownBy_alloc W _ none).cell_far _ (by simp; omega) (by simp)]; exact hW1
    have hG1 : Hid (w.grownBy w1 none) := hWg.out.trans ((World.grownBy_alloc W (Obj.cells #[] 47) none).andThen hend1.grown (fun k hk => by simp at hk; omega))
    have hzz : W.heap.size + 1 ≤ w1.heap.size := by simpa using hend1.grown.size
    clear hend1 hWsz
    have hBw : B ≤ w1.heap.size := by have := HWS.out; omega
    go_wp2_with fail
    go_region_law (first
      | ((refine step_app_nil _ rfl (.tmp 30) (.tmp 32) rfl B x ⟨w1.heap.size, 0, none⟩ 1 (by simp [Act.eval]) (by simp [Act.eval]) (fun i u hu => two_at hu) (by simp; omega) ?_; intro g2 cap2 w2 hown2 hgr2 hat2))
      | ((refine step_app_zero _ rfl (.tmp 33) (.tmp 34) rfl B g2 1 cap2 [x] rfl hown2 (some ⟨g1, 0, none⟩) cap1 (by simp [Act.eval]) (by simp [Act.eval]) ?_)))
    all_goals
      go_wp2_with fail
      go_ret
      have hz2 := hat2.out
      have hws := HWS.out
      simp at hz2
      refine ⟨_, rfl, ?_, ?_, fun g hg => .inr ?_⟩
      · exact hown2
      · refine (hG1.out.trans ((World.grownBy_alloc w1 (Obj.cells #[Value.string x.name, Value.int IntKind.i64 x.id] 47) none).trans ?_)).trans hgr2
        exact ⟨rfl, rfl, rfl, Nat.le_refl _, fun _ _ _ => rfl⟩
      · have hg' : g2 = g := Option.some.inj hg
        omega

theorem put_val (B : Nat) (v : Value) (es : List LEnt) (x : LEnt) (w : World) (hn2 : es.length ≤ 1000000) (hB : B ≤ w.heap.size) (H : OwnEnts w B v es) :
    Calls Try.prog 157 #[v, .agg #[.string x.name, .int .i64 x.id]] w fun e w' => PutV w B v x es e w' := by
  have H' := H
  rcases H.2 with ⟨rfl, h0⟩ | ⟨g, cap, cur, rfl, _⟩
  · obtain rfl : es = [] := List.eq_nil_of_length_eq_zero h0
    exact put_nil B x w hB
  · refine (put_any B g cap es.length es x w rfl hn2 hB H').mono ?_
    rintro e w' ⟨g', cap', rfl, h1, h2, h3⟩
    refine ⟨_, rfl, ?_, h2, fun k hk => ?_⟩
    · exact h1
    · simp [Value.ownBlock] at hk ⊢
      omega
end Go.Proofs.Ytjenldenggaljaa
