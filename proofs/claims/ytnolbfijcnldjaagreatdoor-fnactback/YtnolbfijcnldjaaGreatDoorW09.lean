/- Lemmas that the proofs of this seat share: FrAll. -/
import Derived.Test.YtnolbfijcnldjaaGreatDoorW05
import Derived.Test.YtnolbfijcnldjaaGreatDoorW08
import Derived.Deep.QuietTactic
import Derived.BigQuiet
/- A tree of the call's own: the names of one object change. -/
namespace Go.Proofs.YtnolbfijcnldjaaGreatDoor
open Go.RowKit

/-- Object i gets other names, in a slice v that is in no other object's row. -/
theorem OwnT.setKids {w : World} {B b c : Nat} {os : List LObj} {vs : Nat → Value} (h : OwnT w B b c os vs) {i : Nat} {o : LObj} (ho : os[i]? = some o) {v : Value} {es : List LEnt} (hv : OwnEnts w B v es) (hs : ∀ e ∈ es, e.name.size ≤ maxLen)
    (ha : ∀ j g, j < os.length → j ≠ i → v.ownBlock = some g → (vs j).ownBlock ≠ some g) : OwnT (w.setCell ⟨b, i * 4 + 3, none⟩ v) B b c (os.set i { o with kids := es }) (fun j => if j = i then v else vs j) := by
  obtain ⟨cur, hg, hcs, hlc, hcm⟩ := h.row
  have hlt : i < os.length := (List.getElem?_eq_some_iff.1 ho).1
  refine ⟨h.lo, ⟨_, heap_setCell_same w b (i * 4 + 3) cur 38 _ hg, by simpa using hcs, by simpa using hlc, hcm⟩, fun j p hp => ?_, fun j k g hj hk hjk => ?_⟩
  · by_cases hji : j = i
    · subst hji
      rw [List.getElem?_set_self hlt] at hp
      simp at hp; subst hp
      obtain ⟨h1, h2, h3, h4, h5, h6, h7⟩ := h.at_ j o ho
      simp only [if_true]
      refine ⟨h1, ?_, ?_, ?_, ?_, kept_set hv (h.kids_ne hv), hs⟩
      · rw [World.cell?_setCell_other _ _ _ _ (by simp)]; exact h2
      · rw [World.cell?_setCell_other _ _ _ _ (by simp)]; exact h3
      · rw [World.cell?_setCell_other _ _ _ _ (by simp)]; exact h4
      · rw [World.cell?_setCell_same _ _ _ h5]
    · rw [List.getElem?_set_ne (Ne.symm hji)] at hp
      obtain ⟨h1, h2, h3, h4, h5, h6, h7⟩ := h.at_ j p hp
      simp only [if_neg hji]
      refine ⟨h1, ?_, ?_, ?_, ?_, kept_set h6 (h.kids_ne h6), h7⟩ <;> (rw [World.cell?_setCell_other _ _ _ _ (by simp <;> omega)]; assumption)
  · simp at hj hk
    by_cases hji : j = i
    · have hki : k ≠ i := fun e => hjk (by rw [hji, e])
      simp only [if_pos hji, if_neg hki]
      exact ha k g hk hki
    · by_cases hki : k = i
      · simp only [if_neg hji, if_pos hki]
        exact fun e1 e2 => ha j g hj hji e2 e1
      · simp only [if_neg hji, if_neg hki]
        exact h.apart j k g hj hk hjk

/-- A growing in one object's row of names (or in none) leaves all other objects; that one's names are given anew. -/
theorem OwnT.putKids {w w' : World} {B b c : Nat} {os : List LObj} {vs : Nat → Value} (h : OwnT w B b c os vs) {i : Nat} {o : LObj} (ho : os[i]? = some o) {row : Option Nat} (hg : w.grownBy w' row) (hrow : row = none ∨ row = (vs i).ownBlock) {v : Value} {es : List LEnt} (hv : OwnEnts w' B v es) (hs : ∀ e ∈ es, e.name.size ≤ maxLen)
    (hat : ∀ g, v.ownBlock = some g → (vs i).ownBlock = some g ∨ w.heap.size ≤ g) : OwnT (w'.setCell ⟨b, i * 4 + 3, none⟩ v) B b c (os.set i { o with kids := es }) (fun j => if j = i then v else vs j) := by
  have hlt : i < os.length := (List.getElem?_eq_some_iff.1 ho).1
  obtain ⟨cur, hr, hcs, hlc, hcm⟩ := h.row
  obtain ⟨q1, q2, q3, q4, q5, q6, q7⟩ := h.at_ i o ho
  have hbr : some b ≠ row := by
    rcases hrow with rfl | rfl
    · simp
    · exact fun e => h.kids_ne q6 e.symm
  have hcell : ∀ k, w'.cell? ⟨b, k, none⟩ = w.cell? ⟨b, k, none⟩ := fun k => hg.cell_far _ h.lt hbr
  have hr' : w'.heap[b]? = some (.cells cur 38 (0, 0)) := by rw [hg.block b h.lt hbr]; exact hr
  have hvb : v.ownBlock ≠ some b := by
    intro e
    rcases hat b e with h1 | h1
    · exact h.kids_ne q6 h1
    · have := h.lt; omega
  have hothers : ∀ j p, os[j]? = some p → j ≠ i → OwnEnts w' B (vs j) p.kids := fun j p hp hji => by
    obtain ⟨h1, h2, h3, h4, h5, h6, h7⟩ := h.at_ j p hp
    have hlj : j < os.length := (List.getElem?_eq_some_iff.1 hp).1
    refine World.ownsRow.kept h6 hg ?_
    rcases hrow with rfl | rfl
    · cases hx : (vs j).ownBlock <;> simp
    · cases hx : (vs j).ownBlock with
      | none => simp
      | some g => exact .inr (fun e => h.apart j i g hlj hlt hji hx e.symm)
  refine ⟨h.lo, ⟨_, heap_setCell_same w' b (i * 4 + 3) cur 38 _ hr', by simpa using hcs, by simpa using hlc, hcm⟩, fun j p hp => ?_, fun j k g hj hk hjk => ?_⟩
  · by_cases hji : j = i
    · subst hji
      rw [List.getElem?_set_self hlt] at hp
      simp at hp; subst hp
      simp only [if_true]
      refine ⟨q1, ?_, ?_, ?_, ?_, kept_set hv hvb, hs⟩
      · rw [World.cell?_setCell_other _ _ _ _ (by simp), hcell]; exact q2
      · rw [World.cell?_setCell_other _ _ _ _ (by simp), hcell]; exact q3
      · rw [World.cell?_setCell_other _ _ _ _ (by simp), hcell]; exact q4
      · rw [World.cell?_setCell_same _ _ _ (by rw [hcell]; exact q5)]
    · rw [List.getElem?_set_ne (Ne.symm hji)] at hp
      obtain ⟨h1, h2, h3, h4, h5, h6, h7⟩ := h.at_ j p hp
      simp only [if_neg hji]
      refine ⟨h1, ?_, ?_, ?_, ?_, kept_set (hothers j p hp hji) (h.kids_ne h6), h7⟩ <;> (rw [World.cell?_setCell_other _ _ _ _ (by simp <;> omega), hcell]; assumption)
  · simp at hj hk
    have hother : ∀ k, k < os.length → k ≠ i → ∀ g, v.ownBlock = some g → (vs k).ownBlock ≠ some g := fun k hk hki g e1 e2 => by
      rcases hat g e1 with h1 | h1
      · exact h.apart k i g hk hlt hki e2 h1
      · obtain ⟨p, hp⟩ : ∃ p, os[k]? = some p := ⟨os[k], by simp⟩
        have := ((h.at_ k p hp).2.2.2.2.2.1.lt g e2).2
        omega
    by_cases hji : j = i
    · have hki : k ≠ i := fun e => hjk (by rw [hji, e])
      simp only [if_pos hji, if_neg hki]
      exact hother k hk hki g
    · by_cases hki : k = i
      · simp only [if_neg hji, if_pos hki]
        exact fun e1 e2 => hother j hj hji g e2 e1
      · simp only [if_neg hji, if_neg hki]
        exact h.apart j k g hj hk hjk
end Go.Proofs.YtnolbfijcnldjaaGreatDoor

/- Putting a name into names that the call owns, nil or not. -/
namespace Go.Proofs.YtnolbfijcnldjaaGreatDoor
open Go.RowKit

theorem OwnEnts.bare (w : World) (B : Nat) : OwnEnts w B (.slice none 0 0) [] := ⟨rfl, .inl ⟨rfl, rfl⟩⟩

theorem step_app_nil (w : World) {ops : Array Oper} {o : Oper} {a : Act} {K : Act → World → Prop} {Q : Exit → Act → World → Prop} {E : Prop} (hgd : o.guard = none) (s x : Operand)
    (ho : o.op = .call { callee := .builtin .append, args := #[s, x], argTypes := #[36, 36] }) (B : Nat) (y : LEnt) (ad : Addr) (c : Nat)
    (hs : a.eval s = .slice none 0 0) (hx : a.eval x = .slice (some ad) 1 c)
    (hnews : ∀ j u, (entCells [y])[j]? = some u → w.cell? (ad.add j) = some u) (hB : B ≤ w.heap.size)
    (h : ∀ g' cap' w', OwnEnts w' B (.slice (some ⟨g', 0, none⟩) 1 cap') [y] → w.grownBy w' none → Hid (g' = w.heap.size) → K (a.put o.dst (.slice (some ⟨g', 0, none⟩) 1 cap')) w') :
    if Region.wanted o (yielded ops a.tmps) = true then Oper.wp Tryz.prog o a w K Q else E := by
  have hw : Region.wanted o (yielded ops a.tmps) = true := by simp [Region.wanted, hgd]
  rw [if_pos hw]
  obtain ⟨i0, hi, hz0, hz1, hz2⟩ := info_parts info47'
  obtain ⟨v', w', hr, h2, h3, h4, h5⟩ := run_append_own_at (P := Tryz.prog) w B 36 o.type 53 i0 _ 2 24 Tryz.underlying36 hi hz0 hz1 hz2 rfl (by decide) _ _ _ (OwnEnts.bare w B) ad 1 c (entCells [y]) (entCells_len _) hnews (entCells_one _) (by simp [maxLen]) (by simp) hB
  have h2' := h2
  rcases h2.2 with ⟨hv, _⟩ | ⟨g', cap', cur, rfl, hb, hg, _⟩
  · have := (h4.1 hv).2; simp at this
  · have h5' : g' = w.heap.size := by simpa [Value.ownBlock] using h5
    unfold Oper.wp execOp
    simp only [ho, resolve, invoke, builtin, Sem.run_bind, Sem.run_pure, Result.andThen_ok, List.map_toArray, List.map_cons, List.map_nil, hs, hx, hr]
    exact h g' cap' w' (by simpa [OwnEnts, entCells] using h2') (by simpa [Value.ownBlock] using h3) h5'
theorem step_app_zero (w : World) {ops : Array Oper} {o : Oper} {a : Act} {K : Act → World → Prop} {Q : Exit → Act → World → Prop} {E : Prop} (hgd : o.guard = none) (s x : Operand)
    (ho : o.op = .call { callee := .builtin .append, args := #[s, x], argTypes := #[36, 36] }) (B g n cap : Nat) (l : List LEnt) (hn : n = l.length) (hown : OwnEnts w B (.slice (some ⟨g, 0, none⟩) n cap) l) (ka : Option Addr) (kc : Nat)
    (hs : a.eval s = .slice (some ⟨g, 0, none⟩) n cap) (hx : a.eval x = .slice ka 0 kc)
    (h : K (a.put o.dst (.slice (some ⟨g, 0, none⟩) (n + 0) cap)) w) :
    if Region.wanted o (yielded ops a.tmps) = true then Oper.wp Tryz.prog o a w K Q else E := by
  have hw : Region.wanted o (yielded ops a.tmps) = true := by simp [Region.wanted, hgd]
  rw [if_pos hw]
  obtain ⟨i0, hi, hz0, hz1, hz2⟩ := info_parts info47'
  have hle : n ≤ cap := by
    rcases hown.2 with ⟨h', _⟩ | ⟨g', cap', cur, h', _, _, hnc, _⟩
    · simp at h'
    · simp at h'; omega
  have hsrc : Src Tryz.prog i0.size 36 (.slice ka 0 kc) 0 [] w := by
    cases ka with
    | none => exact Src.ofNil w Tryz.underlying36 kc
    | some ad => exact Src.ofSlice w Tryz.underlying36 ad 0 kc [] (by simp) (fun j u hu => by simp at hu) (fun u hu => by simp at hu)
  have hrun := run_append_nothing (P := Tryz.prog) w 36 36 o.type 53 i0 Tryz.underlying36 hi (some ⟨g, 0, none⟩) n cap hle _ hsrc
  unfold Oper.wp execOp
  simp only [ho, resolve, invoke, builtin, Sem.run_bind, Sem.run_pure, Result.andThen_ok, List.map_toArray, List.map_cons, List.map_nil, hs, hx, hrun]
  exact h

def PutV (w : World) (B : Nat) (v : Value) (x : LEnt) (es : List LEnt) (e : Ending) (w' : World) : Prop :=
  ∃ v', e = .returned v' ∧ OwnEnts w' B v' (putL x es) ∧ w.grownBy w' v.ownBlock ∧ ∀ g, v'.ownBlock = some g → v.ownBlock = some g ∨ w.heap.size ≤ g

set_option maxHeartbeats 1000000 in
set_option maxRecDepth 20000 in
theorem put_nil (B : Nat) (x : LEnt) (w : World) (hB : B ≤ w.heap.size) :
    Calls Tryz.prog 172 #[.slice none 0 0, .agg #[.string x.name, .int .i64 x.id]] w fun e w' => PutV w B (.slice none 0 0) x [] e w' := by
  go_enter Tryz.func172, Tryz.ntmps172
  go_wp2_with fail
  go_loopg [5] 0 (fun k i wr => i = .int .i64 0 ∧ Hid (∃ m, wr = (w.alloc (.cells #[.string x.name, .int .i64 x.id] 53)).drewN m))
  case atStart => exact ⟨rfl, 0, rfl⟩
  case round =>
    obtain ⟨rfl, hwr⟩ := hrel
    have hbx : wr.cell? ⟨w.heap.size, 0, none⟩ = some (.string x.name) := by obtain ⟨m, rfl⟩ := hwr.out; show World.cell? (w.alloc _) _ = _; simp [go_sem]
    go_wp2_with fail
    go_quiet (fail)
    obtain ⟨W, hW⟩ : ∃ W, Hid (W = wr.drewN nq) := ⟨_, rfl⟩
    rw [← hW.out]
    have HWsz : W.heap.size = w.heap.size + 1 := by rw [hW.out]; obtain ⟨m, hm⟩ := hwr.out; rw [hm]; simp
    have hW0 : W.cell? ⟨w.heap.size, 0, none⟩ = some (.string x.name) := by rw [hW.out]; obtain ⟨m, hm⟩ := hwr.out; rw [hm]; show World.cell? (w.alloc _) _ = _; simp [go_sem]
    have hW1 : W.cell? ⟨w.heap.size, 1, none⟩ = some (.int .i64 x.id) := by rw [hW.out]; obtain ⟨m, hm⟩ := hwr.out; rw [hm]; show World.cell? (w.alloc _) _ = _; simp [go_sem]
    have hWg : Hid (w.grownBy W none) := by
      show World.grownBy _ _ _
      rw [hW.out]; obtain ⟨m, hm⟩ := hwr.out; rw [hm]
      exact ⟨rfl, rfl, rfl, by simp, fun k hk _ => (World.grownBy_alloc w _ none).block k hk (by simp)⟩
    have HWS : Hid (W.heap.size = w.heap.size + 1) := HWsz
    clear hbx HWsz
    go_wp2_with (first
      | (at_builtin; refine wpList_app_zero _ rfl _ _ rfl W.heap.size W.heap.size 0 0 [] rfl (OwnEnts.empty W _ (Nat.le_refl _)) none 0 rfl rfl ?_)
      | go_in)
    intro g1 cap1 w1 hend1
    have hWsz := HWS.out
    have hbx0 : w1.cell? ⟨w.heap.size, 0, none⟩ = some (.string x.name) := by
      rw [hend1.grown.cell_far _ (by simp; omega) (by simp; omega), (World.grownBy_alloc W _ none).cell_far _ (by simp; omega) (by simp)]; exact hW0
    have hbx1 : w1.cell? ⟨w.heap.size, 1, none⟩ = some (.int .i64 x.id) := by
      rw [hend1.grown.cell_far _ (by simp; omega) (by simp; omega), (World.grownBy_alloc W _ none).cell_far _ (by simp; omega) (by simp)]; exact hW1
    have hG1 : Hid (w.grownBy w1 none) := hWg.out.trans ((World.grownBy_alloc W (Obj.cells #[] 53) none).andThen hend1.grown (fun k hk => by simp at hk; omega))
    have hzz : W.heap.size + 1 ≤ w1.heap.size := by simpa using hend1.grown.size
    clear hend1 hWsz
    have hBw : B ≤ w1.heap.size := by have := HWS.out; omega
    go_wp2_with fail
    go_region_law (first
      | ((refine step_app_nil _ rfl (.tmp 30) (.tmp 32) rfl B x ⟨w1.heap.size, 0, none⟩ 1 (by simp [Act.eval]) (by simp [Act.eval]) (fun i u hu => two_at hu) (by simp; omega) ?_; intro g2 cap2 w2 hown2 hgr2 hat2))
      | ((refine step_app_zero _ rfl (.tmp 33) (.tmp 34) rfl B g2 1 cap2 [x] rfl hown2 (some ⟨g1, 0, none⟩) cap1 (by simp [Act.eval]) (by simp [Act.eval]) ?_)))
    all_goals
      go_wp2_with fail
      go_ret
      have hz2 := hat2.out
      have hws := HWS.out
      simp at hz2
      refine ⟨_, rfl, ?_, ?_, fun g hg => .inr ?_⟩
      · exact hown2
      · refine (hG1.out.trans ((World.grownBy_alloc w1 (Obj.cells #[Value.string x.name, Value.int IntKind.i64 x.id] 53) none).trans ?_)).trans hgr2
        exact ⟨rfl, rfl, rfl, Nat.le_refl _, fun _ _ _ => rfl⟩
      · have hg' : g2 = g := Option.some.inj hg
        omega

theorem put_val (B : Nat) (v : Value) (es : List LEnt) (x : LEnt) (w : World) (hn2 : es.length ≤ 1000000) (hB : B ≤ w.heap.size) (H : OwnEnts w B v es) :
    Calls Tryz.prog 172 #[v, .agg #[.string x.name, .int .i64 x.id]] w fun e w' => PutV w B v x es e w' := by
  have H' := H
  rcases H.2 with ⟨rfl, h0⟩ | ⟨g, cap, cur, rfl, _⟩
  · obtain rfl : es = [] := List.eq_nil_of_length_eq_zero h0
    exact put_nil B x w hB
  · refine (put_any B g cap es.length es x w rfl hn2 hB H').mono ?_
    rintro e w' ⟨g', cap', rfl, h1, h2, h3⟩
    refine ⟨_, rfl, ?_, h2, fun k hk => ?_⟩
    · exact h1
    · simp [Value.ownBlock] at hk ⊢
      omega
end Go.Proofs.YtnolbfijcnldjaaGreatDoor

/- What is done, of a tree of one's own: the frame of the calls. -/
namespace Go.Proofs.YtnolbfijcnldjaaGreatDoor
open Go.RowKit

/-- Blocks that are no part of the tree are as they were. -/
def Kt (w w' : World) (b n : Nat) (vs : Nat → Value) : Prop := ∀ q, q < w.heap.size → q ≠ b → (∀ i, i < n → (vs i).ownBlock ≠ some q) → w'.heap[q]? = w.heap[q]?
def DoEnd (w : World) (B b c n : Nat) (vs : Nat → Value) (r : List LObj × Int) (e : Ending) (w' : World) : Prop :=
  ∃ vs', e = .returned (.tuple #[.agg #[.slice (some ⟨b, 0, none⟩) r.1.length c], .int .i64 r.2]) ∧ OwnT w' B b c r.1 vs' ∧ Below B w w' ∧ Kt w w' b n vs
theorem Kt.of_below {w W : World} (h : Below w.heap.size w W) (b n : Nat) (vs : Nat → Value) : Kt w W b n vs := fun q hq _ _ => h.block q hq
theorem Kt.step {w W W' : World} {b n : Nat} {vs : Nat → Value} (h : Kt w W b n vs) (hs : ∀ q, q < w.heap.size → q ≠ b → (∀ i, i < n → (vs i).ownBlock ≠ some q) → W'.heap[q]? = W.heap[q]?) : Kt w W' b n vs := fun q h1 h2 h3 => (hs q h1 h2 h3).trans (h q h1 h2 h3)
theorem Kt.set {w W : World} {b n : Nat} {vs : Nat → Value} (h : Kt w W b n vs) (k : Nat) (v : Value) : Kt w (W.setCell ⟨b, k, none⟩ v) b n vs := h.step fun q _ h2 _ => Below.heap_setCell W ⟨b, k, none⟩ v q h2
theorem Kt.setNew {w W : World} {b n : Nat} {vs : Nat → Value} (h : Kt w W b n vs) {g : Nat} (hg : w.heap.size ≤ g) (k : Nat) (v : Value) : Kt w (W.setCell ⟨g, k, none⟩ v) b n vs := h.step fun q h1 _ _ => Below.heap_setCell W ⟨g, k, none⟩ v q (by simp; omega)
theorem Kt.turn {w W W' : World} {b n : Nat} {vs : Nat → Value} (h : Kt w W b n vs) (hs : w.heap.size ≤ W.heap.size) (hg : W.grownBy W' (some b)) : Kt w W' b n vs := h.step fun q h1 h2 _ => hg.block q (by omega) (by simpa using h2)
theorem OwnT.below {w w' : World} {B b c : Nat} {os : List LObj} {vs : Nat → Value} (h : OwnT w B b c os vs) (hb : Below w.heap.size w w') : OwnT w' B b c os vs :=
  h.grown (row := none) ⟨hb.os, hb.tape, hb.output, hb.size, fun k hk _ => hb.block k hk⟩ (by simp) fun i _ => by cases hv : (vs i).ownBlock <;> simp

/-- The three boxes of a call: the tree, what is done, and the tree that is answered. -/
structure Fr (A : Nat) (W : World) (b c n : Nat) (o : LOp) : Prop where
  size : A + 1 + 1 < W.heap.size
  t : W.cell? ⟨A, 0, none⟩ = some (.slice (some ⟨b, 0, none⟩) n c)
  o0 : W.cell? ⟨A + 1, 0, none⟩ = some (.int .i64 o.kind)
  o1 : W.cell? ⟨A + 1, 1, none⟩ = some (.int .i64 o.dir)
  o2 : W.cell? ⟨A + 1, 2, none⟩ = some (.string o.name)
  o3 : W.cell? ⟨A + 1, 3, none⟩ = some (.int .i64 o.dir2)
  o4 : W.cell? ⟨A + 1, 4, none⟩ = some (.string o.name2)
  o5 : W.cell? ⟨A + 1, 5, none⟩ = some (.int .i64 o.id)
  o6 : W.cell? ⟨A + 1, 6, none⟩ = some (.string o.text)
  r : ∃ f, W.rowIs (A + 1 + 1) 25 1 f
  tb : ∃ f, W.rowIs A 25 1 f
theorem Fr.start (w : World) (b c n : Nat) (o : LOp) (v : Value) : Fr w.heap.size (((w.alloc (.cells #[.slice (some ⟨b, 0, none⟩) n c] 25)).alloc (.cells #[.int .i64 o.kind, .int .i64 o.dir, .string o.name, .int .i64 o.dir2, .string o.name2, .int .i64 o.id, .string o.text] 27)).alloc (.cells #[v] 25)) b c n o :=
  ⟨by simp, by simp [go_sem], by simp [go_sem], by simp [go_sem], by simp [go_sem], by simp [go_sem], by simp [go_sem], by simp [go_sem], by simp [go_sem], ⟨fun _ => v, by simpa using World.rowIs_alloc ((w.alloc (.cells #[.slice (some ⟨b, 0, none⟩) n c] 25)).alloc (.cells #[.int .i64 o.kind, .int .i64 o.dir, .string o.name, .int .i64 o.dir2, .string o.name2, .int .i64 o.id, .string o.text] 27)) #[v] 25 (fun _ => v) (fun i hi => by simp at hi; subst hi; rfl)⟩, ⟨fun _ => .slice (some ⟨b, 0, none⟩) n c, ((World.rowIs_alloc w #[.slice (some ⟨b, 0, none⟩) n c] 25 (fun _ => .slice (some ⟨b, 0, none⟩) n c) (fun i hi => by simp at hi; subst hi; rfl)).alloc _).alloc _⟩⟩
theorem Fr.of_blocks {A b c n : Nat} {W W' : World} {o : LOp} (h : Fr A W b c n o) (hs : W.heap.size ≤ W'.heap.size) (hb : ∀ q, A ≤ q → q ≤ A + 1 + 1 → W'.heap[q]? = W.heap[q]?) : Fr A W' b c n o := by
  have c0 : ∀ i, W'.cell? ⟨A, i, none⟩ = W.cell? ⟨A, i, none⟩ := fun i => World.cell?_of_block (w := W) (hb A (Nat.le_refl _) (by omega))
  have c1 : ∀ i, W'.cell? ⟨A + 1, i, none⟩ = W.cell? ⟨A + 1, i, none⟩ := fun i => World.cell?_of_block (w := W) (hb (A + 1) (by omega) (by omega))
  obtain ⟨x, hx⟩ := h.r
  obtain ⟨y, hy⟩ := h.tb
  exact ⟨by have := h.size; omega, by rw [c0]; exact h.t, by rw [c1]; exact h.o0, by rw [c1]; exact h.o1, by rw [c1]; exact h.o2, by rw [c1]; exact h.o3, by rw [c1]; exact h.o4, by rw [c1]; exact h.o5, by rw [c1]; exact h.o6, ⟨x, hx.of_block (hb _ (by omega) (Nat.le_refl _))⟩, ⟨y, hy.of_block (hb _ (Nat.le_refl _) (by omega))⟩⟩
theorem Fr.next {A b c n : Nat} {W W' : World} {o : LOp} (h : Fr A W b c n o) (hb : Below W.heap.size W W') : Fr A W' b c n o :=
  h.of_blocks hb.size fun q _ h2 => hb.block q (by have := h.size; omega)
theorem Fr.res {A b c n : Nat} {W : World} {o : LOp} (h : Fr A W b c n o) : (∃ x, W.cell? ⟨A + 1 + 1, 0, none⟩ = some x) ∧ W.frozen? ⟨A + 1 + 1, 0, none⟩ = false := by
  obtain ⟨x, hx⟩ := h.r
  exact ⟨⟨_, hx.cell (by omega)⟩, hx.frozen 0⟩

/-- A store into a box leaves the tree. -/
theorem OwnT.setBox {W : World} {B b c q : Nat} {os : List LObj} {vs : Nat → Value} (h : OwnT W B b c os vs) (hq' : ∃ f, W.rowIs q 25 1 f) (k : Nat) (v : Value) : OwnT (W.setCell ⟨q, k, none⟩ v) B b c os vs := by
  obtain ⟨f, cs, hq, _⟩ := hq'
  obtain ⟨cur, hr, _⟩ := h.row
  refine h.grown (row := some q) ⟨rfl, rfl, rfl, by simp, fun i _ hi => Below.heap_setCell W ⟨q, k, none⟩ v i (by intro e; exact hi (by simp [e]))⟩ ?_ fun i hi => ?_
  · intro e
    simp at e
    subst e
    rw [hr] at hq
    simp at hq
  · have ho : os[i]? = some os[i] := by simp [hi]
    obtain ⟨_, _, _, _, _, h6, _⟩ := h.at_ i _ ho
    rcases h6.2 with ⟨hn, _⟩ | ⟨g, cap, cur', hn, _, hg, _⟩
    · left; rw [hn]; rfl
    · right
      rw [hn]
      intro e
      simp [Value.ownBlock] at e
      subst e
      rw [hg] at hq
      simp at hq

/-- An object is put anew, without text and names. -/
def put4 (W : World) (b i : Nat) (k v : Int) : World := (((W.setCell ⟨b, i * 4, none⟩ (.int .i64 k)).setCell ⟨b, i * 4 + 1, none⟩ (.int .i64 v)).setCell ⟨b, i * 4 + 2, none⟩ (.string ⟨#[]⟩)).setCell ⟨b, i * 4 + 3, none⟩ (.slice none 0 0)
theorem put4_size (W : World) (b i : Nat) (k v : Int) : (put4 W b i k v).heap.size = W.heap.size := by simp [put4]
theorem put4_block (W : World) (b i : Nat) (k v : Int) {q : Nat} (h : q ≠ b) : (put4 W b i k v).heap[q]? = W.heap[q]? := by
  unfold put4
  rw [Below.heap_setCell _ _ _ q (by simpa using h), Below.heap_setCell _ _ _ q (by simpa using h), Below.heap_setCell _ _ _ q (by simpa using h), Below.heap_setCell _ _ _ q (by simpa using h)]
theorem put4_below {w W : World} {B b : Nat} (i : Nat) (k v : Int) (h : Below B w W) (hb : B ≤ b) : Below B w (put4 W b i k v) :=
  (((h.setCell (by simpa using hb) _).setCell (by simpa using hb) _).setCell (by simpa using hb) _).setCell (by simpa using hb) _
theorem OwnT.put4 {W : World} {B b c i : Nat} {os : List LObj} {vs : Nat → Value} {x : LObj} (h : OwnT W B b c os vs) (hx : os[i]? = some x) (k v : Int) :
    OwnT (put4 W b i k v) B b c (os.set i ⟨k, v, ⟨#[]⟩, []⟩) (fun j => if j = i then .slice none 0 0 else vs j) := by
  have hl : i < os.length := (List.getElem?_eq_some_iff.1 hx).1
  have s1 := h.setKind hx k
  have s2 := s1.setVer (i := i) (o := { x with kind := k }) (List.getElem?_set_self hl) v
  rw [List.set_set] at s2
  have s3 := s2.setText (i := i) (o := { x with kind := k, ver := v }) (List.getElem?_set_self hl) ⟨#[]⟩ (Nat.zero_le _)
  rw [List.set_set] at s3
  have s4 := s3.setKids (i := i) (o := { x with kind := k, ver := v, text := ⟨#[]⟩ }) (List.getElem?_set_self hl) (OwnEnts.bare _ B) (by intro e he; cases he) (fun _ _ _ _ h => by cases h)
  rw [List.set_set] at s4
  exact s4
theorem Kt.put4 {w W : World} {b n i : Nat} {vs : Nat → Value} {k v : Int} (h : Kt w W b n vs) : Kt w (put4 W b i k v) b n vs := h.step fun _ _ h2 _ => put4_block W b i k v h2
theorem Fr.put4 {A b c n i : Nat} {W : World} {o : LOp} {k v : Int} (h : Fr A W b c n o) (hb : b < A) : Fr A (put4 W b i k v) b c n o :=
  h.of_blocks (by rw [put4_size]; exact Nat.le_refl _) fun q h1 _ => put4_block W b i k v (by omega)

theorem mem_putL {x e : LEnt} {es : List LEnt} (h : e ∈ putL x es) : e = x ∨ e ∈ es := by
  unfold putL at h
  simp at h
  rcases h with h | h | h
  · exact .inr (List.mem_of_mem_take h)
  · exact .inl h
  · exact .inr (List.mem_of_mem_drop h)
/-- What grows in a row of names leaves the boxes. -/
theorem Fr.grown {A b c n : Nat} {W W' : World} {o : LOp} {row : Option Nat} (h : Fr A W b c n o) (hg : W.grownBy W' row) (hr : ∀ g, row = some g → g < A ∨ A + 1 + 1 < g) : Fr A W' b c n o :=
  h.of_blocks hg.size fun q h1 h2 => hg.block q (by have := h.size; omega) fun e => by
    rcases hr q e.symm with h | h <;> omega
theorem Fr.set {A b c n : Nat} {W : World} {o : LOp} (h : Fr A W b c n o) (hb : b < A) (k : Nat) (v : Value) : Fr A (W.setCell ⟨b, k, none⟩ v) b c n o :=
  h.of_blocks (by simp) fun q h1 _ => Below.heap_setCell W ⟨b, k, none⟩ v q (by simp; omega)

/-- Behind a change of one object's names ahead of its store. -/
structure KidsFr (A : Nat) (w W W' : World) (B b c n j : Nat) (o : LOp) (os : List LObj) (vs : Nat → Value) (v v' : Value) (es : List LEnt) : Prop where
  fr : Fr A W' b c n o
  cell : W'.cell? ⟨b, j * 4 + 3, none⟩ = some v
  frozen : W'.frozen? ⟨b, j * 4 + 3, none⟩ = false
  lt : b < W'.heap.size
  size : A + 1 + 1 < W'.heap.size
  below : Below B w W'
  keep : ∀ q, q < W.heap.size → v.ownBlock ≠ some q → W'.heap[q]? = W.heap[q]?
  done : ∀ d, os[j]? = some d → (∀ e ∈ es, e.name.size ≤ maxLen) → OwnT (W'.setCell ⟨b, j * 4 + 3, none⟩ v') B b c (os.set j { d with kids := es }) (fun q => if q = j then v' else vs q)
theorem kidsFr {A B b c n j : Nat} {w W W' : World} {o : LOp} {os : List LObj} {vs : Nat → Value} {v v' : Value} {es : List LEnt} {row : Option Nat} (hF : Fr A W b c n o) (hT : OwnT W B b c os vs) (hb : Below B w W) (hB : B ≤ W.heap.size) {d : LObj} (hd : os[j]? = some d) (hv : vs j = v)
    (hg : W.grownBy W' row) (hrow : row = none ∨ row = v.ownBlock) (hA : ∀ g, v.ownBlock = some g → g < A ∨ A + 1 + 1 < g) (ho : OwnEnts W' B v' es) (hat : ∀ g, v'.ownBlock = some g → v.ownBlock = some g ∨ W.heap.size ≤ g) : KidsFr A w W W' B b c n j o os vs v v' es := by
  obtain ⟨y1, y2, y3, y4, y5, y6, y7⟩ := hT.at_ j d hd
  have hbr : some b ≠ row := by
    rcases hrow with rfl | rfl
    · simp
    · rw [← hv]; exact fun e => hT.kids_ne y6 e.symm
  have hrB : ∀ g, row = some g → B ≤ g := by
    rcases hrow with rfl | rfl
    · intro g h; cases h
    · intro g h; rw [← hv] at h; exact (y6.lt g h).1
  refine ⟨hF.grown hg fun g h => ?_, by rw [hg.cell_far _ hT.lt hbr, y5, hv], ?_, by have := hg.size; have := hT.lt; omega, by have := hg.size; have := hF.size; omega, below_grown hb hg hrB hB, fun q hq hne => hg.block q hq ?_, fun d' hd' hs => ?_⟩
  · rcases hrow with rfl | rfl
    · cases h
    · exact hA g h
  · obtain ⟨cur, hr, _⟩ := hT.row
    exact frozen_of_row W' b _ cur 38 (by rw [hg.block b hT.lt hbr]; exact hr)
  · rcases hrow with rfl | rfl
    · simp
    · exact fun e => hne e.symm
  · exact hT.putKids hd' hg (by rw [hv]; exact hrow) ho hs (by rw [hv]; exact hat)
theorem Kt.kids {A B b c n j : Nat} {w W W' : World} {o : LOp} {os : List LObj} {vs0 vs : Nat → Value} {v v' : Value} {es : List LEnt} (h : Kt w W b n vs0) (hs : w.heap.size ≤ W.heap.size) (K : KidsFr A w W W' B b c n j o os vs v v' es)
    (hv : ∀ g, v.ownBlock = some g → (∃ i, i < n ∧ (vs0 i).ownBlock = some g) ∨ w.heap.size ≤ g) : Kt w W' b n vs0 := h.step fun q h1 _ h3 => K.keep q (by omega) fun e => by
  rcases hv q e with ⟨i, hi, h2⟩ | h2
  · exact h3 i hi h2
  · omega
theorem OwnEnts.shape {w : World} {B : Nat} {v : Value} {es : List LEnt} (h : OwnEnts w B v es) : ∃ a c, v = .slice a es.length c := by
  rcases h.2 with ⟨rfl, h0⟩ | ⟨g, cap, cur, rfl, _⟩
  · exact ⟨none, 0, by rw [h0]⟩
  · exact ⟨_, cap, rfl⟩
/-- The tree is put into its box again. -/
theorem Fr.retree {A b c n : Nat} {W : World} {o : LOp} (h : Fr A W b c n o) : Fr A (W.setCell ⟨A, 0, none⟩ (.slice (some ⟨b, 0, none⟩) n c)) b c n o := by
  have hc : ∀ q k, q ≠ A → (W.setCell ⟨A, 0, none⟩ (.slice (some ⟨b, 0, none⟩) n c)).cell? ⟨q, k, none⟩ = W.cell? ⟨q, k, none⟩ := fun q k hq => World.cell?_of_block (w := W) (Below.heap_setCell W ⟨A, 0, none⟩ _ q (by simpa using hq))
  obtain ⟨x, hx⟩ := h.r
  obtain ⟨y, hy⟩ := h.tb
  exact ⟨by simpa using h.size, by rw [World.cell?_setCell_same _ _ _ h.t], by rw [hc _ _ (by omega)]; exact h.o0, by rw [hc _ _ (by omega)]; exact h.o1, by rw [hc _ _ (by omega)]; exact h.o2, by rw [hc _ _ (by omega)]; exact h.o3, by rw [hc _ _ (by omega)]; exact h.o4, by rw [hc _ _ (by omega)]; exact h.o5, by rw [hc _ _ (by omega)]; exact h.o6,
    ⟨x, hx.of_block (Below.heap_setCell W ⟨A, 0, none⟩ _ _ (by simp; omega))⟩, ⟨_, hy.set 0 _⟩⟩
theorem Fr.tree {A b c n : Nat} {W : World} {o : LOp} (h : Fr A W b c n o) : W.frozen? ⟨A, 0, none⟩ = false := by
  obtain ⟨y, hy⟩ := h.tb
  exact hy.frozen 0
def turnL (os : List LObj) (i : Nat) : List LObj := match os[i]? with | some o => os.set i { o with ver := o.ver + 1 } | none => os
def kidsL (os : List LObj) (i : Nat) (f : List LEnt → List LEnt) : List LObj := match os[i]? with | some o => os.set i { o with kids := f o.kids } | none => os
theorem turnL_at {os : List LObj} {i : Nat} {o : LObj} (h : os[i]? = some o) : turnL os i = os.set i { o with ver := o.ver + 1 } := by simp [turnL, h]
theorem kidsL_at {os : List LObj} {i : Nat} {o : LObj} (h : os[i]? = some o) (f : List LEnt → List LEnt) : kidsL os i f = os.set i { o with kids := f o.kids } := by simp [kidsL, h]
theorem turnL_len (os : List LObj) (i : Nat) : (turnL os i).length = os.length := by unfold turnL; split <;> simp
theorem kidsL_len (os : List LObj) (i : Nat) (f : List LEnt → List LEnt) : (kidsL os i f).length = os.length := by unfold kidsL; split <;> simp
def Bd (os : List LObj) (M : Int) : Prop := ∀ x ∈ os, 0 ≤ x.ver ∧ x.ver ≤ M ∧ x.kids.length ≤ 1000000
theorem Bd.set {os : List LObj} {M : Int} (h : Bd os M) (i : Nat) {y : LObj} (hy : 0 ≤ y.ver ∧ y.ver ≤ M ∧ y.kids.length ≤ 1000000) : Bd (os.set i y) M := fun x hx => by
  rcases List.mem_or_eq_of_mem_set hx with h1 | rfl
  · exact h x h1
  · exact hy
end Go.Proofs.YtnolbfijcnldjaaGreatDoor
