/- A tree behind some that is done, as it is drawn: only bounds are told of it. -/
import Derived.Test.YtjenldenggaljaaSmall
import Derived.Deep.DeepCutAuto
namespace Go.Proofs.Ytjenldenggaljaa
open Go.RowKit

theorem But.grown {rb : Nat} {W W' : World} (h : But rb W W') : W.grownBy W' (some rb) := ⟨h.below.os, h.below.tape, h.below.output, h.below.size, fun k hk hne => h.block k (fun e => hne (by rw [e])) hk⟩
theorem OwnT.base {w : World} {B B' b c : Nat} {os : List LObj} {vs : Nat → Value} (h : OwnT w B b c os vs) (hB : B' ≤ B) : OwnT w B' b c os vs :=
  ⟨Nat.le_trans hB h.lo, h.row, fun i o ho => by
    obtain ⟨h1, h2, h3, h4, h5, h6, h7⟩ := h.at_ i o ho
    exact ⟨h1, h2, h3, h4, h5, World.ownsRow.mono h6 hB, h7⟩, h.apart⟩
theorem OwnT.ge {w : World} {B b c : Nat} {os : List LObj} {vs : Nat → Value} (h : OwnT w B b c os vs) {q : Nat} (hq : q < B) : (b ≠ q) ∧ ∀ i, i < os.length → (vs i).ownBlock ≠ some q := by
  refine ⟨by have := h.lo; omega, fun i hi e => ?_⟩
  obtain ⟨_, _, _, _, _, h6, _⟩ := h.at_ i os[i] (by simp [hi])
  have := (h6.lt q e).1
  omega
theorem OwnT.but {w w' : World} {B b c rb : Nat} {os : List LObj} {vs : Nat → Value} (h : OwnT w B b c os vs) (hb : But rb w w') (hr : rb < B) : OwnT w' B b c os vs := by
  obtain ⟨h1, h2⟩ := h.ge hr
  exact h.grown hb.grown (by simpa using h1) fun i hi => .inr (h2 i hi)
/-- A row of what is done that grows leaves the tree. -/
theorem OwnT.ops {W W' : World} {B B' b c : Nat} {os : List LObj} {vs : Nat → Value} {u : Value} {ops : List LOp} (h : OwnT W B b c os vs) (ho : OwnOps W B' u ops) (hg : W.grownBy W' u.ownBlock) : OwnT W' B b c os vs := by
  obtain ⟨cur, hr, _⟩ := h.row
  have hne : ∀ q, u.ownBlock = some q → ∃ cs z, W.heap[q]? = some (.cells cs 65 z) := by
    intro q hq
    rcases ho.2 with ⟨hn, _⟩ | ⟨g, cap, cur', hn, _, hg', _⟩
    · rw [hn] at hq; simp [Value.ownBlock] at hq
    · rw [hn] at hq; simp [Value.ownBlock] at hq; subst hq; exact ⟨_, _, hg'⟩
  refine h.grown hg ?_ fun i hi => ?_
  · intro e
    obtain ⟨cs, z, h1⟩ := hne b e.symm
    rw [hr] at h1; simp at h1
  · obtain ⟨_, _, _, _, _, h6, _⟩ := h.at_ i os[i] (by simp [hi])
    rcases h6.2 with ⟨hn, _⟩ | ⟨g, cap, cur', hn, _, hg', _⟩
    · left; rw [hn]; rfl
    · right
      rw [hn]
      intro e
      simp [Value.ownBlock] at e
      obtain ⟨cs, z, h1⟩ := hne g e.symm
      rw [hg'] at h1; simp at h1

theorem row1 (w : World) (v : Value) (t : TypeId) : (w.alloc (.cells #[v] t)).rowIs w.heap.size t 1 (fun _ => v) := by
  have := World.rowIs_alloc w #[v] t (fun _ => v) (fun i hi => by
    have h0 : i = 0 := by simpa using hi
    subst h0; rfl)
  simpa using this
/-- In the midst of growing: the boxes, the reader, the tree, what was done. -/
structure GSt (w W : World) (rb P A B b c K : Nat) (l : Value) (os : List LObj) (vs : Nat → Value) (ops : List LOp) : Prop where
  but : But rb w W
  rd : RdTo W rb P
  size : A + 1 < W.heap.size
  t : W.cell? ⟨A, 0, none⟩ = some (.slice (some ⟨b, 0, none⟩) 32 c)
  tb : ∃ f, W.rowIs A 25 1 f
  rx : ∃ f, W.rowIs (A + 1) 25 1 f
  tree : OwnT W B b c os vs
  len : os.length = 32
  sm : Sm os K
  list : OwnOps W (A + 2) l ops
  lsm : ∀ o ∈ ops, OpSm o ∧ opOk o = true
theorem GSt.next {w W W' : World} {rb P P' A B b c K : Nat} {l : Value} {os : List LObj} {vs : Nat → Value} {ops : List LOp} (h : GSt w W rb P A B b c K l os vs ops) (hrA : rb < A) (hrB : rb < B) (hb : But rb W W') (hr : RdTo W' rb P') : GSt w W' rb P' A B b c K l os vs ops := by
  obtain ⟨f, hf⟩ := h.tb
  obtain ⟨f', hf'⟩ := h.rx
  have hs := h.size
  exact ⟨h.but.trans hb, hr, by have := hb.below.size; omega, by rw [hb.cell (by simp; omega) (by simp; omega)]; exact h.t, ⟨f, hf.of_block (hb.block _ (by omega) hf.lt)⟩, ⟨f', hf'.of_block (hb.block _ (by omega) hf'.lt)⟩, h.tree.but hb hrB, h.len, h.sm,
    World.ownsRow.kept h.list hb.grown (.inr fun e => by have := (h.list.lt rb e).1; omega), h.lsm⟩
theorem GSt.more {w W W' : World} {rb P A B b c K : Nat} {l : Value} {os : List LObj} {vs : Nat → Value} {ops : List LOp} (h : GSt w W rb P A B b c K l os vs ops) (hrA : rb < A) (hrB : rb < B) (hb : Below W.heap.size W W') : GSt w W' rb P A B b c K l os vs ops :=
  h.next hrA hrB (But.of_below (by have := h.size; omega) hb) (h.rd.but hb (by have := h.size; omega))
theorem GSt.on {w W : World} {rb P P' A B b c K : Nat} {l : Value} {os : List LObj} {vs : Nat → Value} {ops : List LOp} (h : GSt w W rb P A B b c K l os vs ops) (hP : P ≤ P') : GSt w W rb P' A B b c (K + 3) l os vs ops := by
  obtain ⟨q, hq, R⟩ := h.rd
  exact ⟨h.but, ⟨q, by omega, R⟩, h.size, h.t, h.tb, h.rx, h.tree, h.len, h.sm.mono (by omega), h.list, h.lsm⟩
/-- What is done, in a box. -/
structure OpBox (W : World) (q : Nat) (o : LOp) : Prop where
  lt : q < W.heap.size
  o0 : W.cell? ⟨q, 0, none⟩ = some (.int .i64 o.kind)
  o1 : W.cell? ⟨q, 1, none⟩ = some (.int .i64 o.dir)
  o2 : W.cell? ⟨q, 2, none⟩ = some (.string o.name)
  o3 : W.cell? ⟨q, 3, none⟩ = some (.int .i64 o.dir2)
  o4 : W.cell? ⟨q, 4, none⟩ = some (.string o.name2)
  o5 : W.cell? ⟨q, 5, none⟩ = some (.int .i64 o.id)
  o6 : W.cell? ⟨q, 6, none⟩ = some (.string o.text)
theorem OpBox.below {W W' : World} {q : Nat} {o : LOp} (h : OpBox W q o) (hb : Below W.heap.size W W') : OpBox W' q o := by
  have hc : ∀ i, W'.cell? ⟨q, i, none⟩ = W.cell? ⟨q, i, none⟩ := fun i => hb.cell (by simpa using h.lt)
  exact ⟨by have := h.lt; have := hb.size; omega, by rw [hc]; exact h.o0, by rw [hc]; exact h.o1, by rw [hc]; exact h.o2, by rw [hc]; exact h.o3, by rw [hc]; exact h.o4, by rw [hc]; exact h.o5, by rw [hc]; exact h.o6⟩
/-- What is read where something is done: the tree's box and what is done. -/
def RS (A qb b1 c1 : Nat) (o : LOp) (W : World) : Prop := W.cell? ⟨A, 0, none⟩ = some (.slice (some ⟨b1, 0, none⟩) 32 c1) ∧ W.cell? ⟨qb, 0, none⟩ = some (.int .i64 o.kind) ∧ W.cell? ⟨qb, 1, none⟩ = some (.int .i64 o.dir) ∧ W.cell? ⟨qb, 2, none⟩ = some (.string o.name) ∧ W.cell? ⟨qb, 3, none⟩ = some (.int .i64 o.dir2) ∧ W.cell? ⟨qb, 4, none⟩ = some (.string o.name2) ∧ W.cell? ⟨qb, 5, none⟩ = some (.int .i64 o.id) ∧ W.cell? ⟨qb, 6, none⟩ = some (.string o.text)
theorem RS.below {A qb b1 c1 : Nat} {o : LOp} {W W' : World} (h : RS A qb b1 c1 o W) (hA : A + 1 < W.heap.size) (hq : qb < W.heap.size) (hb : Below W.heap.size W W') : RS A qb b1 c1 o W' := by
  have e1 : ∀ i, W'.cell? ⟨A, i, none⟩ = W.cell? ⟨A, i, none⟩ := fun i => hb.cell (by simp; omega)
  have e2 : ∀ i, W'.cell? ⟨qb, i, none⟩ = W.cell? ⟨qb, i, none⟩ := fun i => hb.cell (by simpa using hq)
  unfold RS
  simp only [e1, e2]
  exact h
/-- A box that was made ahead of what is done is there behind it. -/
theorem bx1 {wA wB : World} {B2 b2 c2 : Nat} {os : List LObj} {vs2 : Nat → Value} (hT2 : OwnT wA B2 b2 c2 os vs2) (hl : os.length = 32) (hk : Kt (wA.alloc (Obj.cells #[.slice none 0 0] 25)) wB b2 32 vs2) : ∃ f, wB.rowIs wA.heap.size 25 1 f := by
  refine ⟨_, (row1 wA (.slice none 0 0) 25).of_block (hk _ (by simp) (by have := hT2.lt; omega) fun i hi e => ?_)⟩
  have hi' : i < os.length := by omega
  have := ((hT2.at_ i os[i] (by simp [hi'])).2.2.2.2.2.1.lt _ e).2
  omega
theorem bx2 {wA wB : World} {B2 b2 c2 q : Nat} {os : List LObj} {vs2 : Nat → Value} {f : Nat → Value} (hx : wA.rowIs q 25 1 f) (hT2 : OwnT wA B2 b2 c2 os vs2) (hq : q < B2) (hl : os.length = 32) (hk : Kt wA wB b2 32 vs2) : ∃ f, wB.rowIs q 25 1 f := by
  obtain ⟨h1, h2⟩ := hT2.ge hq
  exact ⟨_, hx.of_block (hk _ hx.lt h1.symm fun i hi => h2 i (by omega))⟩
theorem seven_at {w : World} {o : LOp} {j : Nat} {u : Value} {q : Nat} (h : (opCells [o])[j]? = some u) (hq : q = w.heap.size) : (w.alloc (Obj.cells o.val 65)).cell? ((⟨q, 0, none⟩ : Addr).add j) = some u := by
  subst hq
  have hadd : (⟨w.heap.size, 0, none⟩ : Addr).add j = ⟨w.heap.size, j, none⟩ := by unfold Addr.add; split <;> simp_all
  rw [hadd]
  have h1 : o.val[j]? = some u := by simpa [opCells] using h
  simp [go_sem, h1]
/-- What was done is a tree. -/
def DoneT (W : World) (r : List LObj × Int) (s13 s14 : Value) (wx : World) : Prop :=
  ∃ xb b1 c1 B1 vs1, s13 = .pointer (some ⟨xb, 0, none⟩) ∧ s14 = .int .i64 r.2 ∧ wx.cell? ⟨xb, 0, none⟩ = some (.slice (some ⟨b1, 0, none⟩) 32 c1) ∧ xb < wx.heap.size ∧ OwnT wx B1 b1 c1 r.1 vs1 ∧ W.heap.size ≤ B1 ∧ Below W.heap.size W wx
def GrowEnd (w : World) (rb P B K : Nat) (e : Ending) (w' : World) : Prop :=
  ∃ b c os vs l ops, e = .returned (.tuple #[.agg #[.slice (some ⟨b, 0, none⟩) 32 c], l]) ∧ OwnT w' B b c os vs ∧ os.length = 32 ∧ Sm os K ∧ OwnOps w' w.heap.size l ops ∧ (∀ o ∈ ops, OpSm o ∧ opOk o = true) ∧ RdTo w' rb P ∧ But rb w w'

theorem GSt.tfz {w W : World} {rb P A B b c K : Nat} {l : Value} {os : List LObj} {vs : Nat → Value} {ops : List LOp} (h : GSt w W rb P A B b c K l os vs ops) : W.frozen? ⟨A, 0, none⟩ = false := by
  obtain ⟨f, hf⟩ := h.tb
  exact hf.frozen 0
theorem GSt.notbox {w W : World} {rb P A B b c K : Nat} {l : Value} {os : List LObj} {vs : Nat → Value} {ops : List LOp} (h : GSt w W rb P A B b c K l os vs ops) {q : Nat} {k : Int} (hq : W.cell? ⟨q, 0, none⟩ = some (.int .i64 k)) : q ≠ A := fun e => by
  subst e
  rw [h.t] at hq
  cases hq
/-- The tree that was done is put into the tree's box. -/
theorem GSt.store {w W : World} {rb P A B b c K K' b' c' : Nat} {l : Value} {os os' : List LObj} {vs vs' : Nat → Value} {ops : List LOp} (h : GSt w W rb P A B b c K l os vs ops) (hT : OwnT W B b' c' os' vs') (hl : os'.length = 32) (hs : Sm os' K') (hA : w.heap.size ≤ A) (hrA : rb < A) : GSt w (W.setCell ⟨A, 0, none⟩ (.slice (some ⟨b', 0, none⟩) 32 c')) rb P A B b' c' K' l os' vs' ops := by
  obtain ⟨f, hf⟩ := h.tb
  obtain ⟨f', hf'⟩ := h.rx
  have hg : W.grownBy (W.setCell ⟨A, 0, none⟩ (.slice (some ⟨b', 0, none⟩) 32 c')) (some A) := ⟨rfl, rfl, rfl, by simp, fun i _ hi => Below.heap_setCell W ⟨A, 0, none⟩ _ i (by intro e; exact hi (by simp [e]))⟩
  obtain ⟨q, hq, R⟩ := h.rd
  have hA0 : Below A W (W.setCell ⟨A, 0, none⟩ (.slice (some ⟨b', 0, none⟩) 32 c')) := (Below.refl _ _).setCell (by simp) _
  refine ⟨⟨h.but.below.trans (hA0.mono (by omega)), fun k hk hlt => (hA0.block k (by omega)).trans (h.but.block k hk hlt)⟩, ⟨q, hq, R.below hA0 hrA⟩, by simpa using h.size, by rw [World.cell?_setCell_same _ _ _ h.t], ⟨_, hf.set 0 _⟩, ⟨f', hf'.of_block (Below.heap_setCell W ⟨A, 0, none⟩ _ _ (by simp))⟩, hT.setBox ⟨f, hf⟩ 0 _, hl, hs, World.ownsRow.kept h.list hg (.inr fun e => by have := (h.list.lt A e).1; omega), h.lsm⟩
theorem GSt.app {w W W' : World} {rb P A B b c K : Nat} {l v : Value} {os : List LObj} {vs : Nat → Value} {ops : List LOp} {o : LOp} (h : GSt w W rb P A B b c K l os vs ops) (hE : AppOEnd W W' (A + 2) l v (ops ++ [o])) (hA : w.heap.size ≤ A) (hrA : rb < A) (ho : OpSm o ∧ opOk o = true) : GSt w W' rb P A B b c K v os vs (ops ++ [o]) := by
  obtain ⟨f, hf⟩ := h.tb
  obtain ⟨f', hf'⟩ := h.rx
  obtain ⟨q, hq, R⟩ := h.rd
  have hs := h.size
  have hA0 : Below (A + 2) W W' := below_grown (Below.refl _ _) hE.grown (fun k hk => (h.list.lt k hk).1) (by omega)
  exact ⟨⟨h.but.below.trans (hA0.mono (by omega)), fun k hk hlt => (hA0.block k (by omega)).trans (h.but.block k hk hlt)⟩, ⟨q, hq, R.below hA0 (by omega)⟩, by have := hA0.size; omega, by rw [hA0.cell (by simp)]; exact h.t, ⟨f, hf.of_block (hA0.block _ (by omega))⟩, ⟨f', hf'.of_block (hA0.block _ (by omega))⟩, h.tree.ops h.list hE.grown, h.len, h.sm, hE.own, fun x hx => by
    rcases List.mem_append.1 hx with h1 | h1
    · exact h.lsm x h1
    · rw [List.mem_singleton.1 h1]; exact ho⟩
theorem GSt.fin {w W : World} {rb P P' A B b c K : Nat} {l : Value} {os : List LObj} {vs : Nat → Value} {ops : List LOp} (h : GSt w W rb P A B b c K l os vs ops) (hA : w.heap.size = A) (hrA : rb < A) (hP : P ≤ P') (v : Value) : GrowEnd w rb P' B K (.returned (.tuple #[.agg #[.slice (some ⟨b, 0, none⟩) 32 c], l])) (W.setCell ⟨A + 1, 0, none⟩ v) := by
  obtain ⟨f', hf'⟩ := h.rx
  obtain ⟨q, hq, R⟩ := h.rd
  have hA0 : Below (A + 1) W (W.setCell ⟨A + 1, 0, none⟩ v) := (Below.refl _ _).setCell (by simp) _
  have hg : W.grownBy (W.setCell ⟨A + 1, 0, none⟩ v) (some (A + 1)) := ⟨rfl, rfl, rfl, by simp, fun i _ hi => Below.heap_setCell W ⟨A + 1, 0, none⟩ _ i (by intro e; exact hi (by simp [e]))⟩
  exact ⟨b, c, os, vs, l, ops, rfl, h.tree.setBox ⟨f', hf'⟩ 0 v, h.len, h.sm, World.ownsRow.mono (World.ownsRow.kept h.list hg (.inr fun e => by have := (h.list.lt _ e).1; omega)) (by omega), h.lsm, ⟨q, by omega, R.below hA0 (by omega)⟩, ⟨h.but.below.trans (hA0.mono (by omega)), fun k hk hlt => (hA0.block k (by omega)).trans (h.but.block k hk hlt)⟩⟩
set_option maxHeartbeats 4000000 in
set_option maxRecDepth 20000 in
theorem grow_any (rb p B b c n K : Nat) (os : List LObj) (vs : Nat → Value) (who : Int) (w : World) (hp : p + 9 * n ≤ 999000) (hn : n ≤ 1000) (hrB : rb < B) (hB : B ≤ w.heap.size) (hK : K + 3 * n ≤ 900000) (h32 : os.length = 32) (hS : Sm os K) (H : OwnT w B b c os vs) (R : RdTo w rb p) :
    Calls Try.prog 134 #[.pointer (some ⟨rb, 0, none⟩), .agg #[.slice (some ⟨b, 0, none⟩) 32 c], .int .i64 who, .int .i64 n] w fun e w' => GrowEnd w rb (p + 9 * n) B (K + 3 * n) e w' := by
  have hrw : rb < w.heap.size := by omega
  have hA3 : Below w.heap.size w (((w.alloc (Obj.cells #[.slice (some ⟨b, 0, none⟩) 32 c] 25)).alloc (Obj.cells #[.slice none 0 0] 25)).alloc (Obj.cells #[] 65)) := (((Below.refl _ _).alloc (Nat.le_refl _) _).alloc (by simp) _).alloc (by simp; omega) _
  have G0 : GSt w (((w.alloc (Obj.cells #[.slice (some ⟨b, 0, none⟩) 32 c] 25)).alloc (Obj.cells #[.slice none 0 0] 25)).alloc (Obj.cells #[] 65)) rb p w.heap.size B b c K (.slice (some ⟨w.heap.size + 1 + 1, 0, none⟩) 0 0) os vs [] := by
    refine ⟨But.of_below hrw hA3, R.but hA3 hrw, by simp, by simp [go_sem], ⟨fun _ => .slice (some ⟨b, 0, none⟩) 32 c, ?_⟩, ⟨fun _ => .slice none 0 0, ?_⟩, H.below hA3, h32, hS, ?_, fun o ho => by cases ho⟩
    · have h2 : Below (w.heap.size + 1) (w.alloc (Obj.cells #[.slice (some ⟨b, 0, none⟩) 32 c] 25)) (((w.alloc (Obj.cells #[.slice (some ⟨b, 0, none⟩) 32 c] 25)).alloc (Obj.cells #[.slice none 0 0] 25)).alloc (Obj.cells #[] 65)) := ((Below.refl _ _).alloc (by simp) _).alloc (by simp) _
      exact (row1 w _ 25).of_block (h2.block _ (by omega))
    · have h2 : Below (w.heap.size + 1 + 1) ((w.alloc (Obj.cells #[.slice (some ⟨b, 0, none⟩) 32 c] 25)).alloc (Obj.cells #[.slice none 0 0] 25)) (((w.alloc (Obj.cells #[.slice (some ⟨b, 0, none⟩) 32 c] 25)).alloc (Obj.cells #[.slice none 0 0] 25)).alloc (Obj.cells #[] 65)) := (Below.refl _ _).alloc (by simp) _
      have h3 := (row1 (w.alloc (Obj.cells #[.slice (some ⟨b, 0, none⟩) 32 c] 25)) (.slice none 0 0) 25).of_block (h2.block _ (by simp))
      simpa using h3
    · simpa [OwnOps, opCells] using World.ownsRow_lit (base := w.heap.size + 2) (e := 65) (size := 7) ((w.alloc (Obj.cells #[.slice (some ⟨b, 0, none⟩) 32 c] 25)).alloc (Obj.cells #[.slice none 0 0] 25)) #[] 0 (by simp) (by simp [maxLen]) rfl
  clear H R hS h32
  go_enter Try.func134, Try.ntmps134
  go_wp2_with fail
  go_loopg [10, 11] n (fun g l i wr => ∃ j : Nat, j ≤ n ∧ Hid (g = n - j) ∧ i = .int .i64 j ∧ ∃ b' c' os' vs' ops, Hid (GSt w wr rb (p + 9 * j) w.heap.size B b' c' (K + 3 * j) l os' vs' ops ∧ ops.length ≤ j))
  case atStart => exact ⟨0, Nat.zero_le _, rfl, rfl, b, c, os, vs, [], by simpa using G0, by simp⟩
  case round =>
    obtain ⟨j, hj, hg, rfl, b1, c1, os1, vs1, ops1, HG⟩ := hrel
    have G1 := HG.out.1
    have q1 := G1.t
    have hz1 := G1.size
    clear G0 hA3
    by_cases hlt : j < n
    · have hltI : (j : Int) < (n : Int) := by omega
      have hO1 : Hid (ObjsAt wr B wr.heap.size (some ⟨b1, 0, none⟩) 32 os1) := by
        show ObjsAt _ _ _ _ _ _
        have := G1.tree.to_objs
        rwa [G1.len] at this
      clear G1
      go_wp2_with fail
      refine (op_any rb (p + 9 * j) (some ⟨b1, 0, none⟩) c1 os1 B who wr (by omega) (by omega) hrB (HG.out.1.sm.few (by omega)) hO1.out HG.out.1.rd).mono ?_
      rintro e W1 ⟨⟨o, rfl, hos⟩, hr1, hb1⟩
      have HG1 : Hid (GSt w W1 rb (p + 9 * j + 9) w.heap.size B b1 c1 (K + 3 * j) _ os1 vs1 ops1) := HG.out.1.next hrw hrB hb1 hr1
      have hle : ops1.length ≤ j := HG.out.2
      clear HG hb1 hr1 hO1 q1 hz1
      obtain ⟨k, dd, nm, ll, nm2, ii, tx⟩ := o
      simp only [LOp.val]
      have hz1 := HG1.out.size
      go_wp2_with fail
      have hz := OpSm.sz hos
      refine (opOk_any ⟨k, dd, nm, ll, nm2, ii, tx⟩ _ hz.1 hz.2 hz.3).mono ?_
      rintro e W2 ⟨rfl, rfl⟩
      simp only [LOp.val]
      have hAB : Below W1.heap.size W1 ((W1.alloc (Obj.cells #[.int .i64 k, .int .i64 dd, .string nm, .int .i64 ll, .string nm2, .int .i64 ii, .string tx] 65)).alloc (Obj.cells #[.int .i64 k, .int .i64 dd, .string nm, .int .i64 ll, .string nm2, .int .i64 ii, .string tx] 65)) := ((Below.refl _ _).alloc (Nat.le_refl _) _).alloc (by simp) _
      have HG2 : Hid (GSt w ((W1.alloc (Obj.cells #[.int .i64 k, .int .i64 dd, .string nm, .int .i64 ll, .string nm2, .int .i64 ii, .string tx] 65)).alloc (Obj.cells #[.int .i64 k, .int .i64 dd, .string nm, .int .i64 ll, .string nm2, .int .i64 ii, .string tx] 65)) rb (p + 9 * j + 9) w.heap.size B b1 c1 (K + 3 * j) _ os1 vs1 ops1) := HG1.out.more hrw hrB hAB
      have HBX : Hid (OpBox ((W1.alloc (Obj.cells #[.int .i64 k, .int .i64 dd, .string nm, .int .i64 ll, .string nm2, .int .i64 ii, .string tx] 65)).alloc (Obj.cells #[.int .i64 k, .int .i64 dd, .string nm, .int .i64 ll, .string nm2, .int .i64 ii, .string tx] 65)) W1.heap.size ⟨k, dd, nm, ll, nm2, ii, tx⟩) := ⟨by simp; omega, by simp [go_sem], by simp [go_sem], by simp [go_sem], by simp [go_sem], by simp [go_sem], by simp [go_sem], by simp [go_sem]⟩
      generalize hW2 : (W1.alloc (Obj.cells #[.int .i64 k, .int .i64 dd, .string nm, .int .i64 ll, .string nm2, .int .i64 ii, .string tx] 65)).alloc (Obj.cells #[.int .i64 k, .int .i64 dd, .string nm, .int .i64 ll, .string nm2, .int .i64 ii, .string tx] 65) = W2 at *
      clear hW2 hAB HG1 hz1
      have hz2 := HG2.out.size
      cases hok : opOk ⟨k, dd, nm, ll, nm2, ii, tx⟩
      · clear hok
        go_wp2_with fail
        go_roundg (n - (j + 1))
        case measure => have := hg.out; omega
        case rel => exact ⟨j + 1, by omega, rfl, by go_num, b1, c1, os1, vs1, ops1, HG2.out.on (by omega), by omega⟩
      · have HOK : Hid (opOk ⟨k, dd, nm, ll, nm2, ii, tx⟩ = true) := hok
        clear hok
        go_upto_region 7 with fail
        have hqb := HBX.out.lt
        generalize hqe : W1.heap.size = qb at *
        clear hqe
        have HRS : Hid (RS w.heap.size qb b1 c1 ⟨k, dd, nm, ll, nm2, ii, tx⟩ W2) := ⟨HG2.out.t, HBX.out.o0, HBX.out.o1, HBX.out.o2, HBX.out.o3, HBX.out.o4, HBX.out.o5, HBX.out.o6⟩
        have hO2 : Hid (ObjsAt W2 B W2.heap.size (some ⟨b1, 0, none⟩) 32 os1) := by
          show ObjsAt _ _ _ _ _ _
          have := HG2.out.tree.to_objs
          rwa [HG2.out.len] at this
        have hl32 : os1.length = 32 := HG2.out.len
        have HSM := HG2.out.sm
        go_cut [13, 14] (fun s13 s14 wx => DoneT W2 (actDo os1 ⟨k, dd, nm, ll, nm2, ii, tx⟩) s13 s14 wx)
        case first =>
          go_region_held3 (fun w' => w'.cell? ⟨w.heap.size, 0, none⟩ = some (.slice (some ⟨b1, 0, none⟩) 32 c1) ∧ w'.cell? ⟨qb, 0, none⟩ = some (.int .i64 k) ∧ w'.cell? ⟨qb, 1, none⟩ = some (.int .i64 dd) ∧ w'.cell? ⟨qb, 2, none⟩ = some (.string nm) ∧ w'.cell? ⟨qb, 3, none⟩ = some (.int .i64 ll) ∧ w'.cell? ⟨qb, 4, none⟩ = some (.string nm2) ∧ w'.cell? ⟨qb, 5, none⟩ = some (.int .i64 ii) ∧ w'.cell? ⟨qb, 6, none⟩ = some (.string tx))
            (exact RS.below HRS.out hz2 hqb (by repeat (first | with_reducible exact Below.refl _ _ | with_reducible exact hbA2 | with_reducible exact hbB2 | refine Below.drew ?_ | refine Below.alloc ?_ (by first | omega | (simp <;> omega)) _ | refine Below.setCell ?_ (by first | omega | (simp <;> omega)) _)))
            (first
              | (go_at_call 144; refine (copy_any (some ⟨b1, 0, none⟩) 32 c1 os1 B W2.heap.size _ (by omega) (by omega) (HSM.sizes (by omega)) (by first | omega | (simp <;> omega)) (hO2.out.below (by repeat (first | with_reducible exact Below.refl _ _ | with_reducible exact hbA2 | with_reducible exact hbB2 | refine Below.drew ?_ | refine Below.alloc ?_ (by first | omega | (simp <;> omega)) _ | refine Below.setCell ?_ (by first | omega | (simp <;> omega)) _)) (Nat.le_refl _))).mono ?_; rintro e wA ⟨⟨v, vs2, rfl, hcp⟩, hbA⟩; obtain ⟨b2, c2, rfl, hT2⟩ := hcp.out.done hl32.symm (by omega) HSM.short; have hbA2 : Below W2.heap.size W2 wA := Below.trans (by repeat (first | with_reducible exact Below.refl _ _ | with_reducible exact hbA2 | with_reducible exact hbB2 | refine Below.drew ?_ | refine Below.alloc ?_ (by first | omega | (simp <;> omega)) _ | refine Below.setCell ?_ (by first | omega | (simp <;> omega)) _)) (hbA.mono (by first | omega | (simp <;> omega))); have hzA := hbA2.size; have hT2b : OwnT wA W2.heap.size b2 c2 os1 vs2 := hT2.base (by first | omega | (simp <;> omega)); try (have hxA : Hid (wA.rowIs W2.heap.size 25 1 (fun _ => .slice none 0 0)) := (by show World.rowIs _ _ _ _ _; first | exact (row1 W2 (.slice none 0 0) 25).of_block (hbA.block W2.heap.size (by simp)) | exact (row1 W2.drew (.slice none 0 0) 25).of_block (hbA.block W2.heap.size (by simp)))))
              | (go_at_call 143; refine (do_any W2.heap.size b2 c2 32 ⟨k, dd, nm, ll, nm2, ii, tx⟩ os1 vs2 _ HOK.out hl32.symm (by omega) (by first | omega | (simp <;> omega)) (HSM.bd (by omega)) (OpSm.sz hos) (by first | with_reducible exact hT2b | exact hT2b.below ((Below.refl _ _).alloc (Nat.le_refl _) _))).mono ?_; rintro e wB ⟨vs3, rfl, hT3, hbB, hk3⟩; rw [show (actDo os1 ⟨k, dd, nm, ll, nm2, ii, tx⟩).1.length = 32 from (actDo_sm HSM hos).2.trans hl32]; have hbB2 : Below W2.heap.size W2 wB := Below.trans (by repeat (first | with_reducible exact Below.refl _ _ | with_reducible exact hbA2 | with_reducible exact hbB2 | refine Below.drew ?_ | refine Below.alloc ?_ (by first | omega | (simp <;> omega)) _ | refine Below.setCell ?_ (by first | omega | (simp <;> omega)) _)) hbB; have hzB := hbB2.size; first | (obtain ⟨fx, hfx⟩ := bx1 hT2 hl32 hk3; have hxc := hfx.cell (i := 0) (by omega); have hxf := hfx.frozen 0) | (obtain ⟨fx, hfx⟩ := bx2 hxA.out hT2 (by simp) hl32 hk3; have hxc := hfx.cell (i := 0) (by omega); have hxf := hfx.frozen 0) | skip))
          all_goals
            go_wp2_with fail
            go_meet
            first
              | exact ⟨_, b2, c2, W2.heap.size, vs3, rfl, rfl, World.cell?_setCell_same _ _ _ hxc, by simpa using hfx.lt, hT3.setBox ⟨fx, hfx⟩ 0 _, Nat.le_refl _, hbB2.setCell (by simp; omega) _⟩
              | exact ⟨_, b2, c2, W2.heap.size, vs3, rfl, rfl, World.cell?_setCell_same _ _ _ hxc, by simpa using hfx.lt, hT3.setBox ⟨fx, hfx⟩ 0 _, Nat.le_refl _, hbB2.setCell (by simp) _⟩
              | exact ⟨wB.heap.size, b2, c2, W2.heap.size, vs3, rfl, rfl, by simp [go_sem], by simp, hT3.below ((Below.refl _ _).alloc (Nat.le_refl _) _), Nat.le_refl _, hbB2.alloc (by omega) _⟩
        case rest =>
          obtain ⟨xb, b2, c2, B2, vs2, rfl, rfl, hx0, hxl, hT2, hB2, hb2⟩ := hcut
          have HG3 : Hid (GSt w wc rb (p + 9 * j + 9) w.heap.size B b1 c1 (K + 3 * j) _ os1 vs1 ops1) := HG2.out.more hrw hrB hb2
          have HT2 : Hid (OwnT wc B2 b2 c2 (actDo os1 ⟨k, dd, nm, ll, nm2, ii, tx⟩).1 vs2) := hT2
          have hB2' : B ≤ B2 := by have := HG2.out.but.below.size; omega
          have HBX3 := HBX.out.below hb2
          clear hT2 HG2 HBX HRS hO2 hb2 hz2 hqb hB2
          have hz3 := HG3.out.size
          have q3 := HG3.out.t
          have z3 := HG3.out.tfz
          obtain ⟨hqb, e0, e1, e2, e3, e4, e5, e6⟩ := HBX3
          dsimp only at e0 e1 e2 e3 e4 e5 e6
          have HR1 : Hid (Sm (actDo os1 ⟨k, dd, nm, ll, nm2, ii, tx⟩).1 (K + 3 * j + 3) ∧ (actDo os1 ⟨k, dd, nm, ll, nm2, ii, tx⟩).1.length = 32) := ⟨(actDo_sm HSM hos).1, (actDo_sm HSM hos).2.trans hl32⟩
          generalize actDo os1 ⟨k, dd, nm, ll, nm2, ii, tx⟩ = r at *
          by_cases hr0 : r.2 = 0
          · have t0 : (r.2 == 0) = true := by simp [hr0]
            clear hr0
            have hne : qb ≠ w.heap.size := HG3.out.notbox e0
            have HG4 : Hid (GSt w (wc.setCell ⟨w.heap.size, 0, none⟩ (.slice (some ⟨b2, 0, none⟩) 32 c2)) rb (p + 9 * j + 9) w.heap.size B b2 c2 (K + 3 * j + 3) _ r.1 vs2 ops1) := HG3.out.store (HT2.out.base hB2') HR1.out.2 HR1.out.1 (Nat.le_refl _) hrw
            have HG5 : Hid (GSt w ((wc.setCell ⟨w.heap.size, 0, none⟩ (.slice (some ⟨b2, 0, none⟩) 32 c2)).alloc (Obj.cells #[.int .i64 k, .int .i64 dd, .string nm, .int .i64 ll, .string nm2, .int .i64 ii, .string tx] 65)) rb (p + 9 * j + 9) w.heap.size B b2 c2 (K + 3 * j + 3) _ r.1 vs2 ops1) := HG4.out.more hrw hrB ((Below.refl _ _).alloc (Nat.le_refl _) _)
            have hz5 := HG5.out.size
            clear HG4 HG3 HT2
            go_wp2_with (first
              | (at_builtin; refine wpList_app_ops _ rfl (.tmp 38) (.tmp 40) rfl (w.heap.size + 2) _ ops1 [⟨k, dd, nm, ll, nm2, ii, tx⟩] HG5.out.list ⟨wc.heap.size, 0, none⟩ 1 1 rfl rfl rfl ?c1 ?c2 ?c3 ?_)
              | go_in)
            case c1 => intro i u hi; exact seven_at hi (by simp)
            case c2 => simp; omega
            case c3 => omega
            intro v' w6 hE
            have HG6 : Hid (GSt w w6 rb (p + 9 * j + 9) w.heap.size B b2 c2 (K + 3 * j + 3) v' r.1 vs2 (ops1 ++ [⟨k, dd, nm, ll, nm2, ii, tx⟩])) := HG5.out.app hE (Nat.le_refl _) hrw ⟨hos, HOK.out⟩
            clear HG5 hE
            go_wp2_with fail
            go_roundg (n - (j + 1))
            case measure => have := hg.out; omega
            case rel => exact ⟨j + 1, by omega, rfl, by go_num, b2, c2, r.1, vs2, _, HG6.out, by simp; omega⟩
          · have t0 : (r.2 == 0) = false := by simp [hr0]
            clear hr0
            go_wp2_with fail
            go_roundg (n - (j + 1))
            case measure => have := hg.out; omega
            case rel => exact ⟨j + 1, by omega, rfl, by go_num, b1, c1, os1, vs1, ops1, HG3.out.on (by omega), by omega⟩
    · obtain rfl : j = n := by omega
      have q2 := HG.out.1.rx
      obtain ⟨fr, hfr⟩ := q2
      have g0 := hfr.cell (i := 0) (by omega)
      have z0 := hfr.frozen 0
      clear hfr G1
      go_wp2_with fail
      refine bodyPost_ret (v := .tuple #[.agg #[.slice (some ⟨b1, 0, none⟩) 32 c1], u10]) (by rw [results, Try.results134]; simp [go_sem, World.cell?_setCell_same _ _ _ g0]) rfl ?_
      exact HG.out.1.fin rfl hrw (by omega) _
end Go.Proofs.Ytjenldenggaljaa
