/- A tree as it is drawn, one in ten bent: only bounds are told of it. -/
import Derived.Test.YtjenldenggaljaaTree
namespace Go.Proofs.Ytjenldenggaljaa
open Go.RowKit

/-- Few turns, few names, short names and texts; a Ver may be just out of bounds. -/
def Bn (os : List LObj) : Prop := ∀ o ∈ os, -1 ≤ o.ver ∧ o.ver ≤ 1000001 ∧ o.text.size ≤ 4 ∧ o.kids.length ≤ 1000 ∧ ∀ e ∈ o.kids, e.name.size ≤ 4
theorem Sm.bn {os : List LObj} {K : Nat} (h : Sm os K) (hK : K ≤ 1000) : Bn os := fun o ho => by
  obtain ⟨h1, h2, h3, h4, h5⟩ := h o ho
  exact ⟨by omega, by omega, h3, by omega, h5⟩
theorem Bn.set {os : List LObj} (h : Bn os) (i : Nat) {y : LObj} (hy : -1 ≤ y.ver ∧ y.ver ≤ 1000001 ∧ y.text.size ≤ 4 ∧ y.kids.length ≤ 1000 ∧ ∀ e ∈ y.kids, e.name.size ≤ 4) : Bn (os.set i y) := fun x hx => by
  rcases List.mem_or_eq_of_mem_set hx with h1 | rfl
  · exact h x h1
  · exact hy
theorem Bn.take {os : List LObj} (h : Bn os) (k : Nat) : Bn (os.take k) := fun x hx => h x (List.mem_of_mem_take hx)
theorem Bn.sizes {os : List LObj} (h : Bn os) : Sizes os 1048576 := fun o ho => by
  have := (h o ho).2.2.2.1; omega
theorem Bn.at {os : List LObj} {i : Nat} {o : LObj} (h : Bn os) (ho : os[i]? = some o) : -1 ≤ o.ver ∧ o.ver ≤ 1000001 ∧ o.text.size ≤ 4 ∧ o.kids.length ≤ 1000 ∧ ∀ e ∈ o.kids, e.name.size ≤ 4 := h o (List.mem_of_getElem? ho)
/-- A tree of one's own, as it was drawn, one in ten bent. -/
def BentEnd (w : World) (rb P : Nat) (e : Ending) (w' : World) : Prop :=
  ∃ b n c os vs, e = .returned (.agg #[.slice (some ⟨b, 0, none⟩) n c]) ∧ n = os.length ∧ n ≤ 32 ∧ OwnT w' w.heap.size b c os vs ∧ Bn os ∧ RdTo w' rb P ∧ But rb w w'

/-- In the midst of bending. -/
structure BSt (w W : World) (rb P A T b n c : Nat) (os : List LObj) (vs : Nat → Value) : Prop where
  but : But rb w W
  rd : RdTo W rb P
  lt : A < T
  size : T < W.heap.size
  t : W.cell? ⟨T, 0, none⟩ = some (.slice (some ⟨b, 0, none⟩) n c)
  tb : ∃ f, W.rowIs T 25 1 f
  rx : ∃ f, W.rowIs A 25 1 f
  tree : OwnT W (A + 1) b c os vs
  len : n = os.length
  le : n ≤ 32
  bn : Bn os
theorem BSt.next {w W W' : World} {rb P P' A T b n c : Nat} {os : List LObj} {vs : Nat → Value} (h : BSt w W rb P A T b n c os vs) (hrA : rb < A) (hb : But rb W W') (hr : RdTo W' rb P') : BSt w W' rb P' A T b n c os vs := by
  obtain ⟨f, hf⟩ := h.tb
  obtain ⟨f', hf'⟩ := h.rx
  have hs := h.size
  have hl := h.lt
  exact ⟨h.but.trans hb, hr, hl, by have := hb.below.size; omega, by rw [hb.cell (by simp; omega) (by simpa using hs)]; exact h.t, ⟨f, hf.of_block (hb.block _ (by omega) hf.lt)⟩, ⟨f', hf'.of_block (hb.block _ (by omega) hf'.lt)⟩, h.tree.but hb (by omega), h.len, h.le, h.bn⟩
theorem BSt.more {w W W' : World} {rb P A T b n c : Nat} {os : List LObj} {vs : Nat → Value} (h : BSt w W rb P A T b n c os vs) (hrA : rb < A) (hb : Below W.heap.size W W') : BSt w W' rb P A T b n c os vs :=
  h.next hrA (But.of_below (by have := h.size; have := h.lt; omega) hb) (h.rd.but hb (by have := h.size; have := h.lt; omega))
theorem BSt.ne {w W : World} {rb P A T b n c : Nat} {os : List LObj} {vs : Nat → Value} (h : BSt w W rb P A T b n c os vs) : b ≠ T ∧ b ≠ A := by
  refine ⟨fun e => ?_, by have := h.tree.lo; omega⟩
  subst e
  obtain ⟨f, cs, h1, _⟩ := h.tb
  obtain ⟨cur, h2, _⟩ := h.tree.row
  rw [h1] at h2
  simp at h2
/-- A change of the tree's own row. -/
theorem BSt.set {w W : World} {rb P A T b n c : Nat} {os os' : List LObj} {vs vs' : Nat → Value} (h : BSt w W rb P A T b n c os vs) (hA : w.heap.size ≤ A) (hrA : rb < A) (q : Nat) (v : Value) (hT : OwnT (W.setCell ⟨b, q, none⟩ v) (A + 1) b c os' vs') (hl : os'.length = os.length) (hb : Bn os') : BSt w (W.setCell ⟨b, q, none⟩ v) rb P A T b n c os' vs' := by
  obtain ⟨f, hf⟩ := h.tb
  obtain ⟨f', hf'⟩ := h.rx
  obtain ⟨p, hp, R⟩ := h.rd
  obtain ⟨n1, n2⟩ := h.ne
  have hlo := h.tree.lo
  have hB : Below (A + 1) W (W.setCell ⟨b, q, none⟩ v) := (Below.refl _ _).setCell (by simpa using hlo) _
  exact ⟨⟨h.but.below.trans (hB.mono (by omega)), fun k hk hlt => (hB.block k (by omega)).trans (h.but.block k hk hlt)⟩, ⟨p, hp, R.below hB (by omega)⟩, h.lt, by simpa using h.size, by rw [World.cell?_setCell_other _ _ _ _ (fun e => n1 (by simpa using congrArg Addr.block e))]; exact h.t, ⟨f, hf.of_block (Below.heap_setCell W ⟨b, q, none⟩ v T (by simp; omega))⟩, ⟨f', hf'.of_block (Below.heap_setCell W ⟨b, q, none⟩ v A (by simp; omega))⟩, hT, by rw [hl]; exact h.len, h.le, hb⟩
theorem OwnT.take {w : World} {B b c : Nat} {os : List LObj} {vs : Nat → Value} (h : OwnT w B b c os vs) (k : Nat) : OwnT w B b c (os.take k) vs := by
  obtain ⟨cur, h1, h2, h3, h4⟩ := h.row
  refine ⟨h.lo, ⟨cur, h1, h2, by simp; omega, h4⟩, fun i o ho => h.at_ i o ?_, fun i j g hi hj => h.apart i j g (by simp at hi; omega) (by simp at hj; omega)⟩
  have hi : i < k := by have := (List.getElem?_eq_some_iff.1 ho).1; simp at this; omega
  rw [List.getElem?_take_of_lt hi] at ho
  exact ho
/-- The tree is cut. -/
theorem BSt.cut {w W : World} {rb P A T b n c : Nat} {os : List LObj} {vs : Nat → Value} (h : BSt w W rb P A T b n c os vs) (hA : w.heap.size ≤ A) (hrA : rb < A) (k : Nat) (hk : k ≤ n) : BSt w (W.setCell ⟨T, 0, none⟩ (.slice (some ⟨b, 0, none⟩) k c)) rb P A T b k c (os.take k) vs := by
  obtain ⟨f, hf⟩ := h.tb
  obtain ⟨f', hf'⟩ := h.rx
  obtain ⟨p, hp, R⟩ := h.rd
  have hlt := h.lt
  have hB : Below (A + 1) W (W.setCell ⟨T, 0, none⟩ (.slice (some ⟨b, 0, none⟩) k c)) := (Below.refl _ _).setCell (by simp; omega) _
  exact ⟨⟨h.but.below.trans (hB.mono (by omega)), fun k hk hlt => (hB.block k (by omega)).trans (h.but.block k hk hlt)⟩, ⟨p, hp, R.below hB (by omega)⟩, h.lt, by simpa using h.size, World.cell?_setCell_same _ _ _ h.t, ⟨_, hf.set 0 _⟩, ⟨f', hf'.of_block (Below.heap_setCell W ⟨T, 0, none⟩ _ A (by simp; omega))⟩, (h.tree.setBox ⟨f, hf⟩ 0 _).take k, by have := h.len; simp; omega, by have := h.le; omega, h.bn.take k⟩
theorem BSt.fin {w W : World} {rb P P' A T b n c : Nat} {os : List LObj} {vs : Nat → Value} (h : BSt w W rb P A T b n c os vs) (hA : w.heap.size = A) (hrA : rb < A) (hP : P ≤ P') (v : Value) : BentEnd w rb P' (.returned (.agg #[.slice (some ⟨b, 0, none⟩) n c])) (W.setCell ⟨A, 0, none⟩ v) := by
  obtain ⟨f', hf'⟩ := h.rx
  obtain ⟨p, hp, R⟩ := h.rd
  have hB : Below A W (W.setCell ⟨A, 0, none⟩ v) := (Below.refl _ _).setCell (by simp) _
  exact ⟨b, n, c, os, vs, rfl, h.len, h.le, (h.tree.setBox ⟨f', hf'⟩ 0 v).base (by omega), h.bn, ⟨p, by omega, R.below hB hrA⟩, ⟨h.but.below.trans (hB.mono (by omega)), fun k hk hlt => (hB.block k (by omega)).trans (h.but.block k hk hlt)⟩⟩
theorem BSt.box {w W : World} {rb P A T b n c : Nat} {os : List LObj} {vs : Nat → Value} (h : BSt w W rb P A T b n c os vs) : (∃ x, W.cell? ⟨A, 0, none⟩ = some x) ∧ W.frozen? ⟨A, 0, none⟩ = false ∧ W.frozen? ⟨T, 0, none⟩ = false ∧ A < W.heap.size := by
  obtain ⟨f', hf'⟩ := h.rx
  obtain ⟨f, hf⟩ := h.tb
  exact ⟨⟨_, hf'.cell (by omega)⟩, hf'.frozen 0, hf.frozen 0, hf'.lt⟩
structure AppKEnd (w w' : World) (B : Nat) (u v : Value) (l : List LEnt) : Prop where
  own : OwnEnts w' B v l
  grown : w.grownBy w' u.ownBlock
  at_ : v.ownBlock = u.ownBlock ∨ v.ownBlock = some w.heap.size
/-- append of names onto names of one's own, nil or not. -/
theorem step_app_kids (w : World) {ops : Array Oper} {o : Oper} {a : Act} {K : Act → World → Prop} {Q : Exit → Act → World → Prop} {E : Prop} (hgd : o.guard = none) (s x : Operand)
    (ho : o.op = .call { callee := .builtin .append, args := #[s, x], argTypes := #[32, 32] }) (B : Nat) (u : Value) (l news : List LEnt) (hown : OwnEnts w B u l) (ad : Addr) (m c : Nat) (hm : m = news.length)
    (hs : a.eval s = u) (hx : a.eval x = .slice (some ad) m c)
    (hnews : ∀ j u, (entCells news)[j]? = some u → w.cell? (ad.add j) = some u) (hbd : l.length + m ≤ 4000000) (hB : B ≤ w.heap.size)
    (h : ∀ v w', AppKEnd w w' B u v (l ++ news) → K (a.put o.dst v) w') :
    if Region.wanted o (yielded ops a.tmps) = true then Oper.wp Try.prog o a w K Q else E := by
  have hw : Region.wanted o (yielded ops a.tmps) = true := by simp [Region.wanted, hgd]
  rw [if_pos hw]
  obtain ⟨i0, hi, hz0, hz1, hz2⟩ := info_parts info47'
  subst hm
  obtain ⟨v', w', hr, h2, h3, h4, h5⟩ := run_append_own_at (P := Try.prog) w B 32 o.type 47 i0 _ 2 24 Try.underlying32 hi hz0 hz1 hz2 rfl (by decide) _ _ _ hown ad news.length c (entCells news) (entCells_len _) hnews (entCells_one _) (by unfold maxLen; omega) (by omega) hB
  unfold Oper.wp execOp
  simp only [ho, resolve, invoke, builtin, Sem.run_bind, Sem.run_pure, Result.andThen_ok, List.map_toArray, List.map_cons, List.map_nil, hs, hx, hr]
  refine h v' w' ⟨?_, h3, h5⟩
  unfold OwnEnts; rw [entCells_app, List.length_append]; exact h2

theorem OwnEnts.nebox {W : World} {B q : Nat} {v : Value} {es : List LEnt} {f : Nat → Value} (h : OwnEnts W B v es) (hq : W.rowIs q 25 1 f) : v.ownBlock ≠ some q := by
  obtain ⟨cs, h1, _⟩ := hq
  rcases h.2 with ⟨hn, _⟩ | ⟨g, cap, cur', hn, _, hg', _⟩
  · rw [hn]; simp [Value.ownBlock]
  · rw [hn]
    intro e
    simp [Value.ownBlock] at e
    subst e
    rw [hg'] at h1
    simp at h1
/-- A name more, ahead of its store, and behind it. -/
theorem BSt.kids {w W W' : World} {rb P A T b n c k : Nat} {os : List LObj} {vs : Nat → Value} {x : LObj} {y : LEnt} {v : Value} (h : BSt w W rb P A T b n c os vs) (hA : w.heap.size ≤ A) (hrA : rb < A) (hx : os[k]? = some x) (hy : y.name.size ≤ 4) (hE : AppKEnd W W' (A + 1) (vs k) v (x.kids ++ [y])) (hb : x.kids.length < 1000) :
    W'.cell? ⟨T, 0, none⟩ = some (.slice (some ⟨b, 0, none⟩) n c) ∧ W'.cell? ⟨b, k * 4 + 3, none⟩ = some (vs k) ∧ W'.frozen? ⟨b, k * 4 + 3, none⟩ = false ∧ b < W'.heap.size ∧
      BSt w (W'.setCell ⟨b, k * 4 + 3, none⟩ v) rb P A T b n c (os.set k { x with kids := x.kids ++ [y] }) (fun j => if j = k then v else vs j) := by
  obtain ⟨f, hf⟩ := h.tb
  obtain ⟨f', hf'⟩ := h.rx
  obtain ⟨p, hp, R⟩ := h.rd
  obtain ⟨n1, n2⟩ := h.ne
  have hlo := h.tree.lo
  obtain ⟨a1, a2, a3, a4, a5, a6, a7⟩ := h.tree.at_ k x hx
  have hs := h.size
  have hlt := h.lt
  have hT0 : (vs k).ownBlock ≠ some T := a6.nebox hf
  have hb0 : (vs k).ownBlock ≠ some b := h.tree.kids_ne a6
  have hBg : Below (A + 1) W W' := below_grown (Below.refl _ _) hE.grown (fun q hq => (a6.lt q hq).1) (by omega)
  have eT : W'.heap[T]? = W.heap[T]? := hE.grown.block T hs (fun e => hT0 e.symm)
  have eb : W'.heap[b]? = W.heap[b]? := hE.grown.block b h.tree.lt (fun e => hb0 e.symm)
  have cT : W'.cell? ⟨T, 0, none⟩ = some (.slice (some ⟨b, 0, none⟩) n c) := by rw [World.cell?_of_block (w := W) eT]; exact h.t
  have hB : Below (A + 1) W (W'.setCell ⟨b, k * 4 + 3, none⟩ v) := hBg.setCell (by simpa using hlo) _
  have hOT := h.tree.putKids hx hE.grown (.inr rfl) hE.own (fun e he => by
    rcases List.mem_append.1 he with h1 | h1
    · exact a7 e h1
    · rw [List.mem_singleton.1 h1]; exact le_maxLen4 hy) (fun g hg => by
    rcases hE.at_ with h1 | h1
    · left; rw [← h1]; exact hg
    · right; rw [h1] at hg; simp at hg; omega)
  obtain ⟨b1, b2, b3, b4, b5⟩ := h.bn.at hx
  refine ⟨cT, by rw [World.cell?_of_block (w := W) eb]; exact a5, by rw [World.frozen?_of_block (w := W) eb]; exact h.tree.frozen _, by have := hE.grown.size; have := h.tree.lt; omega, ⟨⟨h.but.below.trans (hB.mono (by omega)), fun k hk hlt => (hB.block k (by omega)).trans (h.but.block k hk hlt)⟩, ⟨p, hp, R.below hB (by omega)⟩, hlt, by have := hE.grown.size; simp; omega, by rw [World.cell?_setCell_other _ _ _ _ (fun e => n1 (by simpa using congrArg Addr.block e))]; exact cT, ⟨f, (hf.of_block eT).of_block (Below.heap_setCell W' ⟨b, k * 4 + 3, none⟩ v T (by simp; omega))⟩, ⟨f', hf'.of_block (hB.block A (by omega))⟩, hOT, by simpa using h.len, h.le, h.bn.set k ⟨b1, b2, b3, by simp; omega, fun e he => ?_⟩⟩⟩
  rcases List.mem_append.1 he with h1 | h1
  · exact b5 e h1
  · rw [List.mem_singleton.1 h1]; exact hy

set_option maxHeartbeats 4000000 in
set_option maxRecDepth 20000 in
theorem bent_any (rb p : Nat) (w : World) (hp : p ≤ 980000) (hrw : rb < w.heap.size) (R : RdTo w rb p) :
    Calls Try.prog 72 #[.pointer (some ⟨rb, 0, none⟩)] w fun e w' => BentEnd w rb (p + 160) e w' := by
  go_enter Try.func72, Try.ntmps72
  go_wp2_with fail
  refine (tree_any rb p _ (by omega) (by simp; omega) (R.but ((Below.refl _ _).alloc (Nat.le_refl _) _) hrw)).mono ?_
  rintro e W1 ⟨b, c, os, vs, rfl, hT, hl, hs, hr, hb⟩
  have hz1 : w.heap.size < W1.heap.size := by have := hb.below.size; simp at this; omega
  have S1 : BSt w (W1.alloc (Obj.cells #[.slice (some ⟨b, 0, none⟩) 32 c] 25)) rb (p + 150) w.heap.size W1.heap.size b 32 c os vs := by
    have hA : But rb w W1 := (But.of_below hrw ((Below.refl _ _).alloc (Nat.le_refl _) _)).trans hb
    have hA2 : Below W1.heap.size W1 (W1.alloc (Obj.cells #[.slice (some ⟨b, 0, none⟩) 32 c] 25)) := (Below.refl _ _).alloc (Nat.le_refl _) _
    exact ⟨hA.trans (But.of_below (by omega) hA2), hr.but hA2 (by omega), hz1, by simp, by simp [go_sem], ⟨_, row1 W1 _ 25⟩, ⟨_, ((row1 w _ 25).of_block (hb.block _ (by omega) (by simp))).of_block (hA2.block _ hz1)⟩, (by have h9 := hT.below hA2; simpa using h9), hl.symm, Nat.le_refl _, hs.bn (by omega)⟩
  clear hT hr hb R
  go_wp2_with fail
  generalize hTq : W1.heap.size = T at *
  generalize hW1 : W1.alloc (Obj.cells #[.slice (some ⟨b, 0, none⟩) 32 c] 25) = W2 at *
  clear hW1 hTq
  refine (pick_to rb (p + 150) 32 _ (by omega) (by omega) (by omega) S1.rd).mono ?_
  rintro e W3 ⟨⟨k, rfl, hk⟩, hr3, hb3⟩
  have S3 := S1.next hrw hb3 hr3
  clear S1 hr3 hb3 hz1
  go_wp2_with fail
  refine (pick_to rb (p + 150 + 1) 40 _ (by omega) (by omega) (by omega) S3.rd).mono ?_
  rintro e W4 ⟨⟨y, rfl, hy⟩, hr4, hb4⟩
  have S4 := S3.next hrw hb4 hr4
  clear S3 hr4 hb4
  have hz4 := S4.size
  have hz5 := S4.lt
  have q4 := S4.t
  obtain ⟨⟨rv4, hr4⟩, hr5, hr6, hz6⟩ := S4.box
  obtain ⟨x, hx⟩ : ∃ x, os[k]? = some x := ⟨os[k]'(by omega), by simp⟩
  obtain ⟨xs, x1, x2, x3, x4, x5, x6⟩ := S4.tree.at_ k x hx
  have hbl := S4.tree.lt
  have z2 := S4.tree.frozen (k * 4 + 1)
  have HX : Hid (os[k]? = some x) := hx
  have HB : Hid (-1 ≤ x.ver ∧ x.ver ≤ 1000001 ∧ x.text.size ≤ 4 ∧ x.kids.length ≤ 1000 ∧ ∀ e ∈ x.kids, e.name.size ≤ 4) := S4.bn.at hx
  have hkI : (k : Int) < 32 := by omega
  obtain ⟨nT, nA⟩ := S4.ne
  have HKL : Hid (x.kids.length ≤ 60) := (hs x (List.mem_of_getElem? hx)).2.2.2.1
  clear hx x5 x6 hs
  by_cases y4 : y = 4
  · subst y4
    clear x1 x3 x4
    by_cases hv : 0 < x.ver
    · go_upto_region 15 with fail
      have S6 := S4.set (Nat.le_refl _) hrw (k * 4 + 1) (.int .i64 1000000) (S4.tree.setVer HX.out 1000000) (by simp) (S4.bn.set k ⟨by show (-1 : Int) ≤ 1000000; omega, by show (1000000 : Int) ≤ 1000001; omega, HB.out.2.2.1, HB.out.2.2.2.1, HB.out.2.2.2.2⟩)
      have q6 := S6.t
      obtain ⟨⟨rv, hr0⟩, hr1, hr2, hz8⟩ := S6.box
      have hz7 := S6.size
      generalize hW6 : W4.setCell ⟨b, k * 4 + 1, none⟩ (.int .i64 1000000) = W6 at *
      clear hW6
      go_wp2_with fail
      refine bodyPost_ret (v := .agg #[.slice (some ⟨b, 0, none⟩) 32 c]) (by rw [results, Try.results72]; simp [go_sem, World.cell?_setCell_same _ _ _ hr0]) rfl ?_
      exact S6.fin rfl hrw (by omega) _
    · go_wp2_with fail
      refine bodyPost_ret (v := .agg #[.slice (some ⟨b, 0, none⟩) 32 c]) (by rw [results, Try.results72]; simp [go_sem, World.cell?_setCell_same _ _ _ hr4]) rfl ?_
      exact S4.fin rfl hrw (by omega) _
  by_cases y0 : y = 0
  · subst y0
    clear x1 x2 x3 x4 y4
    have hkc : k ≤ c := by
      obtain ⟨cur, _, _, h3, _⟩ := S4.tree.row
      omega
    have hkc' : (k : Int) ≤ (c : Int) := by omega
    go_upto_region 15 with fail
    have S6 := S4.cut (Nat.le_refl _) hrw k (by omega)
    have q6 := S6.t
    obtain ⟨⟨rv, hr0⟩, hr1, hr2, hz8⟩ := S6.box
    have hz7 := S6.size
    generalize hW6 : W4.setCell ⟨T, 0, none⟩ (.slice (some ⟨b, 0, none⟩) k c) = W6 at *
    clear hW6
    go_wp2_with fail
    refine bodyPost_ret (v := .agg #[.slice (some ⟨b, 0, none⟩) k c]) (by rw [results, Try.results72]; simp [go_sem, World.cell?_setCell_same _ _ _ hr0]) rfl ?_
    exact S6.fin rfl hrw (by omega) _
  by_cases y1 : y = 1
  · subst y1
    clear x1 x3 x4 y4 y0
    go_upto_region 10 with fail
    go_region_held3 (fun w' => w'.cell? ⟨T, 0, none⟩ = some (.slice (some ⟨b, 0, none⟩) 32 c)) (first | go_keep | exact SB.t | (rw [World.cell?_setCell_other _ _ _ _ (by simp [nT])]; exact SB.t))
      (first
        | (go_at_call 111; refine (num_to (fun z => -1 ≤ z ∧ z ≤ 1000001) rb (p + 150 + 1 + 1) _ 3 3 _ (by omega) (by omega) (by omega) (by first | omega | (simp; omega)) (S4.more hrw (by repeat (first | with_reducible exact Below.refl _ _ | refine Below.drew ?_ | refine Below.alloc ?_ (by first | omega | (simp <;> omega)) _))).rd (by intro i hi; match i, hi with | 0, _ => exact ⟨-1, by simp [go_sem], by omega, by omega⟩ | 1, _ => exact ⟨1000001, by simp [go_sem], by omega, by omega⟩ | 2, _ => exact ⟨0, by simp [go_sem], by omega, by omega⟩)).mono ?_; rintro e wB ⟨⟨z, rfl, hz⟩, hrB, hbB⟩; have SB := (S4.more hrw (by repeat (first | with_reducible exact Below.refl _ _ | refine Below.drew ?_ | refine Below.alloc ?_ (by first | omega | (simp <;> omega)) _))).next hrw hbB hrB; obtain ⟨_, _, y2, _⟩ := SB.tree.at_ k x HX.out; have zB := SB.tree.frozen (k * 4 + 1); have hlB := SB.tree.lt))
    all_goals
      go_upto_region 15 with fail
      have S6 := SB.set (Nat.le_refl _) hrw (k * 4 + 1) (.int .i64 z) (SB.tree.setVer HX.out z) (by simp) (SB.bn.set k ⟨by show (-1 : Int) ≤ z; omega, by show z ≤ 1000001; omega, HB.out.2.2.1, HB.out.2.2.2.1, HB.out.2.2.2.2⟩)
      have q6 := S6.t
      obtain ⟨⟨rv, hr0⟩, hr1, hr2, hz8⟩ := S6.box
      have hz7 := S6.size
      generalize hW6 : wB.setCell ⟨b, k * 4 + 1, none⟩ (.int .i64 z) = W6 at *
      clear hW6
      go_wp2_with fail
      refine bodyPost_ret (v := .agg #[.slice (some ⟨b, 0, none⟩) 32 c]) (by rw [results, Try.results72]; simp [go_sem, World.cell?_setCell_same _ _ _ hr0]) rfl ?_
      exact S6.fin rfl hrw (by omega) _
  by_cases y2 : y = 2
  · subst y2
    clear x1 x2 x3 y4 y0 y1
    go_upto_region 12 with fail
    refine wp_region_held_drew (S := fun w' => w'.cell? ⟨T, 0, none⟩ = some (.slice (some ⟨b, 0, none⟩) 32 c)) (by kernel_rfl) ?_ (fun hHeld => ?_)
    · exact q4
    refine wpAnyH_take (i := 0) (oi := _) (v := ?va0) rfl (by kernel_rfl) (by kernel_rfl) (by kernel_rfl) (fun _ _ _ h => h) (Or.inl ⟨by rfl, ?ya0⟩) (by assumption) ?ra0
    case ya0 => (intro w' hSw; (try dsimp only at hSw); go_simp; try with_reducible rfl)
    try simp only [Act.put]
    refine wpAnyH_take (i := 1) (oi := _) (v := ?va1) rfl (by kernel_rfl) (by kernel_rfl) (by kernel_rfl) (fun _ _ _ h => h) (Or.inl ⟨by rfl, ?ya1⟩) (by assumption) ?ra1
    case ya1 => (intro w' hSw; (try dsimp only at hSw); go_simp; try with_reducible rfl)
    try simp only [Act.put]
    refine wpAnyH_take (i := 2) (oi := _) (v := ?va2) rfl (by kernel_rfl) (by kernel_rfl) (by kernel_rfl) (fun _ _ _ h => h) (Or.inl ⟨by rfl, ?ya2⟩) (by assumption) ?ra2
    case ya2 => (intro w' hSw; (try dsimp only at hSw); go_simp; try with_reducible rfl)
    try simp only [Act.put]
    refine wpAnyH_take (i := 3) (oi := _) (v := ?va3) rfl (by kernel_rfl) (by kernel_rfl) (by kernel_rfl) (fun _ _ _ h => h) (Or.inl ⟨by rfl, ?ya3⟩) (by assumption) ?ra3
    case ya3 => (intro w' hSw; (try dsimp only at hSw); go_simp; try with_reducible rfl)
    try simp only [Act.put]
    refine wpAnyH_take (i := 4) (oi := _) (v := ?va4) rfl (by kernel_rfl) (by kernel_rfl) (by kernel_rfl) (fun _ _ _ h => h) (Or.inl ⟨by rfl, ?ya4⟩) (by assumption) ?ra4
    case ya4 => (intro w' hSw; (try dsimp only at hSw); go_simp; try with_reducible rfl)
    try simp only [Act.put]
    refine wpAnyH_take (i := 5) (oi := _) (v := ?va5) rfl (by kernel_rfl) (by kernel_rfl) (by kernel_rfl) (fun _ _ _ h => h) (Or.inl ⟨by rfl, ?ya5⟩) (by assumption) ?ra5
    case ya5 => (intro w' hSw; (try dsimp only at hSw); go_simp; try with_reducible rfl)
    try simp only [Act.put]
    refine wpAnyH_take (i := 6) (oi := _) (v := ?va6) rfl (by kernel_rfl) (by kernel_rfl) (by kernel_rfl) (fun _ _ _ h => h) (Or.inl ⟨by rfl, ?ya6⟩) (by assumption) ?ra6
    case ya6 => (intro w' hSw; (try dsimp only at hSw); go_simp; try with_reducible rfl)
    try simp only [Act.put]
    refine wpAnyH_take (i := 7) (oi := _) (v := ?va7) rfl (by kernel_rfl) (by kernel_rfl) (by kernel_rfl) (fun _ _ _ h => h) (Or.inl ⟨by rfl, ?ya7⟩) (by assumption) ?ra7
    case ya7 => (intro w' hSw; (try dsimp only at hSw); go_simp; try with_reducible rfl)
    try simp only [Act.put]
    refine wpAnyH_take (i := 9) (oi := _) (v := ?va9) rfl (by kernel_rfl) (by kernel_rfl) (by kernel_rfl) (fun _ _ _ h => h) (Or.inl ⟨by rfl, ?ya9⟩) (by assumption) ?ra9
    case ya9 => (intro w' hSw; (try dsimp only at hSw); go_simp; try with_reducible rfl)
    try simp only [Act.put]
    refine wpAnyH_ready (rs := [8, 10]) (by kernel_rfl) (by simp) ?_
    refine AllReadyH.cons (o := _) rfl (fun K hK => ?_) (AllReadyH.cons (o := _) rfl (fun K hK => ?_) AllReadyH.nil)
    · go_simp
      refine hK.out _ _ ?_ (fun hHeld => ?_)
      · first | exact q4 | exact SB.t | exact SC.t
      clear hK K
      try simp only [Act.put]
      refine wpAnyH_ready (rs := [10]) (by kernel_rfl) (by simp) ?_
      refine AllReadyH.cons (o := _) rfl (fun K hK => ?_) AllReadyH.nil
      go_simp
      go_at_call 110
      refine (pick_to rb (p + 150 + 1 + 1) 5 _ (by omega) (by omega) (by omega) (S4.more hrw (by repeat (first | with_reducible exact Below.refl _ _ | refine Below.drew ?_ | refine Below.alloc ?_ (by first | omega | (simp <;> omega)) _))).rd).mono ?_
      rintro e wB ⟨⟨z, rfl, hz⟩, hrB, hbB⟩
      have SB := (S4.more hrw (by repeat (first | with_reducible exact Below.refl _ _ | refine Below.drew ?_ | refine Below.alloc ?_ (by first | omega | (simp <;> omega)) _))).next hrw hbB hrB
      have szB := SB.size
      obtain ⟨yt, _, _, _, y4, y5, y6⟩ := SB.tree.at_ k x HX.out
      have hbB1 := SB.tree.lt
      go_wp2_with fail
      refine hK.out _ _ ?_ (fun hHeld => ?_)
      · exact SB.t
      clear hK K
      try simp only [Act.put]
      refine wpAnyH_take (i := 11) (oi := _) (v := ?vb11) rfl (by kernel_rfl) (by kernel_rfl) (by kernel_rfl) (fun _ _ _ h => h) (Or.inl ⟨by rfl, ?yb11⟩) (by assumption) ?rb11
      case yb11 => (intro w' hSw; (try dsimp only at hSw); go_simp; try with_reducible rfl)
      try simp only [Act.put]
      refine wpAnyH_ready (rs := [12]) (by kernel_rfl) (by simp) ?_
      refine AllReadyH.cons (o := _) rfl (fun K hK => ?_) AllReadyH.nil
      go_simp
      have SC := SB.more hrw (W' := wB.alloc (Obj.cells #[.string ⟨#[122, 122]⟩, .int .i64 z] 47)) ((Below.refl _ _).alloc (Nat.le_refl _) _)
      obtain ⟨_, _, _, _, c4, c5, _⟩ := SC.tree.at_ k x HX.out
      have hbC := SC.tree.lt
      have szC := SC.size
      refine hK.out _ _ ?_ (fun hHeld => ?_)
      · exact SC.t
      clear hK K
      try simp only [Act.put]
      refine wpAnyH_ready (rs := [13]) (by kernel_rfl) (by simp) ?_
      refine AllReadyH.cons (o := _) rfl (fun K hK => ?_) AllReadyH.nil
      refine step_app_kids _ rfl (.tmp 52) (.tmp 56) rfl (w.heap.size + 1) (vs k) x.kids [⟨⟨#[122, 122]⟩, z⟩] c5 ⟨wB.heap.size, 0, none⟩ 1 1 rfl (by simp [Act.eval]) (by simp [Act.eval]) (fun i u hu => two_at hu) (by have := HB.out.2.2.2.1; omega) (by omega) ?_
      intro v6 w6 hE
      obtain ⟨av, cv, hv6⟩ := hE.own.shape
      generalize hln : (x.kids ++ [(⟨⟨#[122, 122]⟩, (z : Int)⟩ : LEnt)]).length = ln at hv6
      subst hv6
      obtain ⟨d1, d2, d3, d4, S6⟩ := SC.kids (Nat.le_refl _) hrw HX.out (by simp [ByteArray.size]) hE (by have := HKL.out; omega)
      refine hK.out _ _ ?_ (fun hHeld => ?_)
      · exact d1
      clear hK K
      try simp only [Act.put]
      refine wpAnyH_take (i := 14) (oi := _) (v := ?vb14) rfl (by kernel_rfl) (by kernel_rfl) (by kernel_rfl) (fun _ _ _ h => h) (Or.inl ⟨by rfl, ?yb14⟩) (by assumption) ?rb14
      case yb14 => (intro w' hSw; (try dsimp only at hSw); go_simp; try with_reducible rfl)
      try simp only [Act.put]
      refine wpAnyH_take (i := 15) (oi := _) (v := ?vb15) rfl (by kernel_rfl) (by kernel_rfl) (by kernel_rfl) (fun _ _ _ h => h) (Or.inl ⟨by rfl, ?yb15⟩) (by assumption) ?rb15
      case yb15 => (intro w' hSw; (try dsimp only at hSw); go_simp; try with_reducible rfl)
      try simp only [Act.put]
      refine wpAnyH_ready (rs := [16]) (by kernel_rfl) (by simp) ?_
      refine AllReadyH.cons (o := _) rfl (fun K hK => ?_) AllReadyH.nil
      go_simp
      refine hK.out _ _ ?_ (fun hHeld => ?_)
      · exact S6.t
      clear hK K
      try simp only [Act.put]
      refine wpAnyH_done (by kernel_rfl) ?_ _
      go_upto_region 15 with fail
      have q6 := S6.t
      obtain ⟨⟨rv, hr0⟩, hr1, hr2, hz8⟩ := S6.box
      have hz7 := S6.size
      generalize hW6 : w6.setCell ⟨b, k * 4 + 3, none⟩ (.slice av ln cv) = W6 at *
      clear hW6
      go_wp2_with fail
      refine bodyPost_ret (v := .agg #[.slice (some ⟨b, 0, none⟩) 32 c]) (by rw [results, Try.results72]; simp [go_sem, World.cell?_setCell_same _ _ _ hr0]) rfl ?_
      exact S6.fin rfl hrw (by omega) _
    · go_simp
      go_at_call 110
      refine (pick_to rb (p + 150 + 1 + 1) 5 _ (by omega) (by omega) (by omega) (S4.more hrw (by repeat (first | with_reducible exact Below.refl _ _ | refine Below.drew ?_ | refine Below.alloc ?_ (by first | omega | (simp <;> omega)) _))).rd).mono ?_
      rintro e wB ⟨⟨z, rfl, hz⟩, hrB, hbB⟩
      have SB := (S4.more hrw (by repeat (first | with_reducible exact Below.refl _ _ | refine Below.drew ?_ | refine Below.alloc ?_ (by first | omega | (simp <;> omega)) _))).next hrw hbB hrB
      have szB := SB.size
      obtain ⟨yt, _, _, _, y4, y5, y6⟩ := SB.tree.at_ k x HX.out
      have hbB1 := SB.tree.lt
      go_wp2_with fail
      refine hK.out _ _ ?_ (fun hHeld => ?_)
      · exact SB.t
      clear hK K
      try simp only [Act.put]
      refine wpAnyH_take (i := 11) (oi := _) (v := ?vc11) rfl (by kernel_rfl) (by kernel_rfl) (by kernel_rfl) (fun _ _ _ h => h) (Or.inl ⟨by rfl, ?yc11⟩) (by assumption) ?rc11
      case yc11 => (intro w' hSw; (try dsimp only at hSw); go_simp; try with_reducible rfl)
      try simp only [Act.put]
      refine wpAnyH_ready (rs := [8, 12]) (by kernel_rfl) (by simp) ?_
      refine AllReadyH.cons (o := _) rfl (fun K hK => ?_) (AllReadyH.cons (o := _) rfl (fun K hK => ?_) AllReadyH.nil)
      · go_simp
        refine hK.out _ _ ?_ (fun hHeld => ?_)
        · first | exact q4 | exact SB.t | exact SC.t
        clear hK K
        try simp only [Act.put]
        refine wpAnyH_ready (rs := [12]) (by kernel_rfl) (by simp) ?_
        refine AllReadyH.cons (o := _) rfl (fun K hK => ?_) AllReadyH.nil
        go_simp
        have SC := SB.more hrw (W' := wB.alloc (Obj.cells #[.string ⟨#[122, 122]⟩, .int .i64 z] 47)) ((Below.refl _ _).alloc (Nat.le_refl _) _)
        obtain ⟨_, _, _, _, c4, c5, _⟩ := SC.tree.at_ k x HX.out
        have hbC := SC.tree.lt
        have szC := SC.size
        refine hK.out _ _ ?_ (fun hHeld => ?_)
        · exact SC.t
        clear hK K
        try simp only [Act.put]
        refine wpAnyH_ready (rs := [13]) (by kernel_rfl) (by simp) ?_
        refine AllReadyH.cons (o := _) rfl (fun K hK => ?_) AllReadyH.nil
        refine step_app_kids _ rfl (.tmp 52) (.tmp 56) rfl (w.heap.size + 1) (vs k) x.kids [⟨⟨#[122, 122]⟩, z⟩] c5 ⟨wB.heap.size, 0, none⟩ 1 1 rfl (by simp [Act.eval]) (by simp [Act.eval]) (fun i u hu => two_at hu) (by have := HB.out.2.2.2.1; omega) (by omega) ?_
        intro v6 w6 hE
        obtain ⟨av, cv, hv6⟩ := hE.own.shape
        generalize hln : (x.kids ++ [(⟨⟨#[122, 122]⟩, (z : Int)⟩ : LEnt)]).length = ln at hv6
        subst hv6
        obtain ⟨d1, d2, d3, d4, S6⟩ := SC.kids (Nat.le_refl _) hrw HX.out (by simp [ByteArray.size]) hE (by have := HKL.out; omega)
        refine hK.out _ _ ?_ (fun hHeld => ?_)
        · exact d1
        clear hK K
        try simp only [Act.put]
        refine wpAnyH_take (i := 14) (oi := _) (v := ?vd14) rfl (by kernel_rfl) (by kernel_rfl) (by kernel_rfl) (fun _ _ _ h => h) (Or.inl ⟨by rfl, ?yd14⟩) (by assumption) ?rd14
        case yd14 => (intro w' hSw; (try dsimp only at hSw); go_simp; try with_reducible rfl)
        try simp only [Act.put]
        refine wpAnyH_take (i := 15) (oi := _) (v := ?vd15) rfl (by kernel_rfl) (by kernel_rfl) (by kernel_rfl) (fun _ _ _ h => h) (Or.inl ⟨by rfl, ?yd15⟩) (by assumption) ?rd15
        case yd15 => (intro w' hSw; (try dsimp only at hSw); go_simp; try with_reducible rfl)
        try simp only [Act.put]
        refine wpAnyH_ready (rs := [16]) (by kernel_rfl) (by simp) ?_
        refine AllReadyH.cons (o := _) rfl (fun K hK => ?_) AllReadyH.nil
        go_simp
        refine hK.out _ _ ?_ (fun hHeld => ?_)
        · exact S6.t
        clear hK K
        try simp only [Act.put]
        refine wpAnyH_done (by kernel_rfl) ?_ _
        go_upto_region 15 with fail
        have q6 := S6.t
        obtain ⟨⟨rv, hr0⟩, hr1, hr2, hz8⟩ := S6.box
        have hz7 := S6.size
        generalize hW6 : w6.setCell ⟨b, k * 4 + 3, none⟩ (.slice av ln cv) = W6 at *
        clear hW6
        go_wp2_with fail
        refine bodyPost_ret (v := .agg #[.slice (some ⟨b, 0, none⟩) 32 c]) (by rw [results, Try.results72]; simp [go_sem, World.cell?_setCell_same _ _ _ hr0]) rfl ?_
        exact S6.fin rfl hrw (by omega) _
      · go_simp
        have SC := SB.more hrw (W' := wB.alloc (Obj.cells #[.string ⟨#[122, 122]⟩, .int .i64 z] 47)) ((Below.refl _ _).alloc (Nat.le_refl _) _)
        obtain ⟨_, _, _, _, c4, c5, _⟩ := SC.tree.at_ k x HX.out
        have hbC := SC.tree.lt
        have szC := SC.size
        refine hK.out _ _ ?_ (fun hHeld => ?_)
        · exact SC.t
        clear hK K
        try simp only [Act.put]
        refine wpAnyH_ready (rs := [8]) (by kernel_rfl) (by simp) ?_
        refine AllReadyH.cons (o := _) rfl (fun K hK => ?_) AllReadyH.nil
        go_simp
        refine hK.out _ _ ?_ (fun hHeld => ?_)
        · first | exact q4 | exact SB.t | exact SC.t
        clear hK K
        try simp only [Act.put]
        refine wpAnyH_ready (rs := [13]) (by kernel_rfl) (by simp) ?_
        refine AllReadyH.cons (o := _) rfl (fun K hK => ?_) AllReadyH.nil
        refine step_app_kids _ rfl (.tmp 52) (.tmp 56) rfl (w.heap.size + 1) (vs k) x.kids [⟨⟨#[122, 122]⟩, z⟩] c5 ⟨wB.heap.size, 0, none⟩ 1 1 rfl (by simp [Act.eval]) (by simp [Act.eval]) (fun i u hu => two_at hu) (by have := HB.out.2.2.2.1; omega) (by omega) ?_
        intro v6 w6 hE
        obtain ⟨av, cv, hv6⟩ := hE.own.shape
        generalize hln : (x.kids ++ [(⟨⟨#[122, 122]⟩, (z : Int)⟩ : LEnt)]).length = ln at hv6
        subst hv6
        obtain ⟨d1, d2, d3, d4, S6⟩ := SC.kids (Nat.le_refl _) hrw HX.out (by simp [ByteArray.size]) hE (by have := HKL.out; omega)
        refine hK.out _ _ ?_ (fun hHeld => ?_)
        · exact d1
        clear hK K
        try simp only [Act.put]
        refine wpAnyH_take (i := 14) (oi := _) (v := ?ve14) rfl (by kernel_rfl) (by kernel_rfl) (by kernel_rfl) (fun _ _ _ h => h) (Or.inl ⟨by rfl, ?ye14⟩) (by assumption) ?re14
        case ye14 => (intro w' hSw; (try dsimp only at hSw); go_simp; try with_reducible rfl)
        try simp only [Act.put]
        refine wpAnyH_take (i := 15) (oi := _) (v := ?ve15) rfl (by kernel_rfl) (by kernel_rfl) (by kernel_rfl) (fun _ _ _ h => h) (Or.inl ⟨by rfl, ?ye15⟩) (by assumption) ?re15
        case ye15 => (intro w' hSw; (try dsimp only at hSw); go_simp; try with_reducible rfl)
        try simp only [Act.put]
        refine wpAnyH_ready (rs := [16]) (by kernel_rfl) (by simp) ?_
        refine AllReadyH.cons (o := _) rfl (fun K hK => ?_) AllReadyH.nil
        go_simp
        refine hK.out _ _ ?_ (fun hHeld => ?_)
        · exact S6.t
        clear hK K
        try simp only [Act.put]
        refine wpAnyH_done (by kernel_rfl) ?_ _
        go_upto_region 15 with fail
        have q6 := S6.t
        obtain ⟨⟨rv, hr0⟩, hr1, hr2, hz8⟩ := S6.box
        have hz7 := S6.size
        generalize hW6 : w6.setCell ⟨b, k * 4 + 3, none⟩ (.slice av ln cv) = W6 at *
        clear hW6
        go_wp2_with fail
        refine bodyPost_ret (v := .agg #[.slice (some ⟨b, 0, none⟩) 32 c]) (by rw [results, Try.results72]; simp [go_sem, World.cell?_setCell_same _ _ _ hr0]) rfl ?_
        exact S6.fin rfl hrw (by omega) _
  by_cases y3 : y = 3
  · subst y3
    clear x1 x2 x4 y4 y0 y1 y2
    go_upto_region 14 with fail
    go_region_held3 (fun w' => w'.cell? ⟨T, 0, none⟩ = some (.slice (some ⟨b, 0, none⟩) 32 c)) (first | go_keep | exact SB.t | (rw [World.cell?_setCell_other _ _ _ _ (by simp [nT])]; exact SB.t))
      (first
        | (go_at_call 92; refine (of_to rb (p + 150 + 1 + 1) _ 2 2 4 _ (by omega) (by omega) (by omega) (by first | omega | (simp; omega)) (S4.more hrw (by repeat (first | with_reducible exact Below.refl _ _ | refine Below.drew ?_ | refine Below.alloc ?_ (by first | omega | (simp <;> omega)) _))).rd (by intro i hi; match i, hi with | 0, _ => exact ⟨⟨#[65]⟩, by simp [go_sem], by simp [ByteArray.size]⟩ | 1, _ => exact ⟨⟨#[120]⟩, by simp [go_sem], by simp [ByteArray.size]⟩)).mono ?_; rintro e wB ⟨⟨z, rfl, hz⟩, hrB, hbB⟩; have SB := (S4.more hrw (by repeat (first | with_reducible exact Below.refl _ _ | refine Below.drew ?_ | refine Below.alloc ?_ (by first | omega | (simp <;> omega)) _))).next hrw hbB hrB; obtain ⟨_, _, _, y2, _⟩ := SB.tree.at_ k x HX.out; have zB := SB.tree.frozen (k * 4 + 2); have hlB := SB.tree.lt))
    all_goals
      go_upto_region 15 with fail
      have S6 := SB.set (Nat.le_refl _) hrw (k * 4 + 2) (.string z) (SB.tree.setText HX.out z (le_maxLen4 hz)) (by simp) (SB.bn.set k ⟨HB.out.1, HB.out.2.1, hz, HB.out.2.2.2.1, HB.out.2.2.2.2⟩)
      have q6 := S6.t
      obtain ⟨⟨rv, hr0⟩, hr1, hr2, hz8⟩ := S6.box
      have hz7 := S6.size
      generalize hW6 : wB.setCell ⟨b, k * 4 + 2, none⟩ (.string z) = W6 at *
      clear hW6
      go_wp2_with fail
      refine bodyPost_ret (v := .agg #[.slice (some ⟨b, 0, none⟩) 32 c]) (by rw [results, Try.results72]; simp [go_sem, World.cell?_setCell_same _ _ _ hr0]) rfl ?_
      exact S6.fin rfl hrw (by omega) _
  have t4 : ((y : Int) == 4) = false := by simp; omega
  have t0 : ((y : Int) == 0) = false := by simp; omega
  have t1 : ((y : Int) == 1) = false := by simp; omega
  have t2 : ((y : Int) == 2) = false := by simp; omega
  have t3 : ((y : Int) == 3) = false := by simp; omega
  clear x1 x2 x3 x4
  go_wp2_with fail
  refine bodyPost_ret (v := .agg #[.slice (some ⟨b, 0, none⟩) 32 c]) (by rw [results, Try.results72]; simp [go_sem, World.cell?_setCell_same _ _ _ hr4]) rfl ?_
  exact S4.fin rfl hrw (by omega) _
end Go.Proofs.Ytjenldenggaljaa
