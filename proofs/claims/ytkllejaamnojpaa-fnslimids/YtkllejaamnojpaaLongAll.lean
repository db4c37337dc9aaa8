import Derived.Test.YtkllejaamnojpaaDrawn
import Derived.Test.YtkllejaamnojpaaSlimI11
import Derived.Deep.CutBlock
import Derived.Test.YtkllejaamnojpaaSlimS3
import Derived.Test.YtkllejaamnojpaaSlimF
import Derived.Test.YtkllejaamnojpaaReader
import Derived.Test.YtkllejaamnojpaaOpen
import Derived.OpenShut
import Derived.Test.YtkllejaamnojpaaSlimS5
import Derived.Test.YtkllejaamnojpaaSlimX

/- A long list as it is drawn: what holds in the midst of it. -/
namespace Go.Proofs.Ytkllejaamnojpaa
open Go.RowKit

theorem box_keep {W W' : World} {q B : Nat} {u : Value} {l : List LOp} {f : Nat → Value} (h : W.rowIs q 34 1 f) (ho : OwnOps W B u l) (hg : W.grownBy W' u.ownBlock) : W'.rowIs q 34 1 f := by
  have hlt := h.lt
  obtain ⟨cs, h1, h2⟩ := h
  refine World.rowIs.of_block ⟨cs, h1, h2⟩ (hg.block q hlt fun e => ?_)
  rcases ho.2 with ⟨rfl, _⟩ | ⟨g, cap, cur, rfl, _, hgg, _⟩
  · simp [Value.ownBlock] at e
  · simp [Value.ownBlock] at e
    subst e
    rw [hgg] at h1
    simp at h1
/-- In the midst of drawing: the reader, the boxes, the tree, what was done. -/
structure LS (w W : World) (rb P q2 q4 q5 b c K : Nat) (u : Value) (os : List LObj) (vs : Nat → Value) (out : List LOp) : Prop where
  lo : rb < w.heap.size
  but : But rb w W
  rd : RdTo W rb P
  r2 : ∃ f, W.rowIs q2 34 1 f
  r4 : ∃ a n c, W.rowIs q4 34 1 (fun _ => .slice a n c)
  r5 : W.rowIs q5 34 1 (fun _ => .slice (some ⟨b, 0, none⟩) 32 c)
  l2 : w.heap.size ≤ q2
  l4 : w.heap.size ≤ q4
  l5 : w.heap.size ≤ q5
  n25 : q2 ≠ q5
  n45 : q4 ≠ q5
  tree : OwnT W w.heap.size b c os vs
  len : os.length = 32
  sm : Sm os K
  list : OwnOps W w.heap.size u out
  lsm : ∀ o ∈ out, DoneOp o
section
variable {w W W' : World} {rb P P' q2 q4 q5 b c K : Nat} {u v : Value} {os : List LObj} {vs : Nat → Value} {out news : List LOp}
theorem LS.next (h : LS w W rb P q2 q4 q5 b c K u os vs out) (hb : But rb W W') (hr : RdTo W' rb P') : LS w W' rb P' q2 q4 q5 b c K u os vs out := by
  obtain ⟨f2, h2⟩ := h.r2
  obtain ⟨a4', n4, c4, h4⟩ := h.r4
  have hlo := h.lo
  have a2 := h.l2
  have a4 := h.l4
  have a5 := h.l5
  exact ⟨h.lo, h.but.trans hb, hr, ⟨f2, h2.of_block (hb.block _ (by omega) h2.lt)⟩, ⟨a4', n4, c4, h4.of_block (hb.block _ (by omega) h4.lt)⟩, h.r5.of_block (hb.block _ (by omega) h.r5.lt), h.l2, h.l4, h.l5, h.n25, h.n45, h.tree.but hb h.lo, h.len, h.sm,
    World.ownsRow.kept h.list hb.grown (.inr fun e => by have := (h.list.lt rb e).1; omega), h.lsm⟩
theorem LS.more (h : LS w W rb P q2 q4 q5 b c K u os vs out) (hb : Below W.heap.size W W') : LS w W' rb P q2 q4 q5 b c K u os vs out :=
  h.next (But.of_below (by have := h.lo; have := h.but.below.size; have := h.r5.lt; have := h.l5; omega) hb) (h.rd.but hb (by have := h.lo; have := h.r5.lt; have := h.l5; omega))
theorem LS.on (h : LS w W rb P q2 q4 q5 b c K u os vs out) {K' : Nat} (hP : P ≤ P') (hK : K ≤ K') : LS w W rb P' q2 q4 q5 b c K' u os vs out := by
  obtain ⟨q, hq, R⟩ := h.rd
  exact ⟨h.lo, h.but, ⟨q, by omega, R⟩, h.r2, h.r4, h.r5, h.l2, h.l4, h.l5, h.n25, h.n45, h.tree, h.len, h.sm.mono hK, h.list, h.lsm⟩
theorem LS.size (h : LS w W rb P q2 q4 q5 b c K u os vs out) : w.heap.size < W.heap.size := by have := h.r5.lt; have := h.l5; omega
theorem LS.app (h : LS w W rb P q2 q4 q5 b c K u os vs out) (hE : AppOEnd W W' w.heap.size u v (out ++ news)) (hn : ∀ o ∈ news, DoneOp o) : LS w W' rb P q2 q4 q5 b c K v os vs (out ++ news) := by
  obtain ⟨f2, h2⟩ := h.r2
  obtain ⟨a4', n4, c4, h4⟩ := h.r4
  obtain ⟨q, hq, R⟩ := h.rd
  have hs := h.size
  have hA0 : Below w.heap.size W W' := below_grown (Below.refl _ _) hE.grown (fun k hk => (h.list.lt k hk).1) (by omega)
  refine ⟨h.lo, ⟨h.but.below.trans (hA0.mono (by have := h.lo; omega)), fun k hk hlt => (hA0.block k (by omega)).trans (h.but.block k hk hlt)⟩, ⟨q, hq, R.below hA0 h.lo⟩, ⟨f2, box_keep h2 h.list hE.grown⟩, ⟨a4', n4, c4, box_keep h4 h.list hE.grown⟩, box_keep h.r5 h.list hE.grown, h.l2, h.l4, h.l5, h.n25, h.n45, h.tree.ops h.list hE.grown, h.len, h.sm, hE.own, fun x hx => ?_⟩
  rcases List.mem_append.1 hx with h1 | h1
  · exact h.lsm x h1
  · exact hn x h1
theorem LS.store {b' c' K' : Nat} {os' : List LObj} {vs' : Nat → Value} (h : LS w W rb P q2 q4 q5 b c K u os vs out) (hT : OwnT W w.heap.size b' c' os' vs') (hl : os'.length = 32) (hs : Sm os' K') : LS w (W.setCell ⟨q5, 0, none⟩ (.slice (some ⟨b', 0, none⟩) 32 c')) rb P q2 q4 q5 b' c' K' u os' vs' out := by
  obtain ⟨f2, h2⟩ := h.r2
  obtain ⟨a4', n4, c4, h4⟩ := h.r4
  obtain ⟨q, hq, R⟩ := h.rd
  have a5 := h.l5
  have hlo := h.lo
  have hg : W.grownBy (W.setCell ⟨q5, 0, none⟩ (.slice (some ⟨b', 0, none⟩) 32 c')) (some q5) := ⟨rfl, rfl, rfl, by simp, fun i _ hi => Below.heap_setCell W ⟨q5, 0, none⟩ _ i (by intro e; exact hi (by simp [e]))⟩
  have hA0 : Below w.heap.size W (W.setCell ⟨q5, 0, none⟩ (.slice (some ⟨b', 0, none⟩) 32 c')) := (Below.refl _ _).setCell (by simpa using h.l5) _
  have hneq : u.ownBlock ≠ some q5 := fun e => by
    rcases h.list.2 with ⟨hn, _⟩ | ⟨g, cap, cur, hn, _, hgg, _⟩
    · rw [hn] at e; simp [Value.ownBlock] at e
    · rw [hn] at e
      simp [Value.ownBlock] at e
      subst e
      obtain ⟨cs, h1, _⟩ := h.r5
      rw [hgg] at h1
      simp at h1
  refine ⟨h.lo, ⟨h.but.below.trans (hA0.mono (by omega)), fun k hk hlt => (hA0.block k hlt).trans (h.but.block k hk hlt)⟩, ⟨q, hq, R.below hA0 h.lo⟩, ⟨f2, h2.of_block (Below.heap_setCell W ⟨q5, 0, none⟩ _ _ (by simpa using h.n25))⟩, ⟨a4', n4, c4, h4.of_block (Below.heap_setCell W ⟨q5, 0, none⟩ _ _ (by simpa using h.n45))⟩, ?_, h.l2, h.l4, h.l5, h.n25, h.n45, hT.setBox ⟨_, h.r5⟩ 0 _, hl, hs, World.ownsRow.kept h.list hg (.inr hneq), h.lsm⟩
  refine (h.r5.set 0 _).congr fun i hi => ?_
  have : i = 0 := by omega
  subst this
  rfl
end
section
variable {ops : Array Oper} {ac : Act} {K : Act → World → Prop} {Q : Exit → Act → World → Prop} {E : Prop} {ty : TypeId} {ps : String} {af : Array Edge}
theorem st_alloc53 (W : World) (d : Nat)
    (h : ∀ q W', q = W.heap.size → Below W.heap.size W W' → W'.rowIs q 34 1 (zrow #[.slice none 0 0]) → K (ac.put (some d) (.pointer (some ⟨q, 0, none⟩))) W') :
    if Region.wanted { dst := some d, op := .alloc 34, type := ty, pos := ps, after := af, guard := none } (yielded ops ac.tmps) = true then Oper.wp Try.prog { dst := some d, op := .alloc 34, type := ty, pos := ps, after := af, guard := none } ac W K Q else E := by
  rw [if_pos (by simp [Region.wanted])]
  have := h W.heap.size (W.alloc (.cells #[.slice none 0 0] 34)) rfl ((Below.refl _ _).alloc (Nat.le_refl _) _) (zrow_new W _ 34)
  unfold Oper.wp
  go_simp
  exact this
theorem st_store53 (W : World) (tp tv : Nat) (q : Nat) (x : Value) (f : Nat → Value) (hp : ac.tmps[tp]?.getD undef = .pointer (some ⟨q, 0, none⟩)) (a : Option Addr) (n c : Nat) (hx : x = .slice a n c) (hv : ac.tmps[tv]?.getD undef = .agg #[x]) (hr : W.rowIs q 34 1 f)
    (h : ∀ W', But q W W' → W' = W.setCell ⟨q, 0, none⟩ x → W'.cell? ⟨q, 0, none⟩ = some x → K ac W') :
    if Region.wanted { dst := none, op := .store 34 (.tmp tp) (.tmp tv), type := ty, pos := ps, after := af, guard := none } (yielded ops ac.tmps) = true then Oper.wp Try.prog { dst := none, op := .store 34 (.tmp tp) (.tmp tv), type := ty, pos := ps, after := af, guard := none } ac W K Q else E := by
  rw [if_pos (by simp [Region.wanted])]
  subst hx
  have c0 := hr.cell (i := 0) (by omega)
  have z0 := hr.frozen 0
  have r2 := hr.set 0 (.slice a n c)
  have := h (W.setCell ⟨q, 0, none⟩ (.slice a n c)) ((But.refl q W).set _ _) rfl (by rw [r2.cell (by omega)]; rfl)
  clear h hr r2
  unfold Oper.wp
  go_simp
  exact this
end
end Go.Proofs.Ytkllejaamnojpaa


/- A long list as it is drawn: more steps. -/
namespace Go.Proofs.Ytkllejaamnojpaa
open Go.RowKit

section
variable {ops : Array Oper} {ac : Act} {K : Act → World → Prop} {Q : Exit → Act → World → Prop} {E : Prop} {ty : TypeId} {ps : String} {af : Array Edge}
theorem st_build27 (W : World) (d t : Nat) (x : Int) (hx : ac.tmps[t]?.getD undef = .int .i64 x)
    (h : ∀ q W', q = W.heap.size → Below W.heap.size W W' → W'.cell? ⟨q, 0, none⟩ = some (.int .i64 x) → W'.cell? ⟨q, 1, none⟩ = some (.int .i64 0) → K (ac.put (some d) (.slice (some ⟨q, 0, none⟩) 2 2)) W') :
    if Region.wanted { dst := some d, op := .buildSlice 27 2 #[(0, .tmp t), (1, .const (.int .i64 0))], type := ty, pos := ps, after := af, guard := none } (yielded ops ac.tmps) = true then Oper.wp Try.prog { dst := some d, op := .buildSlice 27 2 #[(0, .tmp t), (1, .const (.int .i64 0))], type := ty, pos := ps, after := af, guard := none } ac W K Q else E := by
  rw [if_pos (by simp [Region.wanted])]
  have := h W.heap.size (W.alloc (.cells #[.int .i64 x, .int .i64 0] 3)) rfl ((Below.refl _ _).alloc (Nat.le_refl _) _) (by simp [go_sem]) (by simp [go_sem])
  unfold Oper.wp
  go_simp
  exact this
theorem st_build80 (W : World) (d t : Nat) (x : ByteArray) (hx : ac.tmps[t]?.getD undef = .string x)
    (h : ∀ q W', q = W.heap.size → Below W.heap.size W W' → W'.cell? ⟨q, 0, none⟩ = some (.string x) → W'.cell? ⟨q, 1, none⟩ = some (.string ⟨#[107]⟩) → W'.cell? ⟨q, 2, none⟩ = some (.string ⟨#[109]⟩) → K (ac.put (some d) (.slice (some ⟨q, 0, none⟩) 3 3)) W') :
    if Region.wanted { dst := some d, op := .buildSlice 141 3 #[(0, .tmp t), (1, .const (.string ⟨#[107]⟩)), (2, .const (.string ⟨#[109]⟩))], type := ty, pos := ps, after := af, guard := none } (yielded ops ac.tmps) = true then Oper.wp Try.prog { dst := some d, op := .buildSlice 141 3 #[(0, .tmp t), (1, .const (.string ⟨#[107]⟩)), (2, .const (.string ⟨#[109]⟩))], type := ty, pos := ps, after := af, guard := none } ac W K Q else E := by
  rw [if_pos (by simp [Region.wanted])]
  have := h W.heap.size (W.alloc (.cells #[.string x, .string ⟨#[107]⟩, .string ⟨#[109]⟩] 9)) rfl ((Below.refl _ _).alloc (Nat.le_refl _) _) (by simp [go_sem]) (by simp [go_sem]) (by simp [go_sem])
  unfold Oper.wp
  go_simp
  exact this
theorem st_build80b (W : World) (d : Nat)
    (h : ∀ q W', q = W.heap.size → Below W.heap.size W W' → W'.cell? ⟨q, 0, none⟩ = some (.string ⟨#[110, 101, 119]⟩) → W'.cell? ⟨q, 1, none⟩ = some (.string ⟨#[120]⟩) → K (ac.put (some d) (.slice (some ⟨q, 0, none⟩) 2 2)) W') :
    if Region.wanted { dst := some d, op := .buildSlice 141 2 #[(0, .const (.string ⟨#[110, 101, 119]⟩)), (1, .const (.string ⟨#[120]⟩))], type := ty, pos := ps, after := af, guard := none } (yielded ops ac.tmps) = true then Oper.wp Try.prog { dst := some d, op := .buildSlice 141 2 #[(0, .const (.string ⟨#[110, 101, 119]⟩)), (1, .const (.string ⟨#[120]⟩))], type := ty, pos := ps, after := af, guard := none } ac W K Q else E := by
  rw [if_pos (by simp [Region.wanted])]
  have := h W.heap.size (W.alloc (.cells #[.string ⟨#[110, 101, 119]⟩, .string ⟨#[120]⟩] 9)) rfl ((Below.refl _ _).alloc (Nat.le_refl _) _) (by simp [go_sem]) (by simp [go_sem])
  unfold Oper.wp
  go_simp
  exact this
end
theorem box_Kt {V V' : World} {q B b c : Nat} {os : List LObj} {vs f : Nat → Value} (h : V.rowIs q 34 1 f) (hT : OwnT V B b c os vs) (hl : os.length = 32) (hk : Kt V V' b 32 vs) : V'.rowIs q 34 1 f := by
  have hlt := h.lt
  obtain ⟨cs, h1, h2⟩ := h
  refine World.rowIs.of_block ⟨cs, h1, h2⟩ (hk q hlt (fun e => ?_) fun i hi e => ?_)
  · subst e
    obtain ⟨cur, hg, _⟩ := hT.row
    rw [hg] at h1
    simp at h1
  · have ho := (hT.at_ i (os[i]'(by omega)) (by simp)).2.2.2.2.2.1
    rcases ho.2 with ⟨hn, _⟩ | ⟨g, cap, cur, hn, _, hgg, _⟩
    · rw [hn] at e; simp [Value.ownBlock] at e
    · rw [hn] at e
      simp [Value.ownBlock] at e
      subst e
      rw [hgg] at h1
      simp at h1
theorem BoxAt.next {W W' : World} {q : Nat} {o : LOp} (h : BoxAt W q o) (hq : q < W.heap.size) (hb : Below W.heap.size W W') : BoxAt W' q o := h.of (hb.block q hq)

theorem RdTo.set {V : World} {rb P q : Nat} (h : RdTo V rb P) (hq : rb < q) (x : Value) : RdTo (V.setCell ⟨q, 0, none⟩ x) rb P := by
  obtain ⟨p, hp, R⟩ := h
  exact ⟨p, hp, R.below ((Below.refl q V).setCell (by simp) x) hq⟩
theorem OwnOps.setBox {V : World} {B q : Nat} {l : Value} {ops : List LOp} {f : Nat → Value} (h : OwnOps V B l ops) (hr : V.rowIs q 34 1 f) (x : Value) : OwnOps (V.setCell ⟨q, 0, none⟩ x) B l ops := by
  have hg : V.grownBy (V.setCell ⟨q, 0, none⟩ x) (some q) := ⟨rfl, rfl, rfl, by simp, fun i _ hi => Below.heap_setCell V ⟨q, 0, none⟩ _ i (by intro e; exact hi (by simp [e]))⟩
  refine World.ownsRow.kept h hg (.inr fun e => ?_)
  rcases h.2 with ⟨hn, _⟩ | ⟨g, cap, cur, hn, _, hgg, _⟩
  · rw [hn] at e; simp [Value.ownBlock] at e
  · rw [hn] at e
    simp [Value.ownBlock] at e
    subst e
    obtain ⟨cs, h1, _⟩ := hr
    rw [hgg] at h1
    simp at h1
theorem But.setNew {V0 V : World} {rb q : Nat} (h : But rb V0 V) (hq : V0.heap.size ≤ q) (hr : rb < q) (x : Value) : But rb V0 (V.setCell ⟨q, 0, none⟩ x) :=
  ⟨h.below.trans ((Below.refl _ _).setCell (by show rb ≤ q; omega) x), fun k hk hlt => ((Below.heap_setCell V ⟨q, 0, none⟩ _ k (by show k ≠ q; omega))).trans (h.block k hk hlt)⟩
end Go.Proofs.Ytkllejaamnojpaa


/- A long list as it is drawn. -/
namespace Go.Proofs.Ytkllejaamnojpaa
open Go.RowKit

theorem But.setOther {X W W' : World} {rb q : Nat} (h : But rb X W) (hq : X.heap.size ≤ q) (hr : rb < q) (k : But q W W') : But rb X W' :=
  ⟨h.below.trans (k.below.mono (by omega)), fun i hi hlt => (k.block i (by omega) (by have := h.below.size; omega)).trans (h.block i hi hlt)⟩
theorem RdTo.setOther {W W' : World} {rb P q : Nat} (h : RdTo W rb P) (hr : rb < q) (k : But q W W') : RdTo W' rb P := by
  obtain ⟨p, hp, R⟩ := h
  exact ⟨p, hp, R.below k.below hr⟩

def LongEnd (w : World) (rb P : Nat) (e : Ending) (w' : World) : Prop := ∃ ta tn tc u out, e = .returned (.tuple #[.agg #[.slice ta tn tc], u]) ∧ OwnOps w' w.heap.size u out ∧ out.length ≤ 60 ∧ (∀ o ∈ out, DoneOp o) ∧ RdTo w' rb P ∧ But rb w w'
set_option maxHeartbeats 8000000 in
set_option maxRecDepth 20000 in
theorem long_any (rb p : Nat) (w : World) (hp : p ≤ 900000) (hrw : rb < w.heap.size) (R : RdTo w rb p) :
    Calls Try.prog 78 #[.pointer (some ⟨rb, 0, none⟩)] w fun e w' => LongEnd w rb (p + 600) e w' := by
  have hA : Below w.heap.size w (w.alloc (Obj.cells #[.slice none 0 0] 34)) := (Below.refl _ _).alloc (Nat.le_refl _) _
  go_enter Try.func78, Try.ntmps78
  go_wp2_with fail
  refine (tree_any rb p _ (by omega) (by simp; omega) (R.but hA hrw)).mono ?_
  rintro e W1 ⟨b, c, os, vs, rfl, hT, hl, hs, hr, hb⟩
  have hz1 : w.heap.size + 1 ≤ W1.heap.size := by have := hb.below.size; simp at this; omega
  have hq2 : W1.rowIs w.heap.size 34 1 (fun _ => .slice none 0 0) := (row1 w _ 34).of_block (hb.block _ (by omega) (by simp))
  have hBw : But rb w W1 := (But.of_below hrw hA).trans hb
  clear hb hA R
  go_wp2_with fail
  have hLS : LS w ((((W1.alloc (Obj.cells #[.slice (some ⟨b, 0, none⟩) 32 c] 34)).alloc (Obj.cells #[.slice (some ⟨b, 0, none⟩) 32 c] 34)).alloc (Obj.cells #[] 30)).alloc (Obj.cells #[.int .i64 2, .int .i64 6, .int .i64 10] 3)) rb (p + 150) w.heap.size W1.heap.size (W1.heap.size + 1) b c 60 (.slice (some ⟨W1.heap.size + 1 + 1, 0, none⟩) 0 0) os vs [] := by
    have b1 : Below W1.heap.size W1 (((W1.alloc (Obj.cells #[.slice (some ⟨b, 0, none⟩) 32 c] 34)).alloc (Obj.cells #[.slice (some ⟨b, 0, none⟩) 32 c] 34)).alloc (Obj.cells #[] 30)) := (((Below.refl _ _).alloc (Nat.le_refl _) _).alloc (by simp) _).alloc (by simp; omega) _
    have b2 := b1.alloc (by simp; omega) (Obj.cells #[.int .i64 2, .int .i64 6, .int .i64 10] 3)
    have e1 := row1 W1 (.slice (some ⟨b, 0, none⟩) 32 c) 34
    have e2 := row1 (W1.alloc (Obj.cells #[.slice (some ⟨b, 0, none⟩) 32 c] 34)) (.slice (some ⟨b, 0, none⟩) 32 c) 34
    refine ⟨hrw, hBw.next (by omega) b2, hr.but b2 (by omega), ⟨_, hq2.of_block (b2.block _ (by omega))⟩, ⟨_, _, _, ((e1.alloc _).alloc _).alloc _⟩, by simpa using (e2.alloc _).alloc _, Nat.le_refl _, by omega, by omega, by omega, by omega, (hT.base (by simp)).below b2, hl, hs, ?_, fun o ho => by cases ho⟩
    have := OwnOps.empty ((W1.alloc (Obj.cells #[.slice (some ⟨b, 0, none⟩) 32 c] 34)).alloc (Obj.cells #[.slice (some ⟨b, 0, none⟩) 32 c] 34)) w.heap.size (by simp; omega)
    have h3 : OwnOps ((((W1.alloc (Obj.cells #[.slice (some ⟨b, 0, none⟩) 32 c] 34)).alloc (Obj.cells #[.slice (some ⟨b, 0, none⟩) 32 c] 34)).alloc (Obj.cells #[] 30)).alloc (Obj.cells #[.int .i64 2, .int .i64 6, .int .i64 10] 3)) w.heap.size (.slice (some ⟨((W1.alloc (Obj.cells #[.slice (some ⟨b, 0, none⟩) 32 c] 34)).alloc (Obj.cells #[.slice (some ⟨b, 0, none⟩) 32 c] 34)).heap.size, 0, none⟩) 0 0) [] := World.ownsRow.alloc this _
    simpa using h3
  refine (num_to (fun z => 0 ≤ z ∧ z ≤ 10) rb (p + 150) (W1.heap.size + 1 + 1 + 1) 3 3 _ (by omega) (by omega) (by omega) (by omega) hLS.rd ?_).mono ?_
  · intro i hi
    match i, hi with
    | 0, _ => exact ⟨2, by simp [go_sem], by omega, by omega⟩
    | 1, _ => exact ⟨6, by simp [go_sem], by omega, by omega⟩
    | 2, _ => exact ⟨10, by simp [go_sem], by omega, by omega⟩
  rintro e W2 ⟨⟨z, rfl, hz⟩, hr2, hb2⟩
  obtain ⟨n, rfl⟩ : ∃ n : Nat, z = n := ⟨z.toNat, by omega⟩
  have HL0 : Hid (LS w W2 rb (p + 151) w.heap.size W1.heap.size (W1.heap.size + 1) b c 60 (.slice (some ⟨W1.heap.size + 1 + 1, 0, none⟩) 0 0) os vs []) := hLS.next hb2 hr2
  clear hLS hb2 hr2 hq2 hBw hT hl hs hr
  generalize W1.heap.size = q4 at *
  obtain ⟨q5, hq5⟩ : ∃ q5, q5 = q4 + 1 := ⟨_, rfl⟩
  rw [← hq5] at HL0 ⊢
  have h45 : q4 ≠ q5 := by omega
  clear hq5
  go_wp2_with fail
  go_loopg [6, 7] n (fun g v i wr => ∃ j : Nat, j ≤ 10 ∧ Hid (g = j) ∧ i = .int .i64 j ∧ ∃ b' c' os' vs' out, Hid (LS w wr rb (p + 151 + 40 * (10 - j)) w.heap.size q4 q5 b' c' (60 + 15 * (10 - j)) v os' vs' out ∧ out.length ≤ 1001 * (10 - j)))
  case atStart => exact ⟨n, by omega, rfl, rfl, b, c, os, vs, [], HL0.out.on (by omega) (by omega), by simp⟩
  case round =>
    obtain ⟨j, hj, hg, rfl, b1, c1, os1, vs1, out, HG⟩ := hrel
    have HLS : Hid (LS w wr rb (p + 151 + 40 * (10 - j)) w.heap.size q4 q5 b1 c1 (60 + 15 * (10 - j)) _ os1 vs1 out) := HG.out.1
    have hlen : out.length ≤ 1001 * (10 - j) := HG.out.2
    clear HG HL0
    by_cases hlt : 0 < j
    · have hltI : (0 : Int) < (j : Int) := by omega
      have s5 : wr.cell? ⟨q5, 0, none⟩ = some (.slice (some ⟨b1, 0, none⟩) 32 c1) := HLS.out.r5.cell (by omega)
      have hq5l := HLS.out.r5.lt
      have hq5w := HLS.out.l5
      have hsz := HLS.out.size
      have hBt : But rb wr wr.drew := But.of_below (by omega) (Below.refl _ _).drew
      have hRd : RdTo wr.drew rb (p + 151 + 40 * (10 - j)) := HLS.out.rd.but (Below.refl _ _).drew (by omega)
      go_upto_region 7 with fail
      go_cut [8, 9] (fun s8 s9 wx => ∃ q8 b2 c2 os2 vs2 l2 ops2, s8 = .pointer (some ⟨q8, 0, none⟩) ∧ s9 = l2 ∧ wx.cell? ⟨q8, 0, none⟩ = some (.slice (some ⟨b2, 0, none⟩) 32 c2) ∧ LS w wx rb (p + 151 + 40 * (10 - j) + 37) w.heap.size q4 q5 b1 c1 (60 + 15 * (10 - j)) u6 os1 vs1 out ∧ OwnT wx w.heap.size b2 c2 os2 vs2 ∧ os2.length = 32 ∧ Sm os2 (60 + 15 * (10 - j) + 12) ∧ OwnOps wx wr.heap.size l2 ops2 ∧ ops2.length ≤ 1000 ∧ ∀ o ∈ ops2, DoneOp o)
      case first =>
        refine wp_region_held_drew (S := (fun W => W.cell? ⟨q5, 0, none⟩ = some (.slice (some ⟨b1, 0, none⟩) 32 c1))) (by kernel_rfl) ?_ (fun hHeld => ?_)
        · exact s5
        refine listH (l2 := #[false, false, false, false, false, false, false, false, false, false, false, false]) (by kernel_rfl) ?_
        refine takeH (i := 0) (oi := _) (v := ?vk1) 26 #[true, false, false, false, false, false, false, false, false, false, false, false] rfl (by kernel_rfl) (by kernel_rfl) (by kernel_rfl) rfl (by kernel_rfl) (fun _ _ _ h => h) (Or.inl ⟨by rfl, ?yk1⟩) (by assumption) ?rk1
        case yk1 => (intro w' hSw; go_simp; try with_reducible rfl)
        simp only [Act.put, List.setIfInBounds_toArray, List.set_cons_succ, List.set_cons_zero]
        refine takeH (i := 1) (oi := _) (v := ?vk2) 27 #[true, true, false, false, false, false, false, false, false, false, false, false] rfl (by kernel_rfl) (by kernel_rfl) (by kernel_rfl) rfl (by kernel_rfl) (fun _ _ _ h => h) (Or.inl ⟨by rfl, ?yk2⟩) (by assumption) ?rk2
        case yk2 => (intro w' hSw; go_simp; try with_reducible rfl)
        simp only [Act.put, List.setIfInBounds_toArray, List.set_cons_succ, List.set_cons_zero]
        refine takeH (i := 2) (oi := _) (v := ?vk3) 28 #[true, true, true, false, false, false, false, false, false, false, false, false] rfl (by kernel_rfl) (by kernel_rfl) (by kernel_rfl) rfl (by kernel_rfl) (fun _ _ _ h => h) (Or.inl ⟨by rfl, ?yk3⟩) (by assumption) ?rk3
        case yk3 => (intro w' hSw; go_simp; try with_reducible rfl)
        simp only [Act.put, List.setIfInBounds_toArray, List.set_cons_succ, List.set_cons_zero]
        refine wpAnyH_ready (rs := [3, 9]) (by kernel_rfl) (by simp) ?_
        refine AllReadyH.cons (o := _) rfl (fun K hK => ?_) (AllReadyH.cons (o := _) rfl (fun K hK => ?_) AllReadyH.nil)
        · go_simp
          refine (pick_to rb (p + 151 + 40 * (10 - j)) 4 _ (by omega) (by omega) (by omega) hRd).mono ?_
          rintro e V3 ⟨⟨k, rfl, hk4⟩, hRd, hb3⟩
          have hBt := hBt.trans hb3
          clear hb3
          go_wp2_with fail
          refine hK.out _ _ (by rw [hBt.cell (by simp; omega) (by simp; omega)]; exact s5) (fun hHeld => ?_)
          clear hK K
          try simp only [Act.put]
          refine listH (l2 := #[true, true, true, true, false, false, false, false, false, false, false, false]) (by kernel_rfl) ?_
          refine takeH (i := 4) (oi := _) (v := (.int .i64 ((k + 1 : Nat) : Int))) 30 #[true, true, true, true, true, false, false, false, false, false, false, false] rfl (by kernel_rfl) (by kernel_rfl) (by kernel_rfl) rfl (by kernel_rfl) (fun _ _ _ h => h) (Or.inl ⟨by rfl, ?yk4⟩) (by assumption) ?rk4
          case yk4 => (intro w' hSw; go_simp; simp only [IntKind.wrap_i64]; omega)
          simp only [Act.put, List.setIfInBounds_toArray, List.set_cons_succ, List.set_cons_zero]
          refine wpAnyH_ready (rs := [5, 9]) (by kernel_rfl) (by simp) ?_
          refine AllReadyH.cons (o := _) rfl (fun K hK => ?_) (AllReadyH.cons (o := _) rfl (fun K hK => ?_) AllReadyH.nil)
          · go_simp
            have HN := HLS.out.next hBt hRd
            refine (grow_any rb (p + 151 + 40 * (10 - j) + 1) w.heap.size b1 c1 (k + 1) (60 + 15 * (10 - j)) os1 vs1 1 _ (by omega) (by omega) hrw (by have := HN.size; omega) (by omega) HN.len HN.sm HN.tree HN.rd).mono ?_
            clear HN
            rintro e V5 ⟨b2, c2, os2, vs2, l2, ops2, rfl, hT2, hl2, hs2, ho2, hd2, hRd, hb5⟩
            have hsB : wr.heap.size ≤ _ := hBt.below.size
            have ho2 := ho2.base hsB
            have hBt := hBt.trans hb5
            clear hb5 hsB
            go_wp2_with fail
            refine hK.out _ _ (by rw [hBt.cell (by simp; omega) (by simp; omega)]; exact s5) (fun hHeld => ?_)
            clear hK K
            try simp only [Act.put]
            refine listH (l2 := #[true, true, true, true, true, true, false, false, false, false, false, false]) (by kernel_rfl) ?_
            refine takeH (i := 6) (oi := _) (v := ?vk5) 25 #[true, true, true, true, true, true, true, false, false, false, false, false] rfl (by kernel_rfl) (by kernel_rfl) (by kernel_rfl) rfl (by kernel_rfl) (fun _ _ _ h => h) (Or.inl ⟨by rfl, ?yk5⟩) (by assumption) ?rk5
            case yk5 => (intro w' hSw; go_simp; try with_reducible rfl)
            simp only [Act.put, List.setIfInBounds_toArray, List.set_cons_succ, List.set_cons_zero]
            refine takeH (i := 7) (oi := _) (v := ?vk6) 32 #[true, true, true, true, true, true, true, true, false, false, false, false] rfl (by kernel_rfl) (by kernel_rfl) (by kernel_rfl) rfl (by kernel_rfl) (fun _ _ _ h => h) (Or.inl ⟨by rfl, ?yk6⟩) (by assumption) ?rk6
            case yk6 => (intro w' hSw; go_simp; try with_reducible rfl)
            simp only [Act.put, List.setIfInBounds_toArray, List.set_cons_succ, List.set_cons_zero]
            refine takeH (i := 8) (oi := _) (v := ?vk7) 33 #[true, true, true, true, true, true, true, true, true, false, false, false] rfl (by kernel_rfl) (by kernel_rfl) (by kernel_rfl) rfl (by kernel_rfl) (fun _ _ _ h => h) (Or.inl ⟨by rfl, ?yk7⟩) (by assumption) ?rk7
            case yk7 => (intro w' hSw; go_simp; try with_reducible rfl)
            simp only [Act.put, List.setIfInBounds_toArray, List.set_cons_succ, List.set_cons_zero]
            refine wpAnyH_ready (rs := [9]) (by kernel_rfl) (by simp) ?_
            refine AllReadyH.cons (o := _) rfl (fun K hK => ?_) AllReadyH.nil
            refine st_alloc53 _ 8 ?_
            intro q8 V9 hq8 hb9 R8
            have lo8 : wr.heap.size ≤ q8 := by have := hBt.below.size; rw [hq8]; exact this
            have hBt := hBt.next (by have := hBt.below.size; omega) hb9
            have hRd := hRd.but hb9 (by have := hBt.below.size; have := hb9.size; omega)
            have hT2 := hT2.below hb9
            have ho2 := ho2.next hb9
            clear hq8 hb9
            refine hK.out _ _ (by rw [hBt.cell (by simp; omega) (by simp; omega)]; exact s5) (fun hHeld => ?_)
            clear hK K
            simp only [Act.put, List.setIfInBounds_toArray, List.set_cons_succ, List.set_cons_zero]
            refine listH (l2 := #[true, true, true, true, true, true, true, true, true, true, false, false]) (by kernel_rfl) ?_
            refine wpAnyH_ready (rs := [10]) (by kernel_rfl) (by simp) ?_
            refine AllReadyH.cons (o := _) rfl (fun K hK => ?_) AllReadyH.nil
            refine st_store53 _ 8 32 q8 (.slice (some ⟨b2, 0, none⟩) 32 c2) _ rfl (some ⟨b2, 0, none⟩) 32 c2 rfl rfl R8 ?_
            intro F _ hF hc8
            subst hF
            have hBt := hBt.setNew lo8 (by omega) (.slice (some ⟨b2, 0, none⟩) 32 c2)
            have hRd := hRd.set (q := q8) (by omega) (.slice (some ⟨b2, 0, none⟩) 32 c2)
            have hT2 := hT2.setBox ⟨_, R8⟩ 0 (.slice (some ⟨b2, 0, none⟩) 32 c2)
            have ho2 := ho2.setBox R8 (.slice (some ⟨b2, 0, none⟩) 32 c2)
            refine hK.out _ _ (by rw [hBt.cell (by simp; omega) (by simp; omega)]; exact s5) (fun hHeld => ?_)
            clear hK K
            refine listH (l2 := #[true, true, true, true, true, true, true, true, true, true, true, false]) (by kernel_rfl) ?_
            refine wpAnyH_ready (rs := [11]) (by kernel_rfl) (by simp) ?_
            refine AllReadyH.cons (o := _) rfl (fun K hK => ?_) AllReadyH.nil
            go_simp
            refine hK.out _ _ hHeld (fun hHeld => ?_)
            clear hK K
            try simp only [Act.put]
            refine wpAnyH_done (by kernel_rfl) ?_ _
            go_wp2_with fail
            go_meet
            exact ⟨q8, b2, c2, os2, vs2, _, ops2, rfl, rfl, hc8, (HLS.out.next hBt hRd).on (by omega) (Nat.le_refl _), hT2, hl2, hs2.mono (by omega), ho2, hd2.1, hd2.2⟩
          · refine st_alloc53 _ 8 ?_
            intro q8 V9 hq8 hb9 R8
            have lo8 : wr.heap.size ≤ q8 := by have := hBt.below.size; rw [hq8]; exact this
            have hBt := hBt.next (by have := hBt.below.size; omega) hb9
            have hRd := hRd.but hb9 (by have := hBt.below.size; have := hb9.size; omega)
            clear hq8 hb9
            refine hK.out _ _ (by rw [hBt.cell (by simp; omega) (by simp; omega)]; exact s5) (fun hHeld => ?_)
            clear hK K
            simp only [Act.put, List.setIfInBounds_toArray, List.set_cons_succ, List.set_cons_zero]
            refine listH (l2 := #[true, true, true, true, true, false, false, false, false, true, false, false]) (by kernel_rfl) ?_
            refine wpAnyH_ready (rs := [5]) (by kernel_rfl) (by simp) ?_
            refine AllReadyH.cons (o := _) rfl (fun K hK => ?_) AllReadyH.nil
            go_simp
            have HN := HLS.out.next hBt hRd
            refine (grow_any rb (p + 151 + 40 * (10 - j) + 1) w.heap.size b1 c1 (k + 1) (60 + 15 * (10 - j)) os1 vs1 1 _ (by omega) (by omega) hrw (by have := HN.size; omega) (by omega) HN.len HN.sm HN.tree HN.rd).mono ?_
            clear HN
            rintro e V5 ⟨b2, c2, os2, vs2, l2, ops2, rfl, hT2, hl2, hs2, ho2, hd2, hRd, hb5⟩
            have hsB : wr.heap.size ≤ _ := hBt.below.size
            have ho2 := ho2.base hsB
            have hBt := hBt.trans hb5
            have R8 := R8.of_block (hb5.block q8 (by omega) R8.lt)
            clear hb5 hsB
            go_wp2_with fail
            refine hK.out _ _ (by rw [hBt.cell (by simp; omega) (by simp; omega)]; exact s5) (fun hHeld => ?_)
            clear hK K
            try simp only [Act.put]
            refine listH (l2 := #[true, true, true, true, true, true, false, false, false, true, false, false]) (by kernel_rfl) ?_
            refine takeH (i := 6) (oi := _) (v := ?vk8) 25 #[true, true, true, true, true, true, true, false, false, true, false, false] rfl (by kernel_rfl) (by kernel_rfl) (by kernel_rfl) rfl (by kernel_rfl) (fun _ _ _ h => h) (Or.inl ⟨by rfl, ?yk8⟩) (by assumption) ?rk8
            case yk8 => (intro w' hSw; go_simp; try with_reducible rfl)
            simp only [Act.put, List.setIfInBounds_toArray, List.set_cons_succ, List.set_cons_zero]
            refine takeH (i := 7) (oi := _) (v := ?vk9) 32 #[true, true, true, true, true, true, true, true, false, true, false, false] rfl (by kernel_rfl) (by kernel_rfl) (by kernel_rfl) rfl (by kernel_rfl) (fun _ _ _ h => h) (Or.inl ⟨by rfl, ?yk9⟩) (by assumption) ?rk9
            case yk9 => (intro w' hSw; go_simp; try with_reducible rfl)
            simp only [Act.put, List.setIfInBounds_toArray, List.set_cons_succ, List.set_cons_zero]
            refine takeH (i := 8) (oi := _) (v := ?vk10) 33 #[true, true, true, true, true, true, true, true, true, true, false, false] rfl (by kernel_rfl) (by kernel_rfl) (by kernel_rfl) rfl (by kernel_rfl) (fun _ _ _ h => h) (Or.inl ⟨by rfl, ?yk10⟩) (by assumption) ?rk10
            case yk10 => (intro w' hSw; go_simp; try with_reducible rfl)
            simp only [Act.put, List.setIfInBounds_toArray, List.set_cons_succ, List.set_cons_zero]
            refine wpAnyH_ready (rs := [10]) (by kernel_rfl) (by simp) ?_
            refine AllReadyH.cons (o := _) rfl (fun K hK => ?_) AllReadyH.nil
            refine st_store53 _ 8 32 q8 (.slice (some ⟨b2, 0, none⟩) 32 c2) _ rfl (some ⟨b2, 0, none⟩) 32 c2 rfl rfl R8 ?_
            intro F _ hF hc8
            subst hF
            have hBt := hBt.setNew lo8 (by omega) (.slice (some ⟨b2, 0, none⟩) 32 c2)
            have hRd := hRd.set (q := q8) (by omega) (.slice (some ⟨b2, 0, none⟩) 32 c2)
            have hT2 := hT2.setBox ⟨_, R8⟩ 0 (.slice (some ⟨b2, 0, none⟩) 32 c2)
            have ho2 := ho2.setBox R8 (.slice (some ⟨b2, 0, none⟩) 32 c2)
            refine hK.out _ _ (by rw [hBt.cell (by simp; omega) (by simp; omega)]; exact s5) (fun hHeld => ?_)
            clear hK K
            refine listH (l2 := #[true, true, true, true, true, true, true, true, true, true, true, false]) (by kernel_rfl) ?_
            refine wpAnyH_ready (rs := [11]) (by kernel_rfl) (by simp) ?_
            refine AllReadyH.cons (o := _) rfl (fun K hK => ?_) AllReadyH.nil
            go_simp
            refine hK.out _ _ hHeld (fun hHeld => ?_)
            clear hK K
            try simp only [Act.put]
            refine wpAnyH_done (by kernel_rfl) ?_ _
            go_wp2_with fail
            go_meet
            exact ⟨q8, b2, c2, os2, vs2, _, ops2, rfl, rfl, hc8, (HLS.out.next hBt hRd).on (by omega) (Nat.le_refl _), hT2, hl2, hs2.mono (by omega), ho2, hd2.1, hd2.2⟩
        · refine st_alloc53 _ 8 ?_
          intro q8 V9 hq8 hb9 R8
          have lo8 : wr.heap.size ≤ q8 := by have := hBt.below.size; rw [hq8]; exact this
          have hBt := hBt.next (by have := hBt.below.size; omega) hb9
          have hRd := hRd.but hb9 (by have := hBt.below.size; have := hb9.size; omega)
          clear hq8 hb9
          refine hK.out _ _ (by rw [hBt.cell (by simp; omega) (by simp; omega)]; exact s5) (fun hHeld => ?_)
          clear hK K
          simp only [Act.put, List.setIfInBounds_toArray, List.set_cons_succ, List.set_cons_zero]
          refine listH (l2 := #[true, true, true, false, false, false, false, false, false, true, false, false]) (by kernel_rfl) ?_
          refine wpAnyH_ready (rs := [3]) (by kernel_rfl) (by simp) ?_
          refine AllReadyH.cons (o := _) rfl (fun K hK => ?_) AllReadyH.nil
          go_simp
          refine (pick_to rb (p + 151 + 40 * (10 - j)) 4 _ (by omega) (by omega) (by omega) hRd).mono ?_
          rintro e V3 ⟨⟨k, rfl, hk4⟩, hRd, hb3⟩
          have hBt := hBt.trans hb3
          have R8 := R8.of_block (hb3.block q8 (by omega) R8.lt)
          clear hb3
          go_wp2_with fail
          refine hK.out _ _ (by rw [hBt.cell (by simp; omega) (by simp; omega)]; exact s5) (fun hHeld => ?_)
          clear hK K
          try simp only [Act.put]
          refine listH (l2 := #[true, true, true, true, false, false, false, false, false, true, false, false]) (by kernel_rfl) ?_
          refine takeH (i := 4) (oi := _) (v := (.int .i64 ((k + 1 : Nat) : Int))) 30 #[true, true, true, true, true, false, false, false, false, true, false, false] rfl (by kernel_rfl) (by kernel_rfl) (by kernel_rfl) rfl (by kernel_rfl) (fun _ _ _ h => h) (Or.inl ⟨by rfl, ?yk11⟩) (by assumption) ?rk11
          case yk11 => (intro w' hSw; go_simp; simp only [IntKind.wrap_i64]; omega)
          simp only [Act.put, List.setIfInBounds_toArray, List.set_cons_succ, List.set_cons_zero]
          refine wpAnyH_ready (rs := [5]) (by kernel_rfl) (by simp) ?_
          refine AllReadyH.cons (o := _) rfl (fun K hK => ?_) AllReadyH.nil
          go_simp
          have HN := HLS.out.next hBt hRd
          refine (grow_any rb (p + 151 + 40 * (10 - j) + 1) w.heap.size b1 c1 (k + 1) (60 + 15 * (10 - j)) os1 vs1 1 _ (by omega) (by omega) hrw (by have := HN.size; omega) (by omega) HN.len HN.sm HN.tree HN.rd).mono ?_
          clear HN
          rintro e V5 ⟨b2, c2, os2, vs2, l2, ops2, rfl, hT2, hl2, hs2, ho2, hd2, hRd, hb5⟩
          have hsB : wr.heap.size ≤ _ := hBt.below.size
          have ho2 := ho2.base hsB
          have hBt := hBt.trans hb5
          have R8 := R8.of_block (hb5.block q8 (by omega) R8.lt)
          clear hb5 hsB
          go_wp2_with fail
          refine hK.out _ _ (by rw [hBt.cell (by simp; omega) (by simp; omega)]; exact s5) (fun hHeld => ?_)
          clear hK K
          try simp only [Act.put]
          refine listH (l2 := #[true, true, true, true, true, true, false, false, false, true, false, false]) (by kernel_rfl) ?_
          refine takeH (i := 6) (oi := _) (v := ?vk12) 25 #[true, true, true, true, true, true, true, false, false, true, false, false] rfl (by kernel_rfl) (by kernel_rfl) (by kernel_rfl) rfl (by kernel_rfl) (fun _ _ _ h => h) (Or.inl ⟨by rfl, ?yk12⟩) (by assumption) ?rk12
          case yk12 => (intro w' hSw; go_simp; try with_reducible rfl)
          simp only [Act.put, List.setIfInBounds_toArray, List.set_cons_succ, List.set_cons_zero]
          refine takeH (i := 7) (oi := _) (v := ?vk13) 32 #[true, true, true, true, true, true, true, true, false, true, false, false] rfl (by kernel_rfl) (by kernel_rfl) (by kernel_rfl) rfl (by kernel_rfl) (fun _ _ _ h => h) (Or.inl ⟨by rfl, ?yk13⟩) (by assumption) ?rk13
          case yk13 => (intro w' hSw; go_simp; try with_reducible rfl)
          simp only [Act.put, List.setIfInBounds_toArray, List.set_cons_succ, List.set_cons_zero]
          refine takeH (i := 8) (oi := _) (v := ?vk14) 33 #[true, true, true, true, true, true, true, true, true, true, false, false] rfl (by kernel_rfl) (by kernel_rfl) (by kernel_rfl) rfl (by kernel_rfl) (fun _ _ _ h => h) (Or.inl ⟨by rfl, ?yk14⟩) (by assumption) ?rk14
          case yk14 => (intro w' hSw; go_simp; try with_reducible rfl)
          simp only [Act.put, List.setIfInBounds_toArray, List.set_cons_succ, List.set_cons_zero]
          refine wpAnyH_ready (rs := [10]) (by kernel_rfl) (by simp) ?_
          refine AllReadyH.cons (o := _) rfl (fun K hK => ?_) AllReadyH.nil
          refine st_store53 _ 8 32 q8 (.slice (some ⟨b2, 0, none⟩) 32 c2) _ rfl (some ⟨b2, 0, none⟩) 32 c2 rfl rfl R8 ?_
          intro F _ hF hc8
          subst hF
          have hBt := hBt.setNew lo8 (by omega) (.slice (some ⟨b2, 0, none⟩) 32 c2)
          have hRd := hRd.set (q := q8) (by omega) (.slice (some ⟨b2, 0, none⟩) 32 c2)
          have hT2 := hT2.setBox ⟨_, R8⟩ 0 (.slice (some ⟨b2, 0, none⟩) 32 c2)
          have ho2 := ho2.setBox R8 (.slice (some ⟨b2, 0, none⟩) 32 c2)
          refine hK.out _ _ (by rw [hBt.cell (by simp; omega) (by simp; omega)]; exact s5) (fun hHeld => ?_)
          clear hK K
          refine listH (l2 := #[true, true, true, true, true, true, true, true, true, true, true, false]) (by kernel_rfl) ?_
          refine wpAnyH_ready (rs := [11]) (by kernel_rfl) (by simp) ?_
          refine AllReadyH.cons (o := _) rfl (fun K hK => ?_) AllReadyH.nil
          go_simp
          refine hK.out _ _ hHeld (fun hHeld => ?_)
          clear hK K
          try simp only [Act.put]
          refine wpAnyH_done (by kernel_rfl) ?_ _
          go_wp2_with fail
          go_meet
          exact ⟨q8, b2, c2, os2, vs2, _, ops2, rfl, rfl, hc8, (HLS.out.next hBt hRd).on (by omega) (Nat.le_refl _), hT2, hl2, hs2.mono (by omega), ho2, hd2.1, hd2.2⟩
      obtain ⟨q8, b2, c2, os2, vs2, l2, ops2, rfl, rfl, hc8, hLS2, hT2, hl2, hs2, ho2, hn2, hd2⟩ := hcut
      obtain ⟨V, rfl⟩ : ∃ V, V = wc := ⟨_, rfl⟩
      have hsu : ∀ k, u6.ownBlock = some k → k < wr.heap.size := fun k e => (HLS.out.list.lt k e).2
      have s5c := hLS2.r5.cell (i := 0) (by omega)
      have s5z := hLS2.r5.frozen 0
      have hLS3 : LS w (V.setCell ⟨q5, 0, none⟩ (.slice (some ⟨b2, 0, none⟩) 32 c2)) rb (p + 151 + 40 * (10 - j) + 37) w.heap.size q4 q5 b2 c2 (60 + 15 * (10 - j) + 12) u6 os2 vs2 out := hLS2.store hT2 hl2 hs2
      have ho3 := ho2.setBox hLS2.r5 (.slice (some ⟨b2, 0, none⟩) 32 c2)
      have hz3 : Hid (∀ o ∈ ops2, OpSz o) := fun o ho => (hd2 o ho).1.sz
      obtain ⟨a3, c3, rfl, hA3⟩ := ho3.at_ hz3.out
      have HL3 : Hid (LS w (V.setCell ⟨q5, 0, none⟩ (.slice (some ⟨b2, 0, none⟩) 32 c2)) rb (p + 151 + 40 * (10 - j) + 37) w.heap.size q4 q5 b2 c2 (60 + 15 * (10 - j) + 12) u6 os2 vs2 out) := hLS3
      have HA3 : Hid (OpsAt (V.setCell ⟨q5, 0, none⟩ (.slice (some ⟨b2, 0, none⟩) 32 c2)) wr.heap.size (V.setCell ⟨q5, 0, none⟩ (.slice (some ⟨b2, 0, none⟩) 32 c2)).heap.size a3 ops2.length ops2) := hA3
      have HD2 : Hid (∀ o ∈ ops2, DoneOp o) := hd2
      clear hLS2 hLS3 hT2 hl2 hs2 ho2 ho3 hA3 hd2 HLS s5 hBt hRd hq5l
      go_wp2_with (first
        | (at_builtin; refine wpList_app_all _ rfl (.tmp 35) (.tmp 36) rfl w.heap.size _ out ops2 HL3.out.list a3 _ c3 wr.heap.size _ HA3.out rfl rfl ?c2 ?c3 ?_)
        | go_in)
      case c2 => omega
      case c3 => have := HL3.out.size; omega
      intro v4 X hE4
      have HL4 : Hid (LS w X rb (p + 151 + 40 * (10 - j) + 37) w.heap.size q4 q5 b2 c2 (60 + 15 * (10 - j) + 12) v4 os2 vs2 (out ++ ops2)) := HL3.out.app hE4 HD2.out
      have HA4 : Hid (OpsAt X wr.heap.size X.heap.size a3 ops2.length ops2) := (HA3.out.grown hE4.grown hsu (Nat.le_refl _)).wide (Nat.le_refl _) hE4.grown.size
      have hlen4 : (out ++ ops2).length ≤ 1001 * (10 - (j - 1)) - 1 := by simp; omega
      clear hE4 HL3 HA3 s5c s5z hc8 hsu
      generalize out ++ ops2 = out2 at *
      by_cases h0 : ops2.length = 0
      · have t0 : ((ops2.length : Int) == 0) = true := by simp [h0]
        clear h0
        go_wp2_with fail
        go_roundg (j - 1)
        case measure => have := hg.out; omega
        case rel => exact ⟨j - 1, by omega, rfl, by go_num, b2, c2, os2, vs2, out2, HL4.out.on (by omega) (by omega), by omega⟩
      have t0 : ((ops2.length : Int) == 0) = false := beq_eq_false_iff_ne.2 (by omega)
      obtain ⟨b3, off3, ha3, _, hb3U, hc3⟩ := HA4.out.at_ h0
      subst ha3
      obtain ⟨o, ho, hso, hat⟩ := hc3 (ops2.length - 1) (by omega)
      have hdo : Hid (DoneOp o) := HD2.out o (List.mem_of_getElem? ho)
      obtain ⟨d0, d1, d2, d3, d4, d5, d6⟩ := hat
      have hidx : (ops2.length : Int) - 1 < (ops2.length : Int) := by omega
      clear hc3 HA4 ho hso
      go_upto_block 2 with fail
      have hAB : Below X.heap.size X ((X.alloc (Obj.cells #[.int .i64 o.kind, .int .i64 o.dir, .string o.name, .int .i64 o.dir2, .string o.name2, .int .i64 o.id, .string o.text] 30)).alloc (Obj.cells #[.int .i64 3, .int .i64 o.dir, .string o.name, .int .i64 0, .string ⟨#[]⟩, .int .i64 o.id, .string ⟨#[]⟩] 30)) := ((Below.refl _ _).alloc (Nat.le_refl _) _).alloc (by simp) _
      have HX10 : Hid (BoxAt ((X.alloc (Obj.cells #[.int .i64 o.kind, .int .i64 o.dir, .string o.name, .int .i64 o.dir2, .string o.name2, .int .i64 o.id, .string o.text] 30)).alloc (Obj.cells #[.int .i64 3, .int .i64 o.dir, .string o.name, .int .i64 0, .string ⟨#[]⟩, .int .i64 o.id, .string ⟨#[]⟩] 30)) X.heap.size o) := (BoxAt.new X o).of (((Below.refl (X.alloc (Obj.cells #[.int .i64 o.kind, .int .i64 o.dir, .string o.name, .int .i64 o.dir2, .string o.name2, .int .i64 o.id, .string o.text] 30)).heap.size (X.alloc (Obj.cells #[.int .i64 o.kind, .int .i64 o.dir, .string o.name, .int .i64 o.dir2, .string o.name2, .int .i64 o.id, .string o.text] 30))).alloc (Nat.le_refl _) _).block X.heap.size (by simp))
      have HX11 : Hid (((X.alloc (Obj.cells #[.int .i64 o.kind, .int .i64 o.dir, .string o.name, .int .i64 o.dir2, .string o.name2, .int .i64 o.id, .string o.text] 30)).alloc (Obj.cells #[.int .i64 3, .int .i64 o.dir, .string o.name, .int .i64 0, .string ⟨#[]⟩, .int .i64 o.id, .string ⟨#[]⟩] 30)).rowIs (X.heap.size + 1) 30 7 (zrow #[.int .i64 3, .int .i64 o.dir, .string o.name, .int .i64 0, .string ⟨#[]⟩, .int .i64 o.id, .string ⟨#[]⟩])) := by
        have := zrow_new (X.alloc (Obj.cells #[.int .i64 o.kind, .int .i64 o.dir, .string o.name, .int .i64 o.dir2, .string o.name2, .int .i64 o.id, .string o.text] 30)) #[.int .i64 3, .int .i64 o.dir, .string o.name, .int .i64 0, .string ⟨#[]⟩, .int .i64 o.id, .string ⟨#[]⟩] 30
        show World.rowIs _ _ _ _ _
        simpa using this
      have hXlo := HL4.out.size
      have hlo := HL4.out.lo
      have HB0 : Hid (But rb X ((X.alloc (Obj.cells #[.int .i64 o.kind, .int .i64 o.dir, .string o.name, .int .i64 o.dir2, .string o.name2, .int .i64 o.id, .string o.text] 30)).alloc (Obj.cells #[.int .i64 3, .int .i64 o.dir, .string o.name, .int .i64 0, .string ⟨#[]⟩, .int .i64 o.id, .string ⟨#[]⟩] 30))) := But.of_below (by omega) hAB
      have hRd : RdTo ((X.alloc (Obj.cells #[.int .i64 o.kind, .int .i64 o.dir, .string o.name, .int .i64 o.dir2, .string o.name2, .int .i64 o.id, .string o.text] 30)).alloc (Obj.cells #[.int .i64 3, .int .i64 o.dir, .string o.name, .int .i64 0, .string ⟨#[]⟩, .int .i64 o.id, .string ⟨#[]⟩] 30)) rb (p + 151 + 40 * (10 - j) + 37) := HL4.out.rd.but hAB (by omega)
      have hz5 : ((X.alloc (Obj.cells #[.int .i64 o.kind, .int .i64 o.dir, .string o.name, .int .i64 o.dir2, .string o.name2, .int .i64 o.id, .string o.text] 30)).alloc (Obj.cells #[.int .i64 3, .int .i64 o.dir, .string o.name, .int .i64 0, .string ⟨#[]⟩, .int .i64 o.id, .string ⟨#[]⟩] 30)).heap.size = X.heap.size + 1 + 1 := by simp
      clear hAB d0 d1 d2 d3 d4 d5 d6
      generalize ((X.alloc (Obj.cells #[.int .i64 o.kind, .int .i64 o.dir, .string o.name, .int .i64 o.dir2, .string o.name2, .int .i64 o.id, .string o.text] 30)).alloc (Obj.cells #[.int .i64 3, .int .i64 o.dir, .string o.name, .int .i64 0, .string ⟨#[]⟩, .int .i64 o.id, .string ⟨#[]⟩] 30)) = W5 at *
      have h10l : X.heap.size < W5.heap.size := by omega
      have h11l : X.heap.size + 1 < W5.heap.size := by omega
      clear hz5 hb3U
      generalize hq10 : X.heap.size = q10 at *
      go_cut [] (fun wx => ∃ bk, LS w wx rb (p + 151 + 40 * (10 - j) + 37 + 2) w.heap.size q4 q5 b2 c2 (60 + 15 * (10 - j) + 12) v4 os2 vs2 out2 ∧ BoxAt wx (q10 + 1) bk ∧ OpSm bk ∧ q10 + 1 < wx.heap.size)
      case first =>
        rcases k4 : (o.kind == 4) with _ | _
        · rcases k5 : (o.kind == 5) with _ | _
          · obtain ⟨c0, c1, c2, c3, c4, c5, c6⟩ := HX10.out
            go_wp2_with fail
            go_meet
            exact ⟨⟨3, o.dir, o.name, 0, ⟨#[]⟩, o.id, ⟨#[]⟩⟩, (HL4.out.next HB0.out hRd).on (by omega) (Nat.le_refl _), ⟨by rw [HX11.out.cell (by omega)]; rfl, by rw [HX11.out.cell (by omega)]; rfl, by rw [HX11.out.cell (by omega)]; rfl, by rw [HX11.out.cell (by omega)]; rfl, by rw [HX11.out.cell (by omega)]; rfl, by rw [HX11.out.cell (by omega)]; rfl, by rw [HX11.out.cell (by omega)]; rfl⟩, ⟨hdo.out.1.1, Nat.zero_le _, Nat.zero_le _⟩, h11l⟩
          · go_upto_region 17 with fail
            refine wp_region_held_drew (S := (fun W => BoxAt W q10 o)) (by kernel_rfl) ?_ (fun hHeld => ?_)
            · exact HX10.out.of rfl
            refine listH (l2 := #[false, false, false, false, false, false, false]) (by kernel_rfl) ?_
            have hB5 : But rb W5 W5.drew := But.of_below (by omega) (Below.refl _ _).drew
            have hRd : RdTo W5.drew rb (p + 151 + 40 * (10 - j) + 37) := hRd.but (Below.refl _ _).drew (by omega)
            refine takeH (i := 0) (oi := _) (v := ?vk15) 77 #[true, false, false, false, false, false, false] rfl (by kernel_rfl) (by kernel_rfl) (by kernel_rfl) rfl (by kernel_rfl) (fun _ _ _ h => h) (Or.inl ⟨by rfl, ?yk15⟩) (by assumption) ?rk15
            case yk15 => (intro w' hSw; obtain ⟨c0, c1, c2, c3, c4, c5, c6⟩ := hSw; go_simp; try with_reducible rfl)
            simp only [Act.put, List.setIfInBounds_toArray, List.set_cons_succ, List.set_cons_zero]
            refine takeH (i := 1) (oi := _) (v := ?vk16) 78 #[true, true, false, false, false, false, false] rfl (by kernel_rfl) (by kernel_rfl) (by kernel_rfl) rfl (by kernel_rfl) (fun _ _ _ h => h) (Or.inl ⟨by rfl, ?yk16⟩) (by assumption) ?rk16
            case yk16 => (intro w' hSw; obtain ⟨c0, c1, c2, c3, c4, c5, c6⟩ := hSw; go_simp; try with_reducible rfl)
            simp only [Act.put, List.setIfInBounds_toArray, List.set_cons_succ, List.set_cons_zero]
            refine takeH (i := 2) (oi := _) (v := ?vk17) 79 #[true, true, true, false, false, false, false] rfl (by kernel_rfl) (by kernel_rfl) (by kernel_rfl) rfl (by kernel_rfl) (fun _ _ _ h => h) (Or.inl ⟨by rfl, ?yk17⟩) (by assumption) ?rk17
            case yk17 => (intro w' hSw; obtain ⟨c0, c1, c2, c3, c4, c5, c6⟩ := hSw; go_simp; try with_reducible rfl)
            simp only [Act.put, List.setIfInBounds_toArray, List.set_cons_succ, List.set_cons_zero]
            refine wpAnyH_ready (rs := [3]) (by kernel_rfl) (by simp) ?_
            refine AllReadyH.cons (o := _) rfl (fun K hK => ?_) AllReadyH.nil
            refine st_build80b _ 80 ?_
            intro qs V1 hqs hbqs s0 s1
            have ltqs : qs < V1.heap.size := World.block_lt_of_cell? _ _ s0
            have loqs : W5.heap.size ≤ qs := by rw [hqs]; exact hB5.below.size
            have hB5 := hB5.next (by have := hB5.below.size; omega) hbqs
            have hRd := hRd.but hbqs (by have := hB5.below.size; have := hbqs.size; omega)
            clear hqs hbqs
            refine hK.out _ _ (HX10.out.of (hB5.block q10 (by omega) h10l)) (fun hHeld => ?_)
            clear hK K
            simp only [Act.put, List.setIfInBounds_toArray, List.set_cons_succ, List.set_cons_zero]
            refine listH (l2 := #[true, true, true, true, false, false, false]) (by kernel_rfl) ?_
            refine wpAnyH_ready (rs := [4]) (by kernel_rfl) (by simp) ?_
            refine AllReadyH.cons (o := _) rfl (fun K hK => ?_) AllReadyH.nil
            go_simp
            refine (of_to rb (p + 151 + 40 * (10 - j) + 37) qs 2 2 4 _ (by omega) (by omega) (by omega) (by omega) hRd ?_).mono ?_
            · intro i hi
              match i, hi with
              | 0, _ => exact ⟨_, s0, by decide⟩
              | 1, _ => exact ⟨_, s1, by decide⟩
            rintro e V2 ⟨⟨tx, rfl, htx⟩, hRd, hb2⟩
            have hB5 := hB5.trans hb2
            clear hb2 s0 s1
            go_wp2_with fail
            refine hK.out _ _ (HX10.out.of (hB5.block q10 (by omega) h10l)) (fun hHeld => ?_)
            clear hK K
            try simp only [Act.put]
            refine listH (l2 := #[true, true, true, true, true, false, false]) (by kernel_rfl) ?_
            refine takeH (i := 5) (oi := _) (v := ?vk18) 82 #[true, true, true, true, true, true, false] rfl (by kernel_rfl) (by kernel_rfl) (by kernel_rfl) rfl (by kernel_rfl) (fun _ _ _ h => h) (Or.inl ⟨by rfl, ?yk18⟩) (by assumption) ?rk18
            case yk18 => (intro w' hSw; obtain ⟨c0, c1, c2, c3, c4, c5, c6⟩ := hSw; go_simp; try with_reducible rfl)
            simp only [Act.put, List.setIfInBounds_toArray, List.set_cons_succ, List.set_cons_zero]
            refine wpAnyH_ready (rs := [6]) (by kernel_rfl) (by simp) ?_
            refine AllReadyH.cons (o := _) rfl (fun K hK => ?_) AllReadyH.nil
            refine st_store30 _ 11 82 (q10 + 1) 0 ⟨5, 0, ⟨#[]⟩, 0, ⟨#[]⟩, o.id, tx⟩ 7 _ rfl rfl (HX11.out.of_block (hB5.block (q10 + 1) (by omega) h11l)) (by omega) ⟨⟨3, o.dir, o.name, 0, ⟨#[]⟩, o.id, ⟨#[]⟩⟩, rfl, rfl, rfl, rfl, rfl, rfl, rfl⟩ ?_
            intro F hbF RF
            have hBX : BoxAt F (q10 + 1) ⟨5, 0, ⟨#[]⟩, 0, ⟨#[]⟩, o.id, tx⟩ := ⟨by rw [RF.cell (by omega)]; rfl, by rw [RF.cell (by omega)]; rfl, by rw [RF.cell (by omega)]; rfl, by rw [RF.cell (by omega)]; rfl, by rw [RF.cell (by omega)]; rfl, by rw [RF.cell (by omega)]; rfl, by rw [RF.cell (by omega)]; rfl⟩
            have hBX0 : But rb X F := (HB0.out.trans hB5).setOther (by omega) (by omega) hbF
            have hRdF : RdTo F rb (p + 151 + 40 * (10 - j) + 37 + 1) := hRd.setOther (by omega) hbF
            have h10F : F.heap[q10]? = _ := hbF.block q10 (by omega) (by have := hB5.below.size; omega)
            refine hK.out _ _ (BoxAt.of (HX10.out.of (hB5.block q10 (by omega) h10l)) h10F) (fun hHeld => ?_)
            clear hK K
            refine wpAnyH_done (by kernel_rfl) ?_ _
            go_wp2_with fail
            go_meet
            exact ⟨⟨5, 0, ⟨#[]⟩, 0, ⟨#[]⟩, o.id, tx⟩, (HL4.out.next hBX0 hRdF).on (by omega) (Nat.le_refl _), hBX, ⟨Nat.zero_le _, Nat.zero_le _, htx⟩, RF.lt⟩
        · go_upto_region 15 with fail
          refine wp_region_held_drew (S := (fun W => BoxAt W q10 o)) (by kernel_rfl) ?_ (fun hHeld => ?_)
          · exact HX10.out.of rfl
          refine listH (l2 := #[false, false, false, false, false, false, false, false, false, false, false, false, false, false, false, false, false, false]) (by kernel_rfl) ?_
          have hB5 : But rb W5 W5.drew := But.of_below (by omega) (Below.refl _ _).drew
          have hRd : RdTo W5.drew rb (p + 151 + 40 * (10 - j) + 37) := hRd.but (Below.refl _ _).drew (by omega)
          refine takeH (i := 0) (oi := _) (v := ?vk19) 58 #[true, false, false, false, false, false, false, false, false, false, false, false, false, false, false, false, false, false] rfl (by kernel_rfl) (by kernel_rfl) (by kernel_rfl) rfl (by kernel_rfl) (fun _ _ _ h => h) (Or.inl ⟨by rfl, ?yk19⟩) (by assumption) ?rk19
          case yk19 => (intro w' hSw; obtain ⟨c0, c1, c2, c3, c4, c5, c6⟩ := hSw; go_simp; try with_reducible rfl)
          simp only [Act.put, List.setIfInBounds_toArray, List.set_cons_succ, List.set_cons_zero]
          refine takeH (i := 1) (oi := _) (v := ?vk20) 59 #[true, true, false, false, false, false, false, false, false, false, false, false, false, false, false, false, false, false] rfl (by kernel_rfl) (by kernel_rfl) (by kernel_rfl) rfl (by kernel_rfl) (fun _ _ _ h => h) (Or.inl ⟨by rfl, ?yk20⟩) (by assumption) ?rk20
          case yk20 => (intro w' hSw; obtain ⟨c0, c1, c2, c3, c4, c5, c6⟩ := hSw; go_simp; try with_reducible rfl)
          simp only [Act.put, List.setIfInBounds_toArray, List.set_cons_succ, List.set_cons_zero]
          refine takeH (i := 2) (oi := _) (v := ?vk21) 60 #[true, true, true, false, false, false, false, false, false, false, false, false, false, false, false, false, false, false] rfl (by kernel_rfl) (by kernel_rfl) (by kernel_rfl) rfl (by kernel_rfl) (fun _ _ _ h => h) (Or.inl ⟨by rfl, ?yk21⟩) (by assumption) ?rk21
          case yk21 => (intro w' hSw; obtain ⟨c0, c1, c2, c3, c4, c5, c6⟩ := hSw; go_simp; try with_reducible rfl)
          simp only [Act.put, List.setIfInBounds_toArray, List.set_cons_succ, List.set_cons_zero]
          refine takeH (i := 3) (oi := _) (v := ?vk22) 61 #[true, true, true, true, false, false, false, false, false, false, false, false, false, false, false, false, false, false] rfl (by kernel_rfl) (by kernel_rfl) (by kernel_rfl) rfl (by kernel_rfl) (fun _ _ _ h => h) (Or.inl ⟨by rfl, ?yk22⟩) (by assumption) ?rk22
          case yk22 => (intro w' hSw; obtain ⟨c0, c1, c2, c3, c4, c5, c6⟩ := hSw; go_simp; try with_reducible rfl)
          simp only [Act.put, List.setIfInBounds_toArray, List.set_cons_succ, List.set_cons_zero]
          refine takeH (i := 4) (oi := _) (v := ?vk23) 62 #[true, true, true, true, true, false, false, false, false, false, false, false, false, false, false, false, false, false] rfl (by kernel_rfl) (by kernel_rfl) (by kernel_rfl) rfl (by kernel_rfl) (fun _ _ _ h => h) (Or.inl ⟨by rfl, ?yk23⟩) (by assumption) ?rk23
          case yk23 => (intro w' hSw; obtain ⟨c0, c1, c2, c3, c4, c5, c6⟩ := hSw; go_simp; try with_reducible rfl)
          simp only [Act.put, List.setIfInBounds_toArray, List.set_cons_succ, List.set_cons_zero]
          refine takeH (i := 5) (oi := _) (v := ?vk24) 63 #[true, true, true, true, true, true, false, false, false, false, false, false, false, false, false, false, false, false] rfl (by kernel_rfl) (by kernel_rfl) (by kernel_rfl) rfl (by kernel_rfl) (fun _ _ _ h => h) (Or.inl ⟨by rfl, ?yk24⟩) (by assumption) ?rk24
          case yk24 => (intro w' hSw; obtain ⟨c0, c1, c2, c3, c4, c5, c6⟩ := hSw; go_simp; try with_reducible rfl)
          simp only [Act.put, List.setIfInBounds_toArray, List.set_cons_succ, List.set_cons_zero]
          refine takeH (i := 6) (oi := _) (v := ?vk25) 64 #[true, true, true, true, true, true, true, false, false, false, false, false, false, false, false, false, false, false] rfl (by kernel_rfl) (by kernel_rfl) (by kernel_rfl) rfl (by kernel_rfl) (fun _ _ _ h => h) (Or.inl ⟨by rfl, ?yk25⟩) (by assumption) ?rk25
          case yk25 => (intro w' hSw; obtain ⟨c0, c1, c2, c3, c4, c5, c6⟩ := hSw; go_simp; try with_reducible rfl)
          simp only [Act.put, List.setIfInBounds_toArray, List.set_cons_succ, List.set_cons_zero]
          refine takeH (i := 9) (oi := _) (v := ?vk26) 67 #[true, true, true, true, true, true, true, false, false, true, false, false, false, false, false, false, false, false] rfl (by kernel_rfl) (by kernel_rfl) (by kernel_rfl) rfl (by kernel_rfl) (fun _ _ _ h => h) (Or.inl ⟨by rfl, ?yk26⟩) (by assumption) ?rk26
          case yk26 => (intro w' hSw; obtain ⟨c0, c1, c2, c3, c4, c5, c6⟩ := hSw; go_simp; try with_reducible rfl)
          simp only [Act.put, List.setIfInBounds_toArray, List.set_cons_succ, List.set_cons_zero]
          refine takeH (i := 10) (oi := _) (v := ?vk27) 68 #[true, true, true, true, true, true, true, false, false, true, true, false, false, false, false, false, false, false] rfl (by kernel_rfl) (by kernel_rfl) (by kernel_rfl) rfl (by kernel_rfl) (fun _ _ _ h => h) (Or.inl ⟨by rfl, ?yk27⟩) (by assumption) ?rk27
          case yk27 => (intro w' hSw; obtain ⟨c0, c1, c2, c3, c4, c5, c6⟩ := hSw; go_simp; try with_reducible rfl)
          simp only [Act.put, List.setIfInBounds_toArray, List.set_cons_succ, List.set_cons_zero]
          refine takeH (i := 11) (oi := _) (v := ?vk28) 69 #[true, true, true, true, true, true, true, false, false, true, true, true, false, false, false, false, false, false] rfl (by kernel_rfl) (by kernel_rfl) (by kernel_rfl) rfl (by kernel_rfl) (fun _ _ _ h => h) (Or.inl ⟨by rfl, ?yk28⟩) (by assumption) ?rk28
          case yk28 => (intro w' hSw; obtain ⟨c0, c1, c2, c3, c4, c5, c6⟩ := hSw; go_simp; try with_reducible rfl)
          simp only [Act.put, List.setIfInBounds_toArray, List.set_cons_succ, List.set_cons_zero]
          refine takeH (i := 14) (oi := _) (v := ?vk29) 72 #[true, true, true, true, true, true, true, false, false, true, true, true, false, false, true, false, false, false] rfl (by kernel_rfl) (by kernel_rfl) (by kernel_rfl) rfl (by kernel_rfl) (fun _ _ _ h => h) (Or.inl ⟨by rfl, ?yk29⟩) (by assumption) ?rk29
          case yk29 => (intro w' hSw; obtain ⟨c0, c1, c2, c3, c4, c5, c6⟩ := hSw; go_simp; try with_reducible rfl)
          simp only [Act.put, List.setIfInBounds_toArray, List.set_cons_succ, List.set_cons_zero]
          refine takeH (i := 15) (oi := _) (v := ?vk30) 73 #[true, true, true, true, true, true, true, false, false, true, true, true, false, false, true, true, false, false] rfl (by kernel_rfl) (by kernel_rfl) (by kernel_rfl) rfl (by kernel_rfl) (fun _ _ _ h => h) (Or.inl ⟨by rfl, ?yk30⟩) (by assumption) ?rk30
          case yk30 => (intro w' hSw; obtain ⟨c0, c1, c2, c3, c4, c5, c6⟩ := hSw; go_simp; try with_reducible rfl)
          simp only [Act.put, List.setIfInBounds_toArray, List.set_cons_succ, List.set_cons_zero]
          refine wpAnyH_ready (rs := [7, 12]) (by kernel_rfl) (by simp) ?_
          refine AllReadyH.cons (o := _) rfl (fun K hK => ?_) (AllReadyH.cons (o := _) rfl (fun K hK => ?_) AllReadyH.nil)
          · refine st_build27 _ 65 64 o.dir rfl ?_
            intro q7 Va hq7 hbX s70 s71
            have lt7 : q7 < Va.heap.size := World.block_lt_of_cell? _ _ s70
            have lo7 : W5.heap.size ≤ q7 := by rw [hq7]; exact hB5.below.size
            have hRd := hRd.but hbX (by have := hB5.below.size; omega)
            have hB5 := hB5.next (by have := hB5.below.size; omega) hbX
            clear hq7 hbX
            refine hK.out _ _ (HX10.out.of (hB5.block q10 (by omega) h10l)) (fun hHeld => ?_)
            clear hK K
            simp only [Act.put, List.setIfInBounds_toArray, List.set_cons_succ, List.set_cons_zero]
            refine listH (l2 := #[true, true, true, true, true, true, true, true, false, true, true, true, false, false, true, true, false, false]) (by kernel_rfl) ?_
            refine wpAnyH_ready (rs := [8, 12]) (by kernel_rfl) (by simp) ?_
            refine AllReadyH.cons (o := _) rfl (fun K hK => ?_) (AllReadyH.cons (o := _) rfl (fun K hK => ?_) AllReadyH.nil)
            · go_simp
              refine (num_to (fun _ => True) rb (p + 151 + 40 * (10 - j) + 37) q7 2 2 _ (by omega) (by omega) (by omega) (by omega) hRd ?_).mono ?_
              · intro i hi
                match i, hi with
                | 0, _ => exact ⟨_, s70, trivial⟩
                | 1, _ => exact ⟨_, s71, trivial⟩
              rintro e Vc ⟨⟨zz, rfl, _⟩, hRd, hbX⟩
              have hB5 := hB5.trans hbX
              clear hbX s70 s71
              go_wp2_with fail
              refine hK.out _ _ (HX10.out.of (hB5.block q10 (by omega) h10l)) (fun hHeld => ?_)
              clear hK K
              try simp only [Act.put]
              refine listH (l2 := #[true, true, true, true, true, true, true, true, true, true, true, true, false, false, true, true, false, false]) (by kernel_rfl) ?_
              refine wpAnyH_ready (rs := [12]) (by kernel_rfl) (by simp) ?_
              refine AllReadyH.cons (o := _) rfl (fun K hK => ?_) AllReadyH.nil
              refine st_build80 _ 70 69 o.name rfl ?_
              intro q12 Vb hq12 hbX s120 s121 s122
              have lt12 : q12 < Vb.heap.size := World.block_lt_of_cell? _ _ s120
              have lo12 : W5.heap.size ≤ q12 := by rw [hq12]; exact hB5.below.size
              have hRd := hRd.but hbX (by have := hB5.below.size; omega)
              have hB5 := hB5.next (by have := hB5.below.size; omega) hbX
              clear hq12 hbX
              refine hK.out _ _ (HX10.out.of (hB5.block q10 (by omega) h10l)) (fun hHeld => ?_)
              clear hK K
              simp only [Act.put, List.setIfInBounds_toArray, List.set_cons_succ, List.set_cons_zero]
              refine listH (l2 := #[true, true, true, true, true, true, true, true, true, true, true, true, true, false, true, true, false, false]) (by kernel_rfl) ?_
              refine wpAnyH_ready (rs := [13]) (by kernel_rfl) (by simp) ?_
              refine AllReadyH.cons (o := _) rfl (fun K hK => ?_) AllReadyH.nil
              go_simp
              refine (of_to rb (p + 151 + 40 * (10 - j) + 37 + 1) q12 3 3 4 _ (by omega) (by omega) (by omega) (by omega) hRd ?_).mono ?_
              · intro i hi
                match i, hi with
                | 0, _ => exact ⟨_, s120, hdo.out.1.1⟩
                | 1, _ => exact ⟨_, s121, by decide⟩
                | 2, _ => exact ⟨_, s122, by decide⟩
              rintro e Vd ⟨⟨ss, rfl, hss⟩, hRd, hbX⟩
              have hB5 := hB5.trans hbX
              clear hbX s120 s121 s122
              go_wp2_with fail
              refine hK.out _ _ (HX10.out.of (hB5.block q10 (by omega) h10l)) (fun hHeld => ?_)
              clear hK K
              try simp only [Act.put]
              refine listH (l2 := #[true, true, true, true, true, true, true, true, true, true, true, true, true, true, true, true, false, false]) (by kernel_rfl) ?_
              refine takeH (i := 16) (oi := _) (v := ?vk31) 74 #[true, true, true, true, true, true, true, true, true, true, true, true, true, true, true, true, true, false] rfl (by kernel_rfl) (by kernel_rfl) (by kernel_rfl) rfl (by kernel_rfl) (fun _ _ _ h => h) (Or.inl ⟨by rfl, ?yk31⟩) (by assumption) ?rk31
              case yk31 => (intro w' hSw; obtain ⟨c0, c1, c2, c3, c4, c5, c6⟩ := hSw; go_simp; try with_reducible rfl)
              simp only [Act.put, List.setIfInBounds_toArray, List.set_cons_succ, List.set_cons_zero]
              refine wpAnyH_ready (rs := [17]) (by kernel_rfl) (by simp) ?_
              refine AllReadyH.cons (o := _) rfl (fun K hK => ?_) AllReadyH.nil
              refine st_store30 _ 11 74 (q10 + 1) 0 ⟨4, o.dir2, o.name2, zz, ss, o.id, ⟨#[]⟩⟩ 7 _ rfl rfl (HX11.out.of_block (hB5.block (q10 + 1) (by omega) h11l)) (by omega) ⟨⟨3, o.dir, o.name, 0, ⟨#[]⟩, o.id, ⟨#[]⟩⟩, rfl, rfl, rfl, rfl, rfl, rfl, rfl⟩ ?_
              intro F hbF RF
              have hBX : BoxAt F (q10 + 1) ⟨4, o.dir2, o.name2, zz, ss, o.id, ⟨#[]⟩⟩ := ⟨by rw [RF.cell (by omega)]; rfl, by rw [RF.cell (by omega)]; rfl, by rw [RF.cell (by omega)]; rfl, by rw [RF.cell (by omega)]; rfl, by rw [RF.cell (by omega)]; rfl, by rw [RF.cell (by omega)]; rfl, by rw [RF.cell (by omega)]; rfl⟩
              have hBX0 : But rb X F := (HB0.out.trans hB5).setOther (by omega) (by omega) hbF
              have hRdF : RdTo F rb (p + 151 + 40 * (10 - j) + 37 + 2) := hRd.setOther (by omega) hbF
              have h10F : F.heap[q10]? = _ := hbF.block q10 (by omega) (by have := hB5.below.size; omega)
              refine hK.out _ _ (BoxAt.of (HX10.out.of (hB5.block q10 (by omega) h10l)) h10F) (fun hHeld => ?_)
              clear hK K
              refine wpAnyH_done (by kernel_rfl) ?_ _
              go_wp2_with fail
              go_meet
              exact ⟨⟨4, o.dir2, o.name2, zz, ss, o.id, ⟨#[]⟩⟩, (HL4.out.next hBX0 hRdF).on (by omega) (Nat.le_refl _), hBX, ⟨hdo.out.1.2.1, hss, Nat.zero_le _⟩, RF.lt⟩
            · refine st_build80 _ 70 69 o.name rfl ?_
              intro q12 Vb hq12 hbX s120 s121 s122
              have s70 := (hbX.cell (p := ⟨q7, 0, none⟩) (by simpa using lt7)).trans s70
              have s71 := (hbX.cell (p := ⟨q7, 1, none⟩) (by simpa using lt7)).trans s71
              have lt7 : q7 < Vb.heap.size := World.block_lt_of_cell? _ _ s70
              have lt12 : q12 < Vb.heap.size := World.block_lt_of_cell? _ _ s120
              have lo12 : W5.heap.size ≤ q12 := by rw [hq12]; exact hB5.below.size
              have hRd := hRd.but hbX (by have := hB5.below.size; omega)
              have hB5 := hB5.next (by have := hB5.below.size; omega) hbX
              clear hq12 hbX
              refine hK.out _ _ (HX10.out.of (hB5.block q10 (by omega) h10l)) (fun hHeld => ?_)
              clear hK K
              simp only [Act.put, List.setIfInBounds_toArray, List.set_cons_succ, List.set_cons_zero]
              refine listH (l2 := #[true, true, true, true, true, true, true, true, false, true, true, true, true, false, true, true, false, false]) (by kernel_rfl) ?_
              refine wpAnyH_ready (rs := [8]) (by kernel_rfl) (by simp) ?_
              refine AllReadyH.cons (o := _) rfl (fun K hK => ?_) AllReadyH.nil
              go_simp
              refine (num_to (fun _ => True) rb (p + 151 + 40 * (10 - j) + 37) q7 2 2 _ (by omega) (by omega) (by omega) (by omega) hRd ?_).mono ?_
              · intro i hi
                match i, hi with
                | 0, _ => exact ⟨_, s70, trivial⟩
                | 1, _ => exact ⟨_, s71, trivial⟩
              rintro e Vc ⟨⟨zz, rfl, _⟩, hRd, hbX⟩
              have s120 := (hbX.cell (q := ⟨q12, 0, none⟩) (by simp; omega) (by simpa using lt12)).trans s120
              have s121 := (hbX.cell (q := ⟨q12, 1, none⟩) (by simp; omega) (by simpa using lt12)).trans s121
              have s122 := (hbX.cell (q := ⟨q12, 2, none⟩) (by simp; omega) (by simpa using lt12)).trans s122
              have lt12 : q12 < Vc.heap.size := World.block_lt_of_cell? _ _ s120
              have hB5 := hB5.trans hbX
              clear hbX s70 s71
              go_wp2_with fail
              refine hK.out _ _ (HX10.out.of (hB5.block q10 (by omega) h10l)) (fun hHeld => ?_)
              clear hK K
              try simp only [Act.put]
              refine listH (l2 := #[true, true, true, true, true, true, true, true, true, true, true, true, true, false, true, true, false, false]) (by kernel_rfl) ?_
              refine wpAnyH_ready (rs := [13]) (by kernel_rfl) (by simp) ?_
              refine AllReadyH.cons (o := _) rfl (fun K hK => ?_) AllReadyH.nil
              go_simp
              refine (of_to rb (p + 151 + 40 * (10 - j) + 37 + 1) q12 3 3 4 _ (by omega) (by omega) (by omega) (by omega) hRd ?_).mono ?_
              · intro i hi
                match i, hi with
                | 0, _ => exact ⟨_, s120, hdo.out.1.1⟩
                | 1, _ => exact ⟨_, s121, by decide⟩
                | 2, _ => exact ⟨_, s122, by decide⟩
              rintro e Vd ⟨⟨ss, rfl, hss⟩, hRd, hbX⟩
              have hB5 := hB5.trans hbX
              clear hbX s120 s121 s122
              go_wp2_with fail
              refine hK.out _ _ (HX10.out.of (hB5.block q10 (by omega) h10l)) (fun hHeld => ?_)
              clear hK K
              try simp only [Act.put]
              refine listH (l2 := #[true, true, true, true, true, true, true, true, true, true, true, true, true, true, true, true, false, false]) (by kernel_rfl) ?_
              refine takeH (i := 16) (oi := _) (v := ?vk32) 74 #[true, true, true, true, true, true, true, true, true, true, true, true, true, true, true, true, true, false] rfl (by kernel_rfl) (by kernel_rfl) (by kernel_rfl) rfl (by kernel_rfl) (fun _ _ _ h => h) (Or.inl ⟨by rfl, ?yk32⟩) (by assumption) ?rk32
              case yk32 => (intro w' hSw; obtain ⟨c0, c1, c2, c3, c4, c5, c6⟩ := hSw; go_simp; try with_reducible rfl)
              simp only [Act.put, List.setIfInBounds_toArray, List.set_cons_succ, List.set_cons_zero]
              refine wpAnyH_ready (rs := [17]) (by kernel_rfl) (by simp) ?_
              refine AllReadyH.cons (o := _) rfl (fun K hK => ?_) AllReadyH.nil
              refine st_store30 _ 11 74 (q10 + 1) 0 ⟨4, o.dir2, o.name2, zz, ss, o.id, ⟨#[]⟩⟩ 7 _ rfl rfl (HX11.out.of_block (hB5.block (q10 + 1) (by omega) h11l)) (by omega) ⟨⟨3, o.dir, o.name, 0, ⟨#[]⟩, o.id, ⟨#[]⟩⟩, rfl, rfl, rfl, rfl, rfl, rfl, rfl⟩ ?_
              intro F hbF RF
              have hBX : BoxAt F (q10 + 1) ⟨4, o.dir2, o.name2, zz, ss, o.id, ⟨#[]⟩⟩ := ⟨by rw [RF.cell (by omega)]; rfl, by rw [RF.cell (by omega)]; rfl, by rw [RF.cell (by omega)]; rfl, by rw [RF.cell (by omega)]; rfl, by rw [RF.cell (by omega)]; rfl, by rw [RF.cell (by omega)]; rfl, by rw [RF.cell (by omega)]; rfl⟩
              have hBX0 : But rb X F := (HB0.out.trans hB5).setOther (by omega) (by omega) hbF
              have hRdF : RdTo F rb (p + 151 + 40 * (10 - j) + 37 + 2) := hRd.setOther (by omega) hbF
              have h10F : F.heap[q10]? = _ := hbF.block q10 (by omega) (by have := hB5.below.size; omega)
              refine hK.out _ _ (BoxAt.of (HX10.out.of (hB5.block q10 (by omega) h10l)) h10F) (fun hHeld => ?_)
              clear hK K
              refine wpAnyH_done (by kernel_rfl) ?_ _
              go_wp2_with fail
              go_meet
              exact ⟨⟨4, o.dir2, o.name2, zz, ss, o.id, ⟨#[]⟩⟩, (HL4.out.next hBX0 hRdF).on (by omega) (Nat.le_refl _), hBX, ⟨hdo.out.1.2.1, hss, Nat.zero_le _⟩, RF.lt⟩
          · refine st_build80 _ 70 69 o.name rfl ?_
            intro q12 Vb hq12 hbX s120 s121 s122
            have lt12 : q12 < Vb.heap.size := World.block_lt_of_cell? _ _ s120
            have lo12 : W5.heap.size ≤ q12 := by rw [hq12]; exact hB5.below.size
            have hRd := hRd.but hbX (by have := hB5.below.size; omega)
            have hB5 := hB5.next (by have := hB5.below.size; omega) hbX
            clear hq12 hbX
            refine hK.out _ _ (HX10.out.of (hB5.block q10 (by omega) h10l)) (fun hHeld => ?_)
            clear hK K
            simp only [Act.put, List.setIfInBounds_toArray, List.set_cons_succ, List.set_cons_zero]
            refine listH (l2 := #[true, true, true, true, true, true, true, false, false, true, true, true, true, false, true, true, false, false]) (by kernel_rfl) ?_
            refine wpAnyH_ready (rs := [7]) (by kernel_rfl) (by simp) ?_
            refine AllReadyH.cons (o := _) rfl (fun K hK => ?_) AllReadyH.nil
            refine st_build27 _ 65 64 o.dir rfl ?_
            intro q7 Va hq7 hbX s70 s71
            have s120 := (hbX.cell (p := ⟨q12, 0, none⟩) (by simpa using lt12)).trans s120
            have s121 := (hbX.cell (p := ⟨q12, 1, none⟩) (by simpa using lt12)).trans s121
            have s122 := (hbX.cell (p := ⟨q12, 2, none⟩) (by simpa using lt12)).trans s122
            have lt12 : q12 < Va.heap.size := World.block_lt_of_cell? _ _ s120
            have lt7 : q7 < Va.heap.size := World.block_lt_of_cell? _ _ s70
            have lo7 : W5.heap.size ≤ q7 := by rw [hq7]; exact hB5.below.size
            have hRd := hRd.but hbX (by have := hB5.below.size; omega)
            have hB5 := hB5.next (by have := hB5.below.size; omega) hbX
            clear hq7 hbX
            refine hK.out _ _ (HX10.out.of (hB5.block q10 (by omega) h10l)) (fun hHeld => ?_)
            clear hK K
            simp only [Act.put, List.setIfInBounds_toArray, List.set_cons_succ, List.set_cons_zero]
            refine listH (l2 := #[true, true, true, true, true, true, true, true, false, true, true, true, true, false, true, true, false, false]) (by kernel_rfl) ?_
            refine wpAnyH_ready (rs := [8]) (by kernel_rfl) (by simp) ?_
            refine AllReadyH.cons (o := _) rfl (fun K hK => ?_) AllReadyH.nil
            go_simp
            refine (num_to (fun _ => True) rb (p + 151 + 40 * (10 - j) + 37) q7 2 2 _ (by omega) (by omega) (by omega) (by omega) hRd ?_).mono ?_
            · intro i hi
              match i, hi with
              | 0, _ => exact ⟨_, s70, trivial⟩
              | 1, _ => exact ⟨_, s71, trivial⟩
            rintro e Vc ⟨⟨zz, rfl, _⟩, hRd, hbX⟩
            have s120 := (hbX.cell (q := ⟨q12, 0, none⟩) (by simp; omega) (by simpa using lt12)).trans s120
            have s121 := (hbX.cell (q := ⟨q12, 1, none⟩) (by simp; omega) (by simpa using lt12)).trans s121
            have s122 := (hbX.cell (q := ⟨q12, 2, none⟩) (by simp; omega) (by simpa using lt12)).trans s122
            have lt12 : q12 < Vc.heap.size := World.block_lt_of_cell? _ _ s120
            have hB5 := hB5.trans hbX
            clear hbX s70 s71
            go_wp2_with fail
            refine hK.out _ _ (HX10.out.of (hB5.block q10 (by omega) h10l)) (fun hHeld => ?_)
            clear hK K
            try simp only [Act.put]
            refine listH (l2 := #[true, true, true, true, true, true, true, true, true, true, true, true, true, false, true, true, false, false]) (by kernel_rfl) ?_
            refine wpAnyH_ready (rs := [13]) (by kernel_rfl) (by simp) ?_
            refine AllReadyH.cons (o := _) rfl (fun K hK => ?_) AllReadyH.nil
            go_simp
            refine (of_to rb (p + 151 + 40 * (10 - j) + 37 + 1) q12 3 3 4 _ (by omega) (by omega) (by omega) (by omega) hRd ?_).mono ?_
            · intro i hi
              match i, hi with
              | 0, _ => exact ⟨_, s120, hdo.out.1.1⟩
              | 1, _ => exact ⟨_, s121, by decide⟩
              | 2, _ => exact ⟨_, s122, by decide⟩
            rintro e Vd ⟨⟨ss, rfl, hss⟩, hRd, hbX⟩
            have hB5 := hB5.trans hbX
            clear hbX s120 s121 s122
            go_wp2_with fail
            refine hK.out _ _ (HX10.out.of (hB5.block q10 (by omega) h10l)) (fun hHeld => ?_)
            clear hK K
            try simp only [Act.put]
            refine listH (l2 := #[true, true, true, true, true, true, true, true, true, true, true, true, true, true, true, true, false, false]) (by kernel_rfl) ?_
            refine takeH (i := 16) (oi := _) (v := ?vk33) 74 #[true, true, true, true, true, true, true, true, true, true, true, true, true, true, true, true, true, false] rfl (by kernel_rfl) (by kernel_rfl) (by kernel_rfl) rfl (by kernel_rfl) (fun _ _ _ h => h) (Or.inl ⟨by rfl, ?yk33⟩) (by assumption) ?rk33
            case yk33 => (intro w' hSw; obtain ⟨c0, c1, c2, c3, c4, c5, c6⟩ := hSw; go_simp; try with_reducible rfl)
            simp only [Act.put, List.setIfInBounds_toArray, List.set_cons_succ, List.set_cons_zero]
            refine wpAnyH_ready (rs := [17]) (by kernel_rfl) (by simp) ?_
            refine AllReadyH.cons (o := _) rfl (fun K hK => ?_) AllReadyH.nil
            refine st_store30 _ 11 74 (q10 + 1) 0 ⟨4, o.dir2, o.name2, zz, ss, o.id, ⟨#[]⟩⟩ 7 _ rfl rfl (HX11.out.of_block (hB5.block (q10 + 1) (by omega) h11l)) (by omega) ⟨⟨3, o.dir, o.name, 0, ⟨#[]⟩, o.id, ⟨#[]⟩⟩, rfl, rfl, rfl, rfl, rfl, rfl, rfl⟩ ?_
            intro F hbF RF
            have hBX : BoxAt F (q10 + 1) ⟨4, o.dir2, o.name2, zz, ss, o.id, ⟨#[]⟩⟩ := ⟨by rw [RF.cell (by omega)]; rfl, by rw [RF.cell (by omega)]; rfl, by rw [RF.cell (by omega)]; rfl, by rw [RF.cell (by omega)]; rfl, by rw [RF.cell (by omega)]; rfl, by rw [RF.cell (by omega)]; rfl, by rw [RF.cell (by omega)]; rfl⟩
            have hBX0 : But rb X F := (HB0.out.trans hB5).setOther (by omega) (by omega) hbF
            have hRdF : RdTo F rb (p + 151 + 40 * (10 - j) + 37 + 2) := hRd.setOther (by omega) hbF
            have h10F : F.heap[q10]? = _ := hbF.block q10 (by omega) (by have := hB5.below.size; omega)
            refine hK.out _ _ (BoxAt.of (HX10.out.of (hB5.block q10 (by omega) h10l)) h10F) (fun hHeld => ?_)
            clear hK K
            refine wpAnyH_done (by kernel_rfl) ?_ _
            go_wp2_with fail
            go_meet
            exact ⟨⟨4, o.dir2, o.name2, zz, ss, o.id, ⟨#[]⟩⟩, (HL4.out.next hBX0 hRdF).on (by omega) (Nat.le_refl _), hBX, ⟨hdo.out.1.2.1, hss, Nat.zero_le _⟩, RF.lt⟩
      obtain ⟨bk, hL5, hBX, hSB, h11l⟩ := hcut
      have HSB : Hid (OpSm bk) := hSB
      have HL5 : Hid (LS w wc rb (p + 151 + 40 * (10 - j) + 39) w.heap.size q4 q5 b2 c2 (60 + 15 * (10 - j) + 12) v4 os2 vs2 out2) := hL5
      have HBX : Hid (BoxAt wc (q10 + 1) bk) := hBX
      clear hL5 hBX hSB HX10 HX11 HB0 hRd h10l HL4
      go_wp2_with fail
      refine (pick_to rb (p + 151 + 40 * (10 - j) + 39) 2 _ (by omega) (by omega) (by omega) HL5.out.rd).mono ?_
      rintro e V6 ⟨⟨k2, rfl, hk2⟩, hr6, hb6⟩
      have HL6 : Hid (LS w V6 rb (p + 151 + 40 * (10 - j) + 39 + 1) w.heap.size q4 q5 b2 c2 (60 + 15 * (10 - j) + 12) v4 os2 vs2 out2) := HL5.out.next hb6 hr6
      have HB6 : Hid (BoxAt V6 (q10 + 1) bk) := HBX.out.of (hb6.block (q10 + 1) (by omega) h11l)
      have h11l6 : (q10 + 1) < V6.heap.size := by have := hb6.below.size; omega
      clear HL5 HBX hb6 hr6 h11l
      obtain ⟨va, vc, hva, _⟩ := HL6.out.list.at_ (fun o ho => (HL6.out.lsm o ho).1.sz)
      subst hva
      by_cases hk0 : k2 = 0
      · subst hk0
        by_cases h50 : out2.length < 50
        · have t2 : ((out2.length : Nat) : Int) < 50 := by omega
          obtain ⟨e0, e1, e2, e3, e4, e5, e6⟩ := HB6.out
          have HOK := fun W => opOk_any bk W HSB.out.sz.name HSB.out.sz.name2 HSB.out.sz.text
          simp only [LOp.val] at HOK
          go_wp2_with fail
          refine (HOK _).mono ?_
          rintro e V7 ⟨rfl, hV7⟩
          have hb7 : Below V6.heap.size V6 V7 := by rw [hV7]; exact (Below.refl _ _).alloc (Nat.le_refl _) _
          have HL7 : Hid (LS w V7 rb (p + 151 + 40 * (10 - j) + 39 + 1) w.heap.size q4 q5 b2 c2 (60 + 15 * (10 - j) + 12) _ os2 vs2 out2) := HL6.out.more hb7
          have HB7 : Hid (BoxAt V7 (q10 + 1) bk) := HB6.out.next h11l6 hb7
          have h11l7 : (q10 + 1) < V7.heap.size := by have := hb7.size; omega
          clear HOK HL6 HB6 e0 e1 e2 e3 e4 e5 e6 hV7 hb7 h11l6
          rcases hok : opOk bk with _ | _
          · clear hok
            go_wp2_with fail
            go_roundg (j - 1)
            case measure => have := hg.out; omega
            case rel => exact ⟨j - 1, by omega, rfl, by go_num, b2, c2, os2, vs2, out2, HL7.out.on (by omega) (by omega), by omega⟩
          · have HOK : Hid (opOk bk = true) := hok
            clear hok
            have s5c := HL7.out.r5.cell (i := 0) (by omega)
            have h5l := HL7.out.r5.lt
            have HO7 : Hid (ObjsAt V7 w.heap.size V7.heap.size (some ⟨b2, 0, none⟩) 32 os2) := by
              show ObjsAt _ _ _ _ _ _
              have := HL7.out.tree.to_objs
              rwa [HL7.out.len] at this
            have HAL : Hid (Sm (actDo os2 bk).1 (60 + 15 * (10 - j) + 15) ∧ (actDo os2 bk).1.length = 32) := ⟨(actDo_sm HL7.out.sm HSB.out).1.mono (by omega), (actDo_sm HL7.out.sm HSB.out).2.trans HL7.out.len⟩
            have HDO := fun (bb cc : Nat) (W : World) (vss : Nat → Value) (h1 : V7.heap.size ≤ W.heap.size) (h2 : OwnT W V7.heap.size bb cc os2 vss) => do_any V7.heap.size bb cc 32 bk os2 vss W HOK.out HL7.out.len.symm (by omega) h1 (HL7.out.sm.bd (by omega)) HSB.out.sz h2
            simp only [LOp.val] at HDO
            have hB8 : Below V7.heap.size V7 V7.drew := (Below.refl _ _).drew
            go_upto_region 19 with fail
            go_cut [12, 13] (fun s12 s13 wx => ∃ q12 b9 c9 vs9, s12 = .pointer (some ⟨q12, 0, none⟩) ∧ s13 = .int .i64 (actDo os2 bk).2 ∧ wx.cell? ⟨q12, 0, none⟩ = some (.slice (some ⟨b9, 0, none⟩) 32 c9) ∧ OwnT wx V7.heap.size b9 c9 (actDo os2 bk).1 vs9 ∧ Below V7.heap.size V7 wx)
            case first =>
              refine wp_region_held_drew (S := (fun W => W.cell? ⟨q5, 0, none⟩ = some (.slice (some ⟨b2, 0, none⟩) 32 c2) ∧ BoxAt W (q10 + 1) bk)) (by kernel_rfl) ?_ (fun hHeld => ?_)
              · exact ⟨s5c, HB7.out.of rfl⟩
              refine listH (l2 := #[false, false, false, false, false, false, false, false, false, false]) (by kernel_rfl) ?_
              refine takeH (i := 0) (oi := _) (v := ?vk34) 96 #[true, false, false, false, false, false, false, false, false, false] rfl (by kernel_rfl) (by kernel_rfl) (by kernel_rfl) rfl (by kernel_rfl) (fun _ _ _ h => h) (Or.inl ⟨by rfl, ?yk34⟩) (by assumption) ?rk34
              case yk34 => (intro w' hSw; obtain ⟨s5', ⟨c0, c1, c2, c3, c4, c5, c6⟩⟩ := hSw; go_simp; try with_reducible rfl)
              simp only [Act.put, List.setIfInBounds_toArray, List.set_cons_succ, List.set_cons_zero]
              refine takeH (i := 2) (oi := _) (v := ?vk35) 98 #[true, false, true, false, false, false, false, false, false, false] rfl (by kernel_rfl) (by kernel_rfl) (by kernel_rfl) rfl (by kernel_rfl) (fun _ _ _ h => h) (Or.inl ⟨by rfl, ?yk35⟩) (by assumption) ?rk35
              case yk35 => (intro w' hSw; obtain ⟨s5', ⟨c0, c1, c2, c3, c4, c5, c6⟩⟩ := hSw; go_simp; try with_reducible rfl)
              simp only [Act.put, List.setIfInBounds_toArray, List.set_cons_succ, List.set_cons_zero]
              refine wpAnyH_ready (rs := [1, 7]) (by kernel_rfl) (by simp) ?_
              refine AllReadyH.cons (o := _) rfl (fun K hK => ?_) (AllReadyH.cons (o := _) rfl (fun K hK => ?_) AllReadyH.nil)
              · go_simp
                refine (copy_any (some ⟨b2, 0, none⟩) 32 c2 os2 w.heap.size V7.heap.size _ (by omega) (by omega) (HL7.out.sm.sizes (by omega)) hB8.size (HO7.out.below hB8 (Nat.le_refl _))).mono ?_
                rintro e V1 ⟨⟨vv, vs3, rfl, hcp⟩, hbA⟩
                obtain ⟨b3c, c3c, rfl, hT3⟩ := hcp.out.done HL7.out.len.symm (by omega) HL7.out.sm.short
                have hT3 := hT3.base hB8.size
                have hB8 : Below V7.heap.size V7 V1 := hB8.trans (hbA.mono hB8.size)
                clear hcp hbA
                go_wp2_with fail
                refine hK.out _ _ (⟨by rw [hB8.cell (by simp; omega)]; exact s5c, HB7.out.of (hB8.block (q10 + 1) h11l7)⟩) (fun hHeld => ?_)
                clear hK K
                try simp only [Act.put]
                refine listH (l2 := #[true, true, true, false, false, false, false, false, false, false]) (by kernel_rfl) ?_
                refine wpAnyH_ready (rs := [3, 7]) (by kernel_rfl) (by simp) ?_
                refine AllReadyH.cons (o := _) rfl (fun K hK => ?_) (AllReadyH.cons (o := _) rfl (fun K hK => ?_) AllReadyH.nil)
                · go_simp
                  refine (HDO _ _ _ _ hB8.size hT3).mono ?_
                  rintro e V3 ⟨vs4, rfl, hT4, hbB, hk3⟩
                  have hB8 : Below V7.heap.size V7 V3 := hB8.trans hbB
                  clear hbB hk3 hT3
                  rw [HAL.out.2]
                  go_wp2_with fail
                  refine hK.out _ _ (⟨by rw [hB8.cell (by simp; omega)]; exact s5c, HB7.out.of (hB8.block (q10 + 1) h11l7)⟩) (fun hHeld => ?_)
                  clear hK K
                  try simp only [Act.put]
                  refine listH (l2 := #[true, true, true, true, false, false, false, false, false, false]) (by kernel_rfl) ?_
                  refine takeH (i := 4) (oi := _) (v := ?vk36) 95 #[true, true, true, true, true, false, false, false, false, false] rfl (by kernel_rfl) (by kernel_rfl) (by kernel_rfl) rfl (by kernel_rfl) (fun _ _ _ h => h) (Or.inl ⟨by rfl, ?yk36⟩) (by assumption) ?rk36
                  case yk36 => (intro w' hSw; obtain ⟨s5', ⟨c0, c1, c2, c3, c4, c5, c6⟩⟩ := hSw; go_simp; try with_reducible rfl)
                  simp only [Act.put, List.setIfInBounds_toArray, List.set_cons_succ, List.set_cons_zero]
                  refine takeH (i := 5) (oi := _) (v := ?vk37) 100 #[true, true, true, true, true, true, false, false, false, false] rfl (by kernel_rfl) (by kernel_rfl) (by kernel_rfl) rfl (by kernel_rfl) (fun _ _ _ h => h) (Or.inl ⟨by rfl, ?yk37⟩) (by assumption) ?rk37
                  case yk37 => (intro w' hSw; obtain ⟨s5', ⟨c0, c1, c2, c3, c4, c5, c6⟩⟩ := hSw; go_simp; try with_reducible rfl)
                  simp only [Act.put, List.setIfInBounds_toArray, List.set_cons_succ, List.set_cons_zero]
                  refine takeH (i := 6) (oi := _) (v := ?vk38) 101 #[true, true, true, true, true, true, true, false, false, false] rfl (by kernel_rfl) (by kernel_rfl) (by kernel_rfl) rfl (by kernel_rfl) (fun _ _ _ h => h) (Or.inl ⟨by rfl, ?yk38⟩) (by assumption) ?rk38
                  case yk38 => (intro w' hSw; obtain ⟨s5', ⟨c0, c1, c2, c3, c4, c5, c6⟩⟩ := hSw; go_simp; try with_reducible rfl)
                  simp only [Act.put, List.setIfInBounds_toArray, List.set_cons_succ, List.set_cons_zero]
                  refine wpAnyH_ready (rs := [7]) (by kernel_rfl) (by simp) ?_
                  refine AllReadyH.cons (o := _) rfl (fun K hK => ?_) AllReadyH.nil
                  refine st_alloc53 _ 12 ?_
                  intro q12 V9 hq12 hb9 R12
                  have lo12 : V7.heap.size ≤ q12 := by rw [hq12]; exact hB8.size
                  have hB8 : Below V7.heap.size V7 V9 := hB8.trans (hb9.mono hB8.size)
                  have hT4 := hT4.below hb9
                  clear hq12 hb9
                  refine hK.out _ _ (⟨by rw [hB8.cell (by simp; omega)]; exact s5c, HB7.out.of (hB8.block (q10 + 1) h11l7)⟩) (fun hHeld => ?_)
                  clear hK K
                  simp only [Act.put, List.setIfInBounds_toArray, List.set_cons_succ, List.set_cons_zero]
                  refine listH (l2 := #[true, true, true, true, true, true, true, true, false, false]) (by kernel_rfl) ?_
                  refine wpAnyH_ready (rs := [8]) (by kernel_rfl) (by simp) ?_
                  refine AllReadyH.cons (o := _) rfl (fun K hK => ?_) AllReadyH.nil
                  refine st_store53 _ 12 100 q12 (.slice (some ⟨b3c, 0, none⟩) 32 c3c) _ rfl (some ⟨b3c, 0, none⟩) 32 c3c rfl rfl R12 ?_
                  intro F _ hF hc12
                  subst hF
                  have hT4 := hT4.setBox ⟨_, R12⟩ 0 (.slice (some ⟨b3c, 0, none⟩) 32 c3c)
                  have hB8 := hB8.setCell (p := ⟨q12, 0, none⟩) lo12 (.slice (some ⟨b3c, 0, none⟩) 32 c3c)
                  refine hK.out _ _ (⟨by rw [hB8.cell (by simp; omega)]; exact s5c, HB7.out.of (hB8.block (q10 + 1) h11l7)⟩) (fun hHeld => ?_)
                  clear hK K
                  refine listH (l2 := #[true, true, true, true, true, true, true, true, true, false]) (by kernel_rfl) ?_
                  refine wpAnyH_ready (rs := [9]) (by kernel_rfl) (by simp) ?_
                  refine AllReadyH.cons (o := _) rfl (fun K hK => ?_) AllReadyH.nil
                  go_simp
                  refine hK.out _ _ hHeld (fun hHeld => ?_)
                  clear hK K
                  try simp only [Act.put]
                  refine wpAnyH_done (by kernel_rfl) ?_ _
                  go_wp2_with fail
                  go_meet
                  exact ⟨q12, b3c, c3c, vs4, rfl, rfl, hc12, hT4, hB8⟩
                · refine st_alloc53 _ 12 ?_
                  intro q12 V9 hq12 hb9 R12
                  have lo12 : V7.heap.size ≤ q12 := by rw [hq12]; exact hB8.size
                  have hB8 : Below V7.heap.size V7 V9 := hB8.trans (hb9.mono hB8.size)
                  have hT3 := hT3.below hb9
                  clear hq12 hb9
                  refine hK.out _ _ (⟨by rw [hB8.cell (by simp; omega)]; exact s5c, HB7.out.of (hB8.block (q10 + 1) h11l7)⟩) (fun hHeld => ?_)
                  clear hK K
                  simp only [Act.put, List.setIfInBounds_toArray, List.set_cons_succ, List.set_cons_zero]
                  refine listH (l2 := #[true, true, true, false, false, false, false, true, false, false]) (by kernel_rfl) ?_
                  refine wpAnyH_ready (rs := [3]) (by kernel_rfl) (by simp) ?_
                  refine AllReadyH.cons (o := _) rfl (fun K hK => ?_) AllReadyH.nil
                  go_simp
                  refine (HDO _ _ _ _ hB8.size hT3).mono ?_
                  rintro e V3 ⟨vs4, rfl, hT4, hbB, hk3⟩
                  have R12 := box_Kt R12 hT3 HL7.out.len hk3
                  have hB8 : Below V7.heap.size V7 V3 := hB8.trans hbB
                  clear hbB hk3 hT3
                  rw [HAL.out.2]
                  go_wp2_with fail
                  refine hK.out _ _ (⟨by rw [hB8.cell (by simp; omega)]; exact s5c, HB7.out.of (hB8.block (q10 + 1) h11l7)⟩) (fun hHeld => ?_)
                  clear hK K
                  try simp only [Act.put]
                  refine listH (l2 := #[true, true, true, true, false, false, false, true, false, false]) (by kernel_rfl) ?_
                  refine takeH (i := 4) (oi := _) (v := ?vk39) 95 #[true, true, true, true, true, false, false, true, false, false] rfl (by kernel_rfl) (by kernel_rfl) (by kernel_rfl) rfl (by kernel_rfl) (fun _ _ _ h => h) (Or.inl ⟨by rfl, ?yk39⟩) (by assumption) ?rk39
                  case yk39 => (intro w' hSw; obtain ⟨s5', ⟨c0, c1, c2, c3, c4, c5, c6⟩⟩ := hSw; go_simp; try with_reducible rfl)
                  simp only [Act.put, List.setIfInBounds_toArray, List.set_cons_succ, List.set_cons_zero]
                  refine takeH (i := 5) (oi := _) (v := ?vk40) 100 #[true, true, true, true, true, true, false, true, false, false] rfl (by kernel_rfl) (by kernel_rfl) (by kernel_rfl) rfl (by kernel_rfl) (fun _ _ _ h => h) (Or.inl ⟨by rfl, ?yk40⟩) (by assumption) ?rk40
                  case yk40 => (intro w' hSw; obtain ⟨s5', ⟨c0, c1, c2, c3, c4, c5, c6⟩⟩ := hSw; go_simp; try with_reducible rfl)
                  simp only [Act.put, List.setIfInBounds_toArray, List.set_cons_succ, List.set_cons_zero]
                  refine takeH (i := 6) (oi := _) (v := ?vk41) 101 #[true, true, true, true, true, true, true, true, false, false] rfl (by kernel_rfl) (by kernel_rfl) (by kernel_rfl) rfl (by kernel_rfl) (fun _ _ _ h => h) (Or.inl ⟨by rfl, ?yk41⟩) (by assumption) ?rk41
                  case yk41 => (intro w' hSw; obtain ⟨s5', ⟨c0, c1, c2, c3, c4, c5, c6⟩⟩ := hSw; go_simp; try with_reducible rfl)
                  simp only [Act.put, List.setIfInBounds_toArray, List.set_cons_succ, List.set_cons_zero]
                  refine wpAnyH_ready (rs := [8]) (by kernel_rfl) (by simp) ?_
                  refine AllReadyH.cons (o := _) rfl (fun K hK => ?_) AllReadyH.nil
                  refine st_store53 _ 12 100 q12 (.slice (some ⟨b3c, 0, none⟩) 32 c3c) _ rfl (some ⟨b3c, 0, none⟩) 32 c3c rfl rfl R12 ?_
                  intro F _ hF hc12
                  subst hF
                  have hT4 := hT4.setBox ⟨_, R12⟩ 0 (.slice (some ⟨b3c, 0, none⟩) 32 c3c)
                  have hB8 := hB8.setCell (p := ⟨q12, 0, none⟩) lo12 (.slice (some ⟨b3c, 0, none⟩) 32 c3c)
                  refine hK.out _ _ (⟨by rw [hB8.cell (by simp; omega)]; exact s5c, HB7.out.of (hB8.block (q10 + 1) h11l7)⟩) (fun hHeld => ?_)
                  clear hK K
                  refine listH (l2 := #[true, true, true, true, true, true, true, true, true, false]) (by kernel_rfl) ?_
                  refine wpAnyH_ready (rs := [9]) (by kernel_rfl) (by simp) ?_
                  refine AllReadyH.cons (o := _) rfl (fun K hK => ?_) AllReadyH.nil
                  go_simp
                  refine hK.out _ _ hHeld (fun hHeld => ?_)
                  clear hK K
                  try simp only [Act.put]
                  refine wpAnyH_done (by kernel_rfl) ?_ _
                  go_wp2_with fail
                  go_meet
                  exact ⟨q12, b3c, c3c, vs4, rfl, rfl, hc12, hT4, hB8⟩
              · refine st_alloc53 _ 12 ?_
                intro q12 V9 hq12 hb9 R12
                have lo12 : V7.heap.size ≤ q12 := by rw [hq12]; exact hB8.size
                have hB8 : Below V7.heap.size V7 V9 := hB8.trans (hb9.mono hB8.size)
                clear hq12 hb9
                refine hK.out _ _ (⟨by rw [hB8.cell (by simp; omega)]; exact s5c, HB7.out.of (hB8.block (q10 + 1) h11l7)⟩) (fun hHeld => ?_)
                clear hK K
                simp only [Act.put, List.setIfInBounds_toArray, List.set_cons_succ, List.set_cons_zero]
                refine listH (l2 := #[true, false, true, false, false, false, false, true, false, false]) (by kernel_rfl) ?_
                refine wpAnyH_ready (rs := [1]) (by kernel_rfl) (by simp) ?_
                refine AllReadyH.cons (o := _) rfl (fun K hK => ?_) AllReadyH.nil
                go_simp
                refine (copy_any (some ⟨b2, 0, none⟩) 32 c2 os2 w.heap.size V7.heap.size _ (by omega) (by omega) (HL7.out.sm.sizes (by omega)) hB8.size (HO7.out.below hB8 (Nat.le_refl _))).mono ?_
                rintro e V1 ⟨⟨vv, vs3, rfl, hcp⟩, hbA⟩
                obtain ⟨b3c, c3c, rfl, hT3⟩ := hcp.out.done HL7.out.len.symm (by omega) HL7.out.sm.short
                have hT3 := hT3.base hB8.size
                have R12 := R12.of_block (hbA.block q12 R12.lt)
                have hB8 : Below V7.heap.size V7 V1 := hB8.trans (hbA.mono hB8.size)
                clear hcp hbA
                go_wp2_with fail
                refine hK.out _ _ (⟨by rw [hB8.cell (by simp; omega)]; exact s5c, HB7.out.of (hB8.block (q10 + 1) h11l7)⟩) (fun hHeld => ?_)
                clear hK K
                try simp only [Act.put]
                refine listH (l2 := #[true, true, true, false, false, false, false, true, false, false]) (by kernel_rfl) ?_
                refine wpAnyH_ready (rs := [3]) (by kernel_rfl) (by simp) ?_
                refine AllReadyH.cons (o := _) rfl (fun K hK => ?_) AllReadyH.nil
                go_simp
                refine (HDO _ _ _ _ hB8.size hT3).mono ?_
                rintro e V3 ⟨vs4, rfl, hT4, hbB, hk3⟩
                have R12 := box_Kt R12 hT3 HL7.out.len hk3
                have hB8 : Below V7.heap.size V7 V3 := hB8.trans hbB
                clear hbB hk3 hT3
                rw [HAL.out.2]
                go_wp2_with fail
                refine hK.out _ _ (⟨by rw [hB8.cell (by simp; omega)]; exact s5c, HB7.out.of (hB8.block (q10 + 1) h11l7)⟩) (fun hHeld => ?_)
                clear hK K
                try simp only [Act.put]
                refine listH (l2 := #[true, true, true, true, false, false, false, true, false, false]) (by kernel_rfl) ?_
                refine takeH (i := 4) (oi := _) (v := ?vk42) 95 #[true, true, true, true, true, false, false, true, false, false] rfl (by kernel_rfl) (by kernel_rfl) (by kernel_rfl) rfl (by kernel_rfl) (fun _ _ _ h => h) (Or.inl ⟨by rfl, ?yk42⟩) (by assumption) ?rk42
                case yk42 => (intro w' hSw; obtain ⟨s5', ⟨c0, c1, c2, c3, c4, c5, c6⟩⟩ := hSw; go_simp; try with_reducible rfl)
                simp only [Act.put, List.setIfInBounds_toArray, List.set_cons_succ, List.set_cons_zero]
                refine takeH (i := 5) (oi := _) (v := ?vk43) 100 #[true, true, true, true, true, true, false, true, false, false] rfl (by kernel_rfl) (by kernel_rfl) (by kernel_rfl) rfl (by kernel_rfl) (fun _ _ _ h => h) (Or.inl ⟨by rfl, ?yk43⟩) (by assumption) ?rk43
                case yk43 => (intro w' hSw; obtain ⟨s5', ⟨c0, c1, c2, c3, c4, c5, c6⟩⟩ := hSw; go_simp; try with_reducible rfl)
                simp only [Act.put, List.setIfInBounds_toArray, List.set_cons_succ, List.set_cons_zero]
                refine takeH (i := 6) (oi := _) (v := ?vk44) 101 #[true, true, true, true, true, true, true, true, false, false] rfl (by kernel_rfl) (by kernel_rfl) (by kernel_rfl) rfl (by kernel_rfl) (fun _ _ _ h => h) (Or.inl ⟨by rfl, ?yk44⟩) (by assumption) ?rk44
                case yk44 => (intro w' hSw; obtain ⟨s5', ⟨c0, c1, c2, c3, c4, c5, c6⟩⟩ := hSw; go_simp; try with_reducible rfl)
                simp only [Act.put, List.setIfInBounds_toArray, List.set_cons_succ, List.set_cons_zero]
                refine wpAnyH_ready (rs := [8]) (by kernel_rfl) (by simp) ?_
                refine AllReadyH.cons (o := _) rfl (fun K hK => ?_) AllReadyH.nil
                refine st_store53 _ 12 100 q12 (.slice (some ⟨b3c, 0, none⟩) 32 c3c) _ rfl (some ⟨b3c, 0, none⟩) 32 c3c rfl rfl R12 ?_
                intro F _ hF hc12
                subst hF
                have hT4 := hT4.setBox ⟨_, R12⟩ 0 (.slice (some ⟨b3c, 0, none⟩) 32 c3c)
                have hB8 := hB8.setCell (p := ⟨q12, 0, none⟩) lo12 (.slice (some ⟨b3c, 0, none⟩) 32 c3c)
                refine hK.out _ _ (⟨by rw [hB8.cell (by simp; omega)]; exact s5c, HB7.out.of (hB8.block (q10 + 1) h11l7)⟩) (fun hHeld => ?_)
                clear hK K
                refine listH (l2 := #[true, true, true, true, true, true, true, true, true, false]) (by kernel_rfl) ?_
                refine wpAnyH_ready (rs := [9]) (by kernel_rfl) (by simp) ?_
                refine AllReadyH.cons (o := _) rfl (fun K hK => ?_) AllReadyH.nil
                go_simp
                refine hK.out _ _ hHeld (fun hHeld => ?_)
                clear hK K
                try simp only [Act.put]
                refine wpAnyH_done (by kernel_rfl) ?_ _
                go_wp2_with fail
                go_meet
                exact ⟨q12, b3c, c3c, vs4, rfl, rfl, hc12, hT4, hB8⟩
            obtain ⟨q12, b9, c9, vs9, rfl, rfl, hc12, hT9, hB9⟩ := hcut
            have HL9 : Hid (LS w wc rb (p + 151 + 40 * (10 - j) + 39 + 1) w.heap.size q4 q5 b2 c2 (60 + 15 * (10 - j) + 12) _ os2 vs2 out2) := HL7.out.more hB9
            have HB9 : Hid (BoxAt wc (q10 + 1) bk) := HB7.out.next h11l7 hB9
            have hz9 := hB9.size
            have hz7 := HL7.out.size
            have HT9 : Hid (OwnT wc w.heap.size b9 c9 (actDo os2 bk).1 vs9) := hT9.base (by omega)
            clear HDO HO7 HL7 HB7 hB8 hT9 s5c
            by_cases hc0 : (actDo os2 bk).2 = 0
            · have t3 : ((actDo os2 bk).2 == 0) = true := by simpa using hc0
              have HDB : Hid (DoneOp bk) := ⟨HSB.out, HOK.out, fun h3 => actDo_gone HOK.out hc0 h3⟩
              have s5c := HL9.out.r5.cell (i := 0) (by omega)
              have s5z := HL9.out.r5.frozen 0
              have h5q : q10 + 1 ≠ q5 := fun e => by
                have h1 := HB9.out.c0
                rw [e, s5c] at h1
                simp at h1
              have HLA : Hid (LS w (wc.setCell ⟨q5, 0, none⟩ (.slice (some ⟨b9, 0, none⟩) 32 c9)) rb (p + 151 + 40 * (10 - j) + 39 + 1) w.heap.size q4 q5 b9 c9 (60 + 15 * (10 - j) + 15) _ (actDo os2 bk).1 vs9 out2) := HL9.out.store HT9.out HAL.out.2 HAL.out.1
              have HBA : Hid (BoxAt (wc.setCell ⟨q5, 0, none⟩ (.slice (some ⟨b9, 0, none⟩) 32 c9)) (q10 + 1) bk) := HB9.out.of (Below.heap_setCell wc ⟨q5, 0, none⟩ _ _ (by simpa using h5q))
              obtain ⟨e0, e1, e2, e3, e4, e5, e6⟩ := HBA.out
              clear HL9 HB9 HT9
              go_wp2_with (first
                | (at_builtin; refine wpList_app_ops _ rfl (.tmp 105) (.tmp 107) rfl w.heap.size _ out2 [bk] (HLA.out.list.alloc _) ⟨wc.heap.size, 0, none⟩ 1 1 rfl rfl rfl ?c1 ?c2 ?c3 ?_)
                | go_in)
              case c1 => intro i u hi; exact seven_at hi (by simp)
              case c2 => simp; omega
              case c3 => simp; omega
              intro v8 w8 hE8
              have HLB : Hid (LS w w8 rb (p + 151 + 40 * (10 - j) + 39 + 1) w.heap.size q4 q5 b9 c9 (60 + 15 * (10 - j) + 15) v8 (actDo os2 bk).1 vs9 (out2 ++ [bk])) := (HLA.out.more ((Below.refl _ _).alloc (Nat.le_refl _) _)).app hE8 (fun o ho => by simp at ho; subst ho; exact HDB.out)
              have hlen8 : (out2 ++ [bk]).length ≤ 1001 * (10 - (j - 1)) := by simp; omega
              clear hE8 HLA HBA
              go_wp2_with fail
              go_roundg (j - 1)
              case measure => have := hg.out; omega
              case rel => exact ⟨j - 1, by omega, rfl, by go_num, b9, c9, (actDo os2 bk).1, vs9, out2 ++ [bk], HLB.out.on (by omega) (by omega), hlen8⟩
            · have t3 : ((actDo os2 bk).2 == 0) = false := by simpa using hc0
              go_wp2_with fail
              go_roundg (j - 1)
              case measure => have := hg.out; omega
              case rel => exact ⟨j - 1, by omega, rfl, by go_num, b2, c2, os2, vs2, out2, HL9.out.on (by omega) (by omega), by omega⟩
        · have t2 : ¬ ((out2.length : Nat) : Int) < 50 := by omega
          go_wp2_with fail
          go_roundg (j - 1)
          case measure => have := hg.out; omega
          case rel => exact ⟨j - 1, by omega, rfl, by go_num, b2, c2, os2, vs2, out2, HL6.out.on (by omega) (by omega), by omega⟩
      · have t1 : ((k2 : Int) == 0) = false := beq_eq_false_iff_ne.2 (by omega)
        clear hk0
        go_wp2_with fail
        go_roundg (j - 1)
        case measure => have := hg.out; omega
        case rel => exact ⟨j - 1, by omega, rfl, by go_num, b2, c2, os2, vs2, out2, HL6.out.on (by omega) (by omega), by omega⟩
    · obtain rfl : j = 0 := by omega
      have hm : ¬ (0 : Int) < ((0 : Nat) : Int) := by omega
      obtain ⟨f2, h2⟩ := HLS.out.r2
      obtain ⟨a4, n4, c4, h4⟩ := HLS.out.r4
      have y4 := h4.cell (i := 0) (by omega)
      have y2 := h2.cell (i := 0) (by omega)
      have z2 := h2.frozen 0
      have hl2 := HLS.out.l2
      have hl4 := HLS.out.l4
      have hlt2 := h2.lt
      have hlt4 := h4.lt
      have hsz := HLS.out.size
      have HR2 : Hid (wr.rowIs w.heap.size 34 1 f2) := h2
      obtain ⟨va, vc, hva, _⟩ := HLS.out.list.at_ (fun o ho => (HLS.out.lsm o ho).1.sz)
      subst hva
      have hB9 : But rb w (wr.setCell ⟨w.heap.size, 0, none⟩ (.slice a4 n4 c4)) := HLS.out.but.setNew (Nat.le_refl _) (by omega) _
      have hR9 : RdTo (wr.setCell ⟨w.heap.size, 0, none⟩ (.slice a4 n4 c4)) rb (p + 600) := RdTo.set (by obtain ⟨pp, h1, h2⟩ := HLS.out.rd; exact ⟨pp, by omega, h2⟩) (by omega) _
      by_cases h60 : 60 < out.length
      · have t6 : (60 : Int) < ((out.length : Nat) : Int) := by omega
        obtain ⟨g6, cap6, hv6, hcp6⟩ : ∃ g6 cap6, (Value.slice va out.length vc) = .slice (some ⟨g6, 0, none⟩) out.length cap6 ∧ out.length ≤ cap6 := by
          rcases HLS.out.list.2 with ⟨h1, _⟩ | ⟨g, cap, cur, h1, _, _, h2, _⟩
          · simp at h1; omega
          · exact ⟨g, cap, h1, by omega⟩
        simp only [Value.slice.injEq] at hv6
        obtain ⟨rfl, _, rfl⟩ := hv6
        have hcI : (60 : Int) ≤ ((vc : Nat) : Int) := by omega
        have ho9 : OwnOps (wr.setCell ⟨w.heap.size, 0, none⟩ (.slice a4 n4 c4)) w.heap.size (.slice (some ⟨g6, 0, none⟩) 60 vc) (out.take 60) := (HLS.out.list.setBox HR2.out _).cut rfl (by omega)
        have hd9 : Hid (∀ o ∈ out.take 60, DoneOp o) := fun o ho => HLS.out.lsm o (List.mem_of_mem_take ho)
        go_wp2_with fail
        exact bodyPost_ret (v := .tuple #[.agg #[.slice a4 n4 c4], .slice (some ⟨g6, 0, none⟩) 60 vc]) (by rw [results, Try.results78]; simp [go_sem, World.cell?_setCell_same _ _ _ y2]) rfl ⟨_, _, _, _, _, rfl, ho9, by simp; omega, hd9.out, hR9, hB9⟩
      · have t6 : ¬ (60 : Int) < ((out.length : Nat) : Int) := by omega
        have ho9 : OwnOps (wr.setCell ⟨w.heap.size, 0, none⟩ (.slice a4 n4 c4)) w.heap.size (.slice va out.length vc) out := HLS.out.list.setBox HR2.out _
        have hd9 : Hid (∀ o ∈ out, DoneOp o) := HLS.out.lsm
        go_wp2_with fail
        exact bodyPost_ret (v := .tuple #[.agg #[.slice a4 n4 c4], .slice va out.length vc]) (by rw [results, Try.results78]; simp [go_sem, World.cell?_setCell_same _ _ _ y2]) rfl ⟨_, _, _, _, _, rfl, ho9, by omega, hd9.out, hR9, hB9⟩
end Go.Proofs.Ytkllejaamnojpaa

/- A list as it is drawn for the laws of shorter lists. -/
namespace Go.Proofs.Ytkllejaamnojpaa
open Go.RowKit

/-- What a drawn list is: of one's own, short, of short things; and if it is ok, of things that were done. -/
def DrawnL (w : World) (e : Ending) (w' : World) : Prop := (∃ v ops, e = .returned v ∧ OwnOps w' w.heap.size v ops ∧ ops.length ≤ 60 ∧ (∀ o ∈ ops, OpSm o) ∧ (formsB ops = true → ∀ o ∈ ops, DoneOp o)) ∧ Below w.heap.size w w'
theorem kind9 (o : LOp) : opOk { o with kind := 9 } = false := (opOk_nokind (by simp)).1

set_option maxHeartbeats 2000000 in
set_option maxRecDepth 20000 in
theorem drawTexts (a : Option Addr) (n c : Nat) (zs : List Int) (w : World) (hn : n ≤ 1048576) (hc : n ≤ c) (H : BytesAt w w.heap.size a n zs) :
    Calls Try.prog 26 #[.slice a n c] w fun e w' => DrawnL w e w' := by
  go_enter Try.func26, Try.ntmps26
  go_wp2_with fail
  refine (open16 a n c zs w.heap.size _ hn hc H).mono ?_
  rintro e W1 ⟨m, c', ys, rfl, hm, hm0, hB, rfl⟩
  have hR := rd_start (c := c') hm (Nat.le_refl _) hB
  have hA : Below w.heap.size w (w.alloc (Obj.cells #[.slice a m c', .int .i64 0] 137)) := (Below.refl _ _).alloc (Nat.le_refl _) _
  go_wp2_with fail
  refine (long_any w.heap.size 0 _ (by omega) (by simp) ⟨0, Nat.le_refl _, hR⟩).mono ?_
  rintro e W2 ⟨ta, tn, tc, u, out, rfl, ho, hl, hd, hRd, hbt⟩
  have hB2 : Below w.heap.size w W2 := hA.trans hbt.below
  have ho2 : OwnOps W2 (w.heap.size + 1) u out := by simpa using ho
  obtain ⟨va, vc, rfl, _⟩ := ho2.at_ (fun o h => (hd o h).1.sz)
  have hz : w.heap.size + 1 ≤ W2.heap.size := by have := hbt.below.size; simp at this; omega
  have HO2 : Hid (OwnOps W2 (w.heap.size + 1) (.slice va out.length vc) out) := ho2
  have HD : Hid (∀ o ∈ out, DoneOp o) := hd
  clear ho ho2 hbt hR hA hd
  by_cases h0 : out.length = 0
  · obtain rfl : out = [] := List.eq_nil_of_length_eq_zero h0
    have ho0 : OwnOps (W2.alloc (Obj.cells #[.slice ta tn tc] 34)) w.heap.size (.slice va 0 vc) [] := OwnOps.base (World.ownsRow.alloc HO2.out _) (by omega)
    clear HO2
    go_wp2_with fail
    go_ret
    exact ⟨⟨_, [], rfl, ho0, hl, (fun o h => by cases h), (fun _ o h => by cases h)⟩, hB2.alloc hB2.size _⟩
  · have t0 : (0 : Int) < (out.length : Int) := by omega
    go_wp2_with fail
    refine (pick_to w.heap.size 600 16 _ (by omega) (by omega) (by omega) (hRd.but ((Below.refl _ _).alloc (Nat.le_refl _) _) (by omega))).mono ?_
    rintro e W3 ⟨⟨k, rfl, hk⟩, hR3, hb3⟩
    have HO3 : Hid (OwnOps W3 (w.heap.size + 1) (.slice va out.length vc) out) := World.ownsRow.kept (World.ownsRow.alloc HO2.out _) hb3.grown (.inr fun e => by have := ((World.ownsRow.alloc HO2.out (Obj.cells #[.slice ta tn tc] 34)).lt _ e).1; omega)
    have hB3 : Below w.heap.size w W3 := (hB2.alloc hB2.size _).trans hb3.below
    clear hb3 hR3 HO2 hRd
    by_cases hk0 : k = 0
    · subst hk0
      obtain ⟨g, cap, f, hv, hgB, hnc, hcm, hrow, hf⟩ := HO3.out.rowOf (by omega)
      simp only [Value.slice.injEq] at hv
      obtain ⟨rfl, _, rfl⟩ := hv
      have HF : Hid (∀ i (hi : i < out.length), opF f i out[i]) := hf
      have HR : Hid (W3.rowIs g 30 (vc * 7) f) := hrow
      have c0 : W3.cell? ⟨g, 0, none⟩ = some (.int .i64 (out[0]'(by omega)).kind) := by rw [hrow.cell (by omega)]; have := (hf 0 (by omega)).1; simpa using this
      have z0 := hrow.frozen 0
      clear hf hrow
      go_wp2_with fail
      go_ret
      refine ⟨⟨_, out.set 0 { out[0]'(by omega) with kind := 9 }, rfl, ?_, by simpa using hl, fun o h => ?_, fun h => ?_⟩, hB3.setCell (by simp; omega) _⟩
      · have hlen : (out.set 0 { out[0]'(by omega) with kind := 9 }).length = out.length := by simp
        have := OwnOps.ofRow (w := W3.setCell ⟨g, 0, none⟩ (.int .i64 9)) (B := w.heap.size) (g := g) (cap := vc) (l := out.set 0 { out[0]'(by omega) with kind := 9 }) (by omega) (by simpa using hnc) hcm (HR.out.set 0 (.int .i64 9)) (fun i hi => ?_)
        · rwa [hlen] at this
        · have hi' : i < out.length := by simpa using hi
          obtain ⟨q0, q1, q2, q3, q4, q5, q6⟩ := HF.out i hi'
          by_cases e : i = 0
          · subst e
            refine ⟨by simp, ?_, ?_, ?_, ?_, ?_, ?_⟩ <;> simp <;> first | exact q1 | exact q2 | exact q3 | exact q4 | exact q5 | exact q6 | (simpa using q1) | (simpa using q2) | (simpa using q3) | (simpa using q4) | (simpa using q5) | (simpa using q6)
          · have hg9 : (out.set 0 { out[0]'(by omega) with kind := 9 })[i] = out[i] := by rw [List.getElem_set_ne (by omega)]
            rw [hg9]
            refine ⟨?_, ?_, ?_, ?_, ?_, ?_, ?_⟩ <;> dsimp only <;> rw [if_neg (by omega)] <;> assumption
      · rcases List.mem_or_eq_of_mem_set h with h | rfl
        · exact (HD.out o h).1
        · exact (HD.out _ (List.getElem_mem (by omega))).1
      · exfalso
        have h2 : (out.set 0 { out[0]'(by omega) with kind := 9 }).all opOk = true := by unfold formsB at h; simp only [Bool.and_eq_true] at h; exact h.2
        rw [List.all_eq_true] at h2
        have h3 := h2 { out[0]'(by omega) with kind := 9 } (List.mem_set (by omega) _)
        rw [kind9] at h3
        cases h3
    · have t1 : ((k : Int) == 0) = false := by simp; omega
      go_wp2_with fail
      go_ret
      exact ⟨⟨_, out, rfl, HO3.out.base (by omega), hl, fun o h => (HD.out o h).1, fun _ => HD.out⟩, hB3⟩

end Go.Proofs.Ytkllejaamnojpaa

/- A code that came in as an argument, opened. -/
namespace Go.Proofs.Ytkllejaamnojpaa
open Go.ChangeShapes Go.WideShapes Go.ChangeAt Go.RowKit
section
variable {H : Type} {enc : TypeId × Value → H} {w : World} {spare : Nat → Bool} {held : Bool}
set_option maxRecDepth 100000 in
theorem open_bytes {r : Reach} {b0 : Nat} {v : Value} {d : DataW H} {p : List MemPlace} (hv : Value.okWide Try.prog w r b0 22 v) (h : DataW.Trod enc Try.prog w 0 spare held 22 v d p) :
    ∃ a n c zs, v = .slice a n c ∧ n ≤ c ∧ n ≤ maxLen ∧ BytesAt w w.heap.size a n zs := by
  obtain ⟨a0, len0, cap0, rfl⟩ := okWide_slice Try.underlying22 hv
  obtain ⟨fuel, hf⟩ := h
  rcases open_ints Try.underlying22 Try.underlying5 (by kernel_rfl) hf with ⟨hcs, _⟩ | ⟨x, l, c, z0, hcs, _, hl, hm, hz, _, hcell, hwz⟩
  · simp [Value.cells] at hcs
    obtain ⟨rfl, rfl, rfl⟩ := hcs
    exact ⟨none, 0, 0, [], rfl, Nat.le_refl _, Nat.zero_le _, rfl, fun h => absurd rfl h⟩
  · simp [Value.cells] at hcs
    obtain ⟨rfl, rfl, rfl⟩ := hcs
    have hz' : len0 ≤ z0.length := by rw [hz]; split <;> omega
    refine ⟨some x, len0, cap0, z0.take len0, rfl, hl, by omega, by simp; omega, fun hn => ?_⟩
    obtain ⟨b, off, spot⟩ := x
    have hc0 := hcell 0 (by omega)
    have hspot : spot = none := by simpa [Addr.add] using World.cell?_spot hc0
    subst hspot
    refine ⟨b, off, rfl, by have := cell_lt hc0; simpa [Addr.add] using this, fun i hi => ?_⟩
    have hlt : i < z0.length := by omega
    refine ⟨z0[i], by rw [List.getElem?_take_of_lt hi]; exact List.getElem?_eq_getElem hlt, ?_, ?_, ?_⟩
    · have := hwz z0[i] (List.getElem_mem hlt); simp [Lit.wf, IntKind.min, IntKind.max, IntKind.signed, IntKind.bits] at this; omega
    · have := hwz z0[i] (List.getElem_mem hlt); simp [Lit.wf, IntKind.min, IntKind.max, IntKind.signed, IntKind.bits] at this; omega
    · have := hcell i hlt
      rw [addr_add] at this
      rw [this]
      simp [hlt]
end
end Go.Proofs.Ytkllejaamnojpaa


/- Lists that are made shorter: plain facts: once more is the same; what is left. -/
namespace Go.Proofs.Ytkllejaamnojpaa
open Go.RowKit

theorem fixL_fix {f : List LOp → Option (List LOp)} (hf : Shrinks f) : ∀ (n : Nat) (x : List LOp), x.length ≤ n → f (fixL f x) = none
  | 0, x, hn => by
    cases h : f x with
    | none => rw [fixL_none h]; exact h
    | some y => have := hf x y h; omega
  | n + 1, x, hn => by
    cases h : f x with
    | none => rw [fixL_none h]; exact h
    | some y =>
      rw [fixL_some hf h]
      exact fixL_fix hf n y (by have := hf x y h; omega)
theorem fixL_idem {f : List LOp → Option (List LOp)} (hf : Shrinks f) (x : List LOp) : fixL f (fixL f x) = fixL f x := fixL_none (fixL_fix hf x.length x (Nat.le_refl _))
theorem fixL_le {f : List LOp → Option (List LOp)} (hf : Shrinks f) : ∀ (n : Nat) (x : List LOp), x.length ≤ n → (fixL f x).length ≤ x.length ∧ ((fixL f x).length = x.length → fixL f x = x)
  | 0, x, hn => by
    cases h : f x with
    | none => rw [fixL_none h]; exact ⟨Nat.le_refl _, fun _ => rfl⟩
    | some y => have := hf x y h; omega
  | n + 1, x, hn => by
    cases h : f x with
    | none => rw [fixL_none h]; exact ⟨Nat.le_refl _, fun _ => rfl⟩
    | some y =>
      have h1 := hf x y h
      rw [fixL_some hf h]
      have h2 := (fixL_le hf n y (by omega)).1
      exact ⟨by omega, fun e => by omega⟩
theorem pairsL_idem (l : List LOp) : pairsL (pairsL l) = pairsL l := fixL_idem pairs_shrink l
theorem movesL_idem (l : List LOp) : movesL (movesL l) = movesL l := fixL_idem moves_shrink l
theorem pairsL_le (l : List LOp) : (pairsL l).length ≤ l.length := (fixL_le pairs_shrink l.length l (Nat.le_refl _)).1
theorem movesL_le (l : List LOp) : (movesL l).length ≤ l.length := (fixL_le moves_shrink l.length l (Nat.le_refl _)).1
theorem pairsL_none (l : List LOp) : pairStep (pairsL l) = none := fixL_fix pairs_shrink l.length l (Nat.le_refl _)
theorem movesL_none (l : List LOp) : moveStep (movesL l) = none := fixL_fix moves_shrink l.length l (Nat.le_refl _)
theorem textsL_le (l : List LOp) : (textsL l).length ≤ l.length := keepTo_len _ _ _
theorem keepTo_full {p : Nat → Bool} {ops : List LOp} : ∀ {k : Nat}, k ≤ ops.length → (keepTo p ops k).length = k → keepTo p ops k = ops.take k
  | 0, _, _ => by simp [keepTo]
  | k + 1, hk, h => by
    by_cases hp : p k = true
    · have ho : ops[k]? = some ops[k] := by simp
      rw [keepTo_yes ho hp] at h ⊢
      rw [keepTo_full (by omega) (by simpa using h), List.take_add_one, ho]
      rfl
    · have hp' : p k = false := by simpa using hp
      rw [keepTo_no hp'] at h
      have := keepTo_len p ops k
      omega
theorem textsL_full {l : List LOp} (h : (textsL l).length = l.length) : textsL l = l := by
  unfold textsL at h ⊢
  rw [keepTo_full (Nat.le_refl _) h, List.take_length]
theorem stepL_full {l : List LOp} (h : (stepL l).length = l.length) : stepL l = l := by
  unfold stepL at h ⊢
  have h1 := textsL_le l
  have h2 := fixL_le pairs_shrink (textsL l).length (textsL l) (Nat.le_refl _)
  have h3 := fixL_le moves_shrink (pairsL (textsL l)).length (pairsL (textsL l)) (Nat.le_refl _)
  have e1 : (pairsL (textsL l)).length ≤ (textsL l).length := h2.1
  have e2 : (movesL (pairsL (textsL l))).length ≤ (pairsL (textsL l)).length := h3.1
  have t1 : textsL l = l := textsL_full (by omega)
  have t2 : pairsL (textsL l) = textsL l := h2.2 (by show (pairsL (textsL l)).length = _; omega)
  have t3 : movesL (pairsL (textsL l)) = pairsL (textsL l) := h3.2 (by show (movesL (pairsL (textsL l))).length = _; omega)
  rw [t3, t2, t1]
theorem slim_fix (l : List LOp) : ∃ y, fixL slimStep l = y ∧ stepL y = y ∧ slimL l = y ∧ slimStep y = none := by
  have h := fixL_fix slim_shrink l.length l (Nat.le_refl _)
  have key : ∀ y, slimStep y = none → stepL y = y := fun y hy => by
    apply stepL_full
    unfold slimStep at hy
    split at hy
    · cases hy
    · next hn => have := stepL_le y; omega
  have h2 := key _ h
  exact ⟨_, rfl, h2, h2, h⟩
theorem slimL_idem (l : List LOp) : slimL (slimL l) = slimL l := by
  obtain ⟨y, _, h2, h3, h4⟩ := slim_fix l
  rw [h3]
  unfold slimL
  rw [fixL_none h4, h2]
theorem slimL_le (l : List LOp) : (slimL l).length ≤ l.length := by
  unfold slimL
  exact Nat.le_trans (stepL_le _) (fixL_le slim_shrink l.length l (Nat.le_refl _)).1
/-- Nothing goes again in what is left. -/
theorem pairsL_goes (l : List LOp) : ∀ i, i < (pairsL l).length → goesL (pairsL l) i < 0 := by
  intro i hi
  have h := pairsL_none l
  unfold pairStep at h
  cases hf : firstPair (pairsL l) with
  | some k => rw [hf] at h; cases h
  | none =>
    unfold firstPair at hf
    rw [List.find?_range_eq_none] at hf
    have := hf i hi
    simp at this
    exact this
/-- No two that stand together move one thing on in what is left. -/
theorem movesL_joins (l : List LOp) : ∀ (i : Nat) (a b : LOp), (movesL l)[i]? = some a → (movesL l)[i + 1]? = some b → joinsB a b = false := by
  intro i a b ha hb
  have h := movesL_none l
  unfold moveStep at h
  cases hf : firstJoin (movesL l) with
  | some k => rw [hf] at h; cases h
  | none =>
    unfold firstJoin at hf
    rw [List.find?_range_eq_none] at hf
    have := hf i (List.getElem?_eq_some_iff.1 ha).1
    unfold joinsAt at this
    rw [ha, hb] at this
    simpa using this
/-- Made and gone side by side: only if it is gone out of itself. -/
theorem goes_next {l : List LOp} {i : Nat} {a b : LOp} (ha : l[i]? = some a) (hb : l[i + 1]? = some b) (hk : a.kind = 1) (hg : b.kind = 3) (hid : b.id = a.id) (hd : b.dir ≠ b.id) : 0 ≤ goesL l i := by
  unfold goesL
  rw [ha]
  have hm : makesB a = true := by simp [makesB, hk]
  have hle : leansB b a.id = false := by
    unfold leansB
    rw [← hid]
    have h1 : (b.dir == b.id) = false := by simpa using hd
    have h2 : (b.kind == 4) = false := by rw [hg]; decide
    rw [h1, h2]; simp
  have hend : ((b.kind == 3) && (b.id == a.id)) = true := by simp [hg, hid]
  simp only [hm, if_true]
  rw [drop_cons hb]
  unfold goesAt
  rw [hle, hend]
  simp only [Bool.false_eq_true, if_false, if_true]
  omega
/-! Texts. -/
def nontexts (l : List LOp) : Nat := (l.filter fun o => o.kind != 5).length
theorem keepTo_nontexts {ops : List LOp} : ∀ {k : Nat}, k ≤ ops.length → nontexts (keepTo (textKeep ops) ops k) = nontexts (ops.take k)
  | 0, _ => by simp [keepTo]
  | k + 1, hk => by
    have ho : ops[k]? = some ops[k] := by simp
    have ih := keepTo_nontexts (ops := ops) (k := k) (by omega)
    unfold nontexts at ih ⊢
    rw [List.take_add_one, ho]
    cases hp : textKeep ops k with
    | true =>
      rw [keepTo_yes ho hp]
      simp only [List.filter_append, List.length_append, Option.toList_some]
      omega
    | false =>
      rw [keepTo_no hp]
      have h5 : (ops[k].kind != 5) = false := by
        unfold textKeep at hp
        rw [ho] at hp
        simp at hp ⊢
        exact hp.1
      simp only [List.filter_append, List.length_append, Option.toList_some]
      rw [ih]
      have : ([ops[k]].filter fun o => o.kind != 5) = [] := by simp [h5]
      rw [this]; simp
theorem textsL_nontexts (l : List LOp) : nontexts (textsL l) = nontexts l := by
  unfold textsL
  rw [keepTo_nontexts (Nat.le_refl _), List.take_length]
/-- Each that is kept comes from a place, in order. -/
theorem keepTo_from {p : Nat → Bool} {ops : List LOp} : ∀ {k : Nat}, ∃ g : Nat → Nat, (∀ i, i < (keepTo p ops k).length → g i < k ∧ p (g i) = true ∧ ops[g i]? = (keepTo p ops k)[i]?) ∧ ∀ i j, i < j → j < (keepTo p ops k).length → g i < g j
  | 0 => ⟨id, fun i hi => by simp [keepTo] at hi, fun i j _ hj => by simp [keepTo] at hj⟩
  | k + 1 => by
    obtain ⟨g, h1, h2⟩ := keepTo_from (p := p) (ops := ops) (k := k)
    cases ho : ops[k]? with
    | none =>
      have e : keepTo p ops (k + 1) = keepTo p ops k := by
        show keepTo p ops k ++ _ = _
        rw [ho]; simp
      rw [e]
      exact ⟨g, fun i hi => ⟨by have := (h1 i hi).1; omega, (h1 i hi).2⟩, h2⟩
    | some o =>
      cases hp : p k with
      | false =>
        rw [keepTo_no hp]
        exact ⟨g, fun i hi => ⟨by have := (h1 i hi).1; omega, (h1 i hi).2⟩, h2⟩
      | true =>
        rw [keepTo_yes ho hp]
        refine ⟨fun i => if i < (keepTo p ops k).length then g i else k, fun i hi => ?_, fun i j hij hj => ?_⟩
        · by_cases h : i < (keepTo p ops k).length
          · have := h1 i h
            simp only [h, if_true]
            rw [List.getElem?_append_left h]
            exact ⟨by omega, this.2⟩
          · have hi' : i = (keepTo p ops k).length := by simp at hi; omega
            simp only [h, if_false]
            rw [List.getElem?_append_right (by omega), hi', ho]
            exact ⟨by omega, hp, by simp⟩
        · simp at hj
          by_cases h : j < (keepTo p ops k).length
          · simp only [h, if_true, show i < (keepTo p ops k).length by omega]
            exact h2 i j hij h
          · simp only [h, if_false, show i < (keepTo p ops k).length by omega, if_true]
            exact (h1 i (by omega)).1
/-- Each text that stands is the last of its file, and its file stays. -/
theorem textsL_last (l : List LOp) : ∀ (i k : Nat) (a b : LOp), i < k → (textsL l)[i]? = some a → (textsL l)[k]? = some b → a.kind = 5 → voids a.id b = false := by
  intro i k a b hik ha hb h5
  have hi := (List.getElem?_eq_some_iff.1 ha).1
  have hk := (List.getElem?_eq_some_iff.1 hb).1
  obtain ⟨g, h1, h2⟩ := keepTo_from (p := textKeep l) (ops := l) (k := l.length)
  obtain ⟨_, p1, e1⟩ := h1 i hi
  obtain ⟨_, _, e2⟩ := h1 k hk
  have hgt := h2 i k hik hk
  have ea : l[g i]? = some a := by rw [e1]; exact ha
  have eb : l[g k]? = some b := by rw [e2]; exact hb
  unfold textKeep at p1
  rw [ea] at p1
  simp [h5] at p1
  unfold voidB at p1
  rw [ea] at p1
  simp only [List.any_eq_false] at p1
  have hmem : b ∈ l.drop (g i + 1) := by
    rw [List.mem_iff_getElem?]
    exact ⟨g k - (g i + 1), by rw [List.getElem?_drop]; rw [show g i + 1 + (g k - (g i + 1)) = g k by omega]; exact eb⟩
  have := p1 b hmem
  simpa using this
theorem textsL_idem (l : List LOp) : textsL (textsL l) = textsL l := by
  have : ∀ i, i < (textsL l).length → textKeep (textsL l) i = true := by
    intro i hi
    have ha : (textsL l)[i]? = some ((textsL l)[i]) := by simp [hi]
    unfold textKeep
    rw [ha]
    by_cases h5 : ((textsL l)[i]).kind = 5
    · have hv : voidB (textsL l) i = false := by
        unfold voidB
        rw [ha]
        simp only [List.any_eq_false]
        intro b hb
        rw [List.mem_iff_getElem?] at hb
        obtain ⟨k, hk⟩ := hb
        rw [List.getElem?_drop] at hk
        have := textsL_last l i (i + 1 + k) _ b (by omega) ha hk h5
        simp [this]
      simp [hv]
    · simp [h5]
  apply textsL_full
  unfold textsL at this ⊢
  generalize keepTo (textKeep l) l l.length = m at *
  have h := keepTo_congr (p := textKeep m) (q := fun _ => true) (ops := m) (j := m.length) (fun i hi _ => this i hi)
  rw [h]
  have : ∀ k, k ≤ m.length → (keepTo (fun _ => true) m k).length = k := by
    intro k
    induction k with
    | zero => intro _; rfl
    | succ k ih =>
      intro hk
      rw [keepTo_yes (o := m[k]) (by simp) rfl, List.length_append, ih (by omega)]
      rfl
  exact this m.length (Nat.le_refl _)
end Go.Proofs.Ytkllejaamnojpaa

/- What the laws of drawn lists ask. -/
namespace Go.Proofs.Ytkllejaamnojpaa
open Go.RowKit

theorem listEq_self (l : List LOp) : listEq opEq l l = true := listEq_yes rfl (fun i x y hx hy => by rw [hx] at hy; cases hy; exact opEq_self x)
theorem sameOps (a a' : Option Addr) (n n' c c' : Nat) (ops : List LOp) (L U L' U' : Nat) (w : World) (H : OpsAt w L U a n ops) (H' : OpsAt w L' U' a' n' ops) :
    Calls Try.prog 17 #[.slice a n c, .slice a' n' c'] w fun e w' => e = .returned (.bool true) ∧ ∃ m, w' = w.drewN m :=
  (implOpSame a a' n n' c c' ops ops L U L' U' w H H').mono fun e w' h => ⟨by rw [h.1, listEq_self], h.2⟩
theorem formsB_all {l : List LOp} : formsB l = true ↔ AllL (fun o => opOk o = true) 60 l := by
  simp only [formsB, Bool.and_eq_true, decide_eq_true_eq, List.all_eq_true, AllL]
  exact ⟨fun h => ⟨h.2, h.1⟩, fun h => ⟨h.2, h.1⟩⟩
theorem forms_texts {l : List LOp} (h : formsB l = true) : formsB (textsL l) = true := formsB_all.2 (textsL_all (formsB_all.1 h))
theorem forms_pairs {l : List LOp} (h : formsB l = true) : formsB (pairsL l) = true := formsB_all.2 (pairsL_all (formsB_all.1 h))
theorem forms_moves {l : List LOp} (h : formsB l = true) : formsB (movesL l) = true := formsB_all.2 (movesL_all ok_keeps (formsB_all.1 h))
theorem ifOk_le {F : List LOp → List LOp} (hle : ∀ l, (F l).length ≤ l.length) (ops : List LOp) : (ifOk F ops).length ≤ ops.length := by
  unfold ifOk; split
  · exact hle ops
  · simp
theorem ifOk_again {F : List LOp → List LOp} (hle : ∀ l, (F l).length ≤ l.length) (hid : ∀ l, F (F l) = F l) (hk : ∀ l, formsB l = true → formsB (F l) = true) (ops : List LOp) : ifOk F (ifOk F ops) = ifOk F ops := by
  rcases h : formsB ops with _ | _
  · rw [ifOk_no h]
    have h0 : F [] = [] := List.eq_nil_of_length_eq_zero (by have := hle []; simp at this; simpa using this)
    unfold ifOk; split
    · exact h0
    · rfl
  · have h1 : ifOk F ops = F ops := by unfold ifOk; rw [h]; rfl
    rw [h1]
    unfold ifOk
    rw [hk ops h]
    exact hid ops
theorem OwnOps.cap {w : World} {B : Nat} {a : Option Addr} {n c : Nat} {l : List LOp} (h : OwnOps w B (.slice a n c) l) : n ≤ c := by
  rcases h.2 with ⟨e, h0⟩ | ⟨g, cap, cur, e, _, _, h2, _⟩
  · cases e; omega
  · cases e; exact h2
theorem OpsAt.blocks' {w w' : World} {L U : Nat} {a : Option Addr} {n : Nat} {ops : List LOp} (h : OpsAt w L U a n ops) (hb : ∀ b : Nat, w'.heap[b]? = w.heap[b]?) : OpsAt w' L U a n ops :=
  ⟨h.len, h.bd, fun hn => by
    obtain ⟨b, off, ha, hL, hbU, hc⟩ := h.at_ hn
    refine ⟨b, off, ha, hL, hbU, fun i hi => ?_⟩
    obtain ⟨o, ho, hs, h0⟩ := hc i hi
    exact ⟨o, ho, hs, h0.of_block (hb b)⟩⟩
theorem OpsAt.drewN {w : World} {L U : Nat} {a : Option Addr} {n : Nat} {ops : List LOp} (h : OpsAt w L U a n ops) (m : Nat) : OpsAt (w.drewN m) L U a n ops := h.blocks' fun _ => rfl
end Go.Proofs.Ytkllejaamnojpaa
