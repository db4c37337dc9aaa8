import Derived.Test.YtdjffkiiglilnaaDrawn
import Derived.Test.YtdjffkiiglilnaaSlimAll
import Derived.Deep.CutBlock
import Derived.Test.YtdjffkiiglilnaaReader
import Derived.Test.YtdjffkiiglilnaaOpen
import Derived.OpenShut
import Derived.Test.YtdjffkiiglilnaaSlimX

/- A long list as it is drawn: what holds in the midst of it. -/
namespace Go.Proofs.Ytdjffkiiglilnaa
open Go.RowKit

theorem box_keep {W W' : World} {q B : Nat} {u : Value} {l : List LOp} {f : Nat → Value} (h : W.rowIs q 25 1 f) (ho : OwnOps W B u l) (hg : W.grownBy W' u.ownBlock) : W'.rowIs q 25 1 f := by
  have hlt := h.lt
  obtain ⟨cs, h1, h2⟩ := h
  refine World.rowIs.of_block ⟨cs, h1, h2⟩ (hg.block q hlt fun e => ?_)
  rcases ho.2 with ⟨rfl, _⟩ | ⟨g, cap, cur, rfl, _, hgg, _⟩
  · simp [Value.ownBlock] at e
  · simp [Value.ownBlock] at e
    subst e
    rw [hgg] at h1
    simp at h1
/-- In the midst of drawing: the reader, the boxes, the tree, what was done. -/
structure LS (w W : World) (rb P q2 q4 q5 b c K : Nat) (u : Value) (os : List LObj) (vs : Nat → Value) (out : List LOp) : Prop where
  lo : rb < w.heap.size
  but : But rb w W
  rd : RdTo W rb P
  r2 : ∃ f, W.rowIs q2 25 1 f
  r4 : ∃ a n c, W.rowIs q4 25 1 (fun _ => .slice a n c)
  r5 : W.rowIs q5 25 1 (fun _ => .slice (some ⟨b, 0, none⟩) 32 c)
  l2 : w.heap.size ≤ q2
  l4 : w.heap.size ≤ q4
  l5 : w.heap.size ≤ q5
  n25 : q2 ≠ q5
  n45 : q4 ≠ q5
  tree : OwnT W w.heap.size b c os vs
  len : os.length = 32
  sm : Sm os K
  list : OwnOps W w.heap.size u out
  lsm : ∀ o ∈ out, DoneOp o
section
variable {w W W' : World} {rb P P' q2 q4 q5 b c K : Nat} {u v : Value} {os : List LObj} {vs : Nat → Value} {out news : List LOp}
theorem LS.next (h : LS w W rb P q2 q4 q5 b c K u os vs out) (hb : But rb W W') (hr : RdTo W' rb P') : LS w W' rb P' q2 q4 q5 b c K u os vs out := by
  obtain ⟨f2, h2⟩ := h.r2
  obtain ⟨a4', n4, c4, h4⟩ := h.r4
  have hlo := h.lo
  have a2 := h.l2
  have a4 := h.l4
  have a5 := h.l5
  exact ⟨h.lo, h.but.trans hb, hr, ⟨f2, h2.of_block (hb.block _ (by omega) h2.lt)⟩, ⟨a4', n4, c4, h4.of_block (hb.block _ (by omega) h4.lt)⟩, h.r5.of_block (hb.block _ (by omega) h.r5.lt), h.l2, h.l4, h.l5, h.n25, h.n45, h.tree.but hb h.lo, h.len, h.sm,
    World.ownsRow.kept h.list hb.grown (.inr fun e => by have := (h.list.lt rb e).1; omega), h.lsm⟩
theorem LS.more (h : LS w W rb P q2 q4 q5 b c K u os vs out) (hb : Below W.heap.size W W') : LS w W' rb P q2 q4 q5 b c K u os vs out :=
  h.next (But.of_below (by have := h.lo; have := h.but.below.size; have := h.r5.lt; have := h.l5; omega) hb) (h.rd.but hb (by have := h.lo; have := h.r5.lt; have := h.l5; omega))
theorem LS.on (h : LS w W rb P q2 q4 q5 b c K u os vs out) {K' : Nat} (hP : P ≤ P') (hK : K ≤ K') : LS w W rb P' q2 q4 q5 b c K' u os vs out := by
  obtain ⟨q, hq, R⟩ := h.rd
  exact ⟨h.lo, h.but, ⟨q, by omega, R⟩, h.r2, h.r4, h.r5, h.l2, h.l4, h.l5, h.n25, h.n45, h.tree, h.len, h.sm.mono hK, h.list, h.lsm⟩
theorem LS.size (h : LS w W rb P q2 q4 q5 b c K u os vs out) : w.heap.size < W.heap.size := by have := h.r5.lt; have := h.l5; omega
theorem LS.app (h : LS w W rb P q2 q4 q5 b c K u os vs out) (hE : AppOEnd W W' w.heap.size u v (out ++ news)) (hn : ∀ o ∈ news, DoneOp o) : LS w W' rb P q2 q4 q5 b c K v os vs (out ++ news) := by
  obtain ⟨f2, h2⟩ := h.r2
  obtain ⟨a4', n4, c4, h4⟩ := h.r4
  obtain ⟨q, hq, R⟩ := h.rd
  have hs := h.size
  have hA0 : Below w.heap.size W W' := below_grown (Below.refl _ _) hE.grown (fun k hk => (h.list.lt k hk).1) (by omega)
  refine ⟨h.lo, ⟨h.but.below.trans (hA0.mono (by have := h.lo; omega)), fun k hk hlt => (hA0.block k (by omega)).trans (h.but.block k hk hlt)⟩, ⟨q, hq, R.below hA0 h.lo⟩, ⟨f2, box_keep h2 h.list hE.grown⟩, ⟨a4', n4, c4, box_keep h4 h.list hE.grown⟩, box_keep h.r5 h.list hE.grown, h.l2, h.l4, h.l5, h.n25, h.n45, h.tree.ops h.list hE.grown, h.len, h.sm, hE.own, fun x hx => ?_⟩
  rcases List.mem_append.1 hx with h1 | h1
  · exact h.lsm x h1
  · exact hn x h1
theorem LS.store {b' c' K' : Nat} {os' : List LObj} {vs' : Nat → Value} (h : LS w W rb P q2 q4 q5 b c K u os vs out) (hT : OwnT W w.heap.size b' c' os' vs') (hl : os'.length = 32) (hs : Sm os' K') : LS w (W.setCell ⟨q5, 0, none⟩ (.slice (some ⟨b', 0, none⟩) 32 c')) rb P q2 q4 q5 b' c' K' u os' vs' out := by
  obtain ⟨f2, h2⟩ := h.r2
  obtain ⟨a4', n4, c4, h4⟩ := h.r4
  obtain ⟨q, hq, R⟩ := h.rd
  have a5 := h.l5
  have hlo := h.lo
  have hg : W.grownBy (W.setCell ⟨q5, 0, none⟩ (.slice (some ⟨b', 0, none⟩) 32 c')) (some q5) := ⟨rfl, rfl, rfl, by simp, fun i _ hi => Below.heap_setCell W ⟨q5, 0, none⟩ _ i (by intro e; exact hi (by simp [e]))⟩
  have hA0 : Below w.heap.size W (W.setCell ⟨q5, 0, none⟩ (.slice (some ⟨b', 0, none⟩) 32 c')) := (Below.refl _ _).setCell (by simpa using h.l5) _
  have hneq : u.ownBlock ≠ some q5 := fun e => by
    rcases h.list.2 with ⟨hn, _⟩ | ⟨g, cap, cur, hn, _, hgg, _⟩
    · rw [hn] at e; simp [Value.ownBlock] at e
    · rw [hn] at e
      simp [Value.ownBlock] at e
      subst e
      obtain ⟨cs, h1, _⟩ := h.r5
      rw [hgg] at h1
      simp at h1
  refine ⟨h.lo, ⟨h.but.below.trans (hA0.mono (by omega)), fun k hk hlt => (hA0.block k hlt).trans (h.but.block k hk hlt)⟩, ⟨q, hq, R.below hA0 h.lo⟩, ⟨f2, h2.of_block (Below.heap_setCell W ⟨q5, 0, none⟩ _ _ (by simpa using h.n25))⟩, ⟨a4', n4, c4, h4.of_block (Below.heap_setCell W ⟨q5, 0, none⟩ _ _ (by simpa using h.n45))⟩, ?_, h.l2, h.l4, h.l5, h.n25, h.n45, hT.setBox ⟨_, h.r5⟩ 0 _, hl, hs, World.ownsRow.kept h.list hg (.inr hneq), h.lsm⟩
  refine (h.r5.set 0 _).congr fun i hi => ?_
  have : i = 0 := by omega
  subst this
  rfl
end
section
variable {ops : Array Oper} {ac : Act} {K : Act → World → Prop} {Q : Exit → Act → World → Prop} {E : Prop} {ty : TypeId} {ps : String} {af : Array Edge}
theorem st_alloc53 (W : World) (d : Nat)
    (h : ∀ q W', q = W.heap.size → Below W.heap.size W W' → W'.rowIs q 25 1 (zrow #[.slice none 0 0]) → K (ac.put (some d) (.pointer (some ⟨q, 0, none⟩))) W') :
    if Region.wanted { dst := some d, op := .alloc 25, type := ty, pos := ps, after := af, guard := none } (yielded ops ac.tmps) = true then Oper.wp Try.prog { dst := some d, op := .alloc 25, type := ty, pos := ps, after := af, guard := none } ac W K Q else E := by
  rw [if_pos (by simp [Region.wanted])]
  have := h W.heap.size (W.alloc (.cells #[.slice none 0 0] 25)) rfl ((Below.refl _ _).alloc (Nat.le_refl _) _) (zrow_new W _ 25)
  unfold Oper.wp
  go_simp
  exact this
theorem st_store53 (W : World) (tp tv : Nat) (q : Nat) (x : Value) (f : Nat → Value) (hp : ac.tmps[tp]?.getD undef = .pointer (some ⟨q, 0, none⟩)) (a : Option Addr) (n c : Nat) (hx : x = .slice a n c) (hv : ac.tmps[tv]?.getD undef = .agg #[x]) (hr : W.rowIs q 25 1 f)
    (h : ∀ W', But q W W' → W' = W.setCell ⟨q, 0, none⟩ x → W'.cell? ⟨q, 0, none⟩ = some x → K ac W') :
    if Region.wanted { dst := none, op := .store 25 (.tmp tp) (.tmp tv), type := ty, pos := ps, after := af, guard := none } (yielded ops ac.tmps) = true then Oper.wp Try.prog { dst := none, op := .store 25 (.tmp tp) (.tmp tv), type := ty, pos := ps, after := af, guard := none } ac W K Q else E := by
  rw [if_pos (by simp [Region.wanted])]
  subst hx
  have c0 := hr.cell (i := 0) (by omega)
  have z0 := hr.frozen 0
  have r2 := hr.set 0 (.slice a n c)
  have := h (W.setCell ⟨q, 0, none⟩ (.slice a n c)) ((But.refl q W).set _ _) rfl (by rw [r2.cell (by omega)]; rfl)
  clear h hr r2
  unfold Oper.wp
  go_simp
  exact this
end
end Go.Proofs.Ytdjffkiiglilnaa


/- A long list as it is drawn: more steps. -/
namespace Go.Proofs.Ytdjffkiiglilnaa
open Go.RowKit

section
variable {ops : Array Oper} {ac : Act} {K : Act → World → Prop} {Q : Exit → Act → World → Prop} {E : Prop} {ty : TypeId} {ps : String} {af : Array Edge}
theorem st_build27 (W : World) (d t : Nat) (x : Int) (hx : ac.tmps[t]?.getD undef = .int .i64 x)
    (h : ∀ q W', q = W.heap.size → Below W.heap.size W W' → W'.cell? ⟨q, 0, none⟩ = some (.int .i64 x) → W'.cell? ⟨q, 1, none⟩ = some (.int .i64 0) → K (ac.put (some d) (.slice (some ⟨q, 0, none⟩) 2 2)) W') :
    if Region.wanted { dst := some d, op := .buildSlice 88 2 #[(0, .tmp t), (1, .const (.int .i64 0))], type := ty, pos := ps, after := af, guard := none } (yielded ops ac.tmps) = true then Oper.wp Try.prog { dst := some d, op := .buildSlice 88 2 #[(0, .tmp t), (1, .const (.int .i64 0))], type := ty, pos := ps, after := af, guard := none } ac W K Q else E := by
  rw [if_pos (by simp [Region.wanted])]
  have := h W.heap.size (W.alloc (.cells #[.int .i64 x, .int .i64 0] 3)) rfl ((Below.refl _ _).alloc (Nat.le_refl _) _) (by simp [go_sem]) (by simp [go_sem])
  unfold Oper.wp
  go_simp
  exact this
theorem st_build80 (W : World) (d t : Nat) (x : ByteArray) (hx : ac.tmps[t]?.getD undef = .string x)
    (h : ∀ q W', q = W.heap.size → Below W.heap.size W W' → W'.cell? ⟨q, 0, none⟩ = some (.string x) → W'.cell? ⟨q, 1, none⟩ = some (.string ⟨#[107]⟩) → W'.cell? ⟨q, 2, none⟩ = some (.string ⟨#[109]⟩) → K (ac.put (some d) (.slice (some ⟨q, 0, none⟩) 3 3)) W') :
    if Region.wanted { dst := some d, op := .buildSlice 152 3 #[(0, .tmp t), (1, .const (.string ⟨#[107]⟩)), (2, .const (.string ⟨#[109]⟩))], type := ty, pos := ps, after := af, guard := none } (yielded ops ac.tmps) = true then Oper.wp Try.prog { dst := some d, op := .buildSlice 152 3 #[(0, .tmp t), (1, .const (.string ⟨#[107]⟩)), (2, .const (.string ⟨#[109]⟩))], type := ty, pos := ps, after := af, guard := none } ac W K Q else E := by
  rw [if_pos (by simp [Region.wanted])]
  have := h W.heap.size (W.alloc (.cells #[.string x, .string ⟨#[107]⟩, .string ⟨#[109]⟩] 9)) rfl ((Below.refl _ _).alloc (Nat.le_refl _) _) (by simp [go_sem]) (by simp [go_sem]) (by simp [go_sem])
  unfold Oper.wp
  go_simp
  exact this
theorem st_build80b (W : World) (d : Nat)
    (h : ∀ q W', q = W.heap.size → Below W.heap.size W W' → W'.cell? ⟨q, 0, none⟩ = some (.string ⟨#[110, 101, 119]⟩) → W'.cell? ⟨q, 1, none⟩ = some (.string ⟨#[120]⟩) → K (ac.put (some d) (.slice (some ⟨q, 0, none⟩) 2 2)) W') :
    if Region.wanted { dst := some d, op := .buildSlice 152 2 #[(0, .const (.string ⟨#[110, 101, 119]⟩)), (1, .const (.string ⟨#[120]⟩))], type := ty, pos := ps, after := af, guard := none } (yielded ops ac.tmps) = true then Oper.wp Try.prog { dst := some d, op := .buildSlice 152 2 #[(0, .const (.string ⟨#[110, 101, 119]⟩)), (1, .const (.string ⟨#[120]⟩))], type := ty, pos := ps, after := af, guard := none } ac W K Q else E := by
  rw [if_pos (by simp [Region.wanted])]
  have := h W.heap.size (W.alloc (.cells #[.string ⟨#[110, 101, 119]⟩, .string ⟨#[120]⟩] 9)) rfl ((Below.refl _ _).alloc (Nat.le_refl _) _) (by simp [go_sem]) (by simp [go_sem])
  unfold Oper.wp
  go_simp
  exact this
end
theorem box_Kt {V V' : World} {q B b c : Nat} {os : List LObj} {vs f : Nat → Value} (h : V.rowIs q 25 1 f) (hT : OwnT V B b c os vs) (hl : os.length = 32) (hk : Kt V V' b 32 vs) : V'.rowIs q 25 1 f := by
  have hlt := h.lt
  obtain ⟨cs, h1, h2⟩ := h
  refine World.rowIs.of_block ⟨cs, h1, h2⟩ (hk q hlt (fun e => ?_) fun i hi e => ?_)
  · subst e
    obtain ⟨cur, hg, _⟩ := hT.row
    rw [hg] at h1
    simp at h1
  · have ho := (hT.at_ i (os[i]'(by omega)) (by simp)).2.2.2.2.2.1
    rcases ho.2 with ⟨hn, _⟩ | ⟨g, cap, cur, hn, _, hgg, _⟩
    · rw [hn] at e; simp [Value.ownBlock] at e
    · rw [hn] at e
      simp [Value.ownBlock] at e
      subst e
      rw [hgg] at h1
      simp at h1
theorem BoxAt.next {W W' : World} {q : Nat} {o : LOp} (h : BoxAt W q o) (hq : q < W.heap.size) (hb : Below W.heap.size W W') : BoxAt W' q o := h.of (hb.block q hq)

theorem RdTo.set {V : World} {rb P q : Nat} (h : RdTo V rb P) (hq : rb < q) (x : Value) : RdTo (V.setCell ⟨q, 0, none⟩ x) rb P := by
  obtain ⟨p, hp, R⟩ := h
  exact ⟨p, hp, R.below ((Below.refl q V).setCell (by simp) x) hq⟩
theorem OwnOps.setBox {V : World} {B q : Nat} {l : Value} {ops : List LOp} {f : Nat → Value} (h : OwnOps V B l ops) (hr : V.rowIs q 25 1 f) (x : Value) : OwnOps (V.setCell ⟨q, 0, none⟩ x) B l ops := by
  have hg : V.grownBy (V.setCell ⟨q, 0, none⟩ x) (some q) := ⟨rfl, rfl, rfl, by simp, fun i _ hi => Below.heap_setCell V ⟨q, 0, none⟩ _ i (by intro e; exact hi (by simp [e]))⟩
  refine World.ownsRow.kept h hg (.inr fun e => ?_)
  rcases h.2 with ⟨hn, _⟩ | ⟨g, cap, cur, hn, _, hgg, _⟩
  · rw [hn] at e; simp [Value.ownBlock] at e
  · rw [hn] at e
    simp [Value.ownBlock] at e
    subst e
    obtain ⟨cs, h1, _⟩ := hr
    rw [hgg] at h1
    simp at h1
theorem But.setNew {V0 V : World} {rb q : Nat} (h : But rb V0 V) (hq : V0.heap.size ≤ q) (hr : rb < q) (x : Value) : But rb V0 (V.setCell ⟨q, 0, none⟩ x) :=
  ⟨h.below.trans ((Below.refl _ _).setCell (by show rb ≤ q; omega) x), fun k hk hlt => ((Below.heap_setCell V ⟨q, 0, none⟩ _ k (by show k ≠ q; omega))).trans (h.block k hk hlt)⟩
end Go.Proofs.Ytdjffkiiglilnaa


/- A long list as it is drawn. -/
namespace Go.Proofs.Ytdjffkiiglilnaa
open Go.RowKit

theorem But.setOther {X W W' : World} {rb q : Nat} (h : But rb X W) (hq : X.heap.size ≤ q) (hr : rb < q) (k : But q W W') : But rb X W' :=
  ⟨h.below.trans (k.below.mono (by omega)), fun i hi hlt => (k.block i (by omega) (by have := h.below.size; omega)).trans (h.block i hi hlt)⟩
theorem RdTo.setOther {W W' : World} {rb P q : Nat} (h : RdTo W rb P) (hr : rb < q) (k : But q W W') : RdTo W' rb P := by
  obtain ⟨p, hp, R⟩ := h
  exact ⟨p, hp, R.below k.below hr⟩

def LongEnd (w : World) (rb P : Nat) (e : Ending) (w' : World) : Prop := ∃ ta tn tc u out, e = .returned (.tuple #[.agg #[.slice ta tn tc], u]) ∧ OwnOps w' w.heap.size u out ∧ out.length ≤ 60 ∧ (∀ o ∈ out, DoneOp o) ∧ RdTo w' rb P ∧ But rb w w'
end Go.Proofs.Ytdjffkiiglilnaa

/- A list as it is drawn for the laws of shorter lists. -/
namespace Go.Proofs.Ytdjffkiiglilnaa
open Go.RowKit

/-- What a drawn list is: of one's own, short, of short things; and if it is ok, of things that were done. -/
def DrawnL (w : World) (e : Ending) (w' : World) : Prop := (∃ v ops, e = .returned v ∧ OwnOps w' w.heap.size v ops ∧ ops.length ≤ 60 ∧ (∀ o ∈ ops, OpSm o) ∧ (formsB ops = true → ∀ o ∈ ops, DoneOp o)) ∧ Below w.heap.size w w'
theorem kind9 (o : LOp) : opOk { o with kind := 9 } = false := (opOk_nokind (by simp)).1

end Go.Proofs.Ytdjffkiiglilnaa

/- A code that came in as an argument, opened. -/
namespace Go.Proofs.Ytdjffkiiglilnaa
open Go.ChangeShapes Go.WideShapes Go.ChangeAt Go.RowKit
section
variable {H : Type} {enc : TypeId × Value → H} {w : World} {spare : Nat → Bool} {held : Bool}
set_option maxRecDepth 100000 in
theorem open_bytes {r : Reach} {b0 : Nat} {v : Value} {d : DataW H} {p : List MemPlace} (hv : Value.okWide Try.prog w r b0 22 v) (h : DataW.Trod enc Try.prog w 0 spare held 22 v d p) :
    ∃ a n c zs, v = .slice a n c ∧ n ≤ c ∧ n ≤ maxLen ∧ BytesAt w w.heap.size a n zs := by
  obtain ⟨a0, len0, cap0, rfl⟩ := okWide_slice Try.underlying22 hv
  obtain ⟨fuel, hf⟩ := h
  rcases open_ints Try.underlying22 Try.underlying5 (by kernel_rfl) hf with ⟨hcs, _⟩ | ⟨x, l, c, z0, hcs, _, hl, hm, hz, _, hcell, hwz⟩
  · simp [Value.cells] at hcs
    obtain ⟨rfl, rfl, rfl⟩ := hcs
    exact ⟨none, 0, 0, [], rfl, Nat.le_refl _, Nat.zero_le _, rfl, fun h => absurd rfl h⟩
  · simp [Value.cells] at hcs
    obtain ⟨rfl, rfl, rfl⟩ := hcs
    have hz' : len0 ≤ z0.length := by rw [hz]; split <;> omega
    refine ⟨some x, len0, cap0, z0.take len0, rfl, hl, by omega, by simp; omega, fun hn => ?_⟩
    obtain ⟨b, off, spot⟩ := x
    have hc0 := hcell 0 (by omega)
    have hspot : spot = none := by simpa [Addr.add] using World.cell?_spot hc0
    subst hspot
    refine ⟨b, off, rfl, by have := cell_lt hc0; simpa [Addr.add] using this, fun i hi => ?_⟩
    have hlt : i < z0.length := by omega
    refine ⟨z0[i], by rw [List.getElem?_take_of_lt hi]; exact List.getElem?_eq_getElem hlt, ?_, ?_, ?_⟩
    · have := hwz z0[i] (List.getElem_mem hlt); simp [Lit.wf, IntKind.min, IntKind.max, IntKind.signed, IntKind.bits] at this; omega
    · have := hwz z0[i] (List.getElem_mem hlt); simp [Lit.wf, IntKind.min, IntKind.max, IntKind.signed, IntKind.bits] at this; omega
    · have := hcell i hlt
      rw [addr_add] at this
      rw [this]
      simp [hlt]
end
end Go.Proofs.Ytdjffkiiglilnaa


/- Lists that are made shorter: plain facts: once more is the same; what is left. -/
namespace Go.Proofs.Ytdjffkiiglilnaa
open Go.RowKit

theorem fixL_fix {f : List LOp → Option (List LOp)} (hf : Shrinks f) : ∀ (n : Nat) (x : List LOp), x.length ≤ n → f (fixL f x) = none
  | 0, x, hn => by
    cases h : f x with
    | none => rw [fixL_none h]; exact h
    | some y => have := hf x y h; omega
  | n + 1, x, hn => by
    cases h : f x with
    | none => rw [fixL_none h]; exact h
    | some y =>
      rw [fixL_some hf h]
      exact fixL_fix hf n y (by have := hf x y h; omega)
theorem fixL_idem {f : List LOp → Option (List LOp)} (hf : Shrinks f) (x : List LOp) : fixL f (fixL f x) = fixL f x := fixL_none (fixL_fix hf x.length x (Nat.le_refl _))
theorem fixL_le {f : List LOp → Option (List LOp)} (hf : Shrinks f) : ∀ (n : Nat) (x : List LOp), x.length ≤ n → (fixL f x).length ≤ x.length ∧ ((fixL f x).length = x.length → fixL f x = x)
  | 0, x, hn => by
    cases h : f x with
    | none => rw [fixL_none h]; exact ⟨Nat.le_refl _, fun _ => rfl⟩
    | some y => have := hf x y h; omega
  | n + 1, x, hn => by
    cases h : f x with
    | none => rw [fixL_none h]; exact ⟨Nat.le_refl _, fun _ => rfl⟩
    | some y =>
      have h1 := hf x y h
      rw [fixL_some hf h]
      have h2 := (fixL_le hf n y (by omega)).1
      exact ⟨by omega, fun e => by omega⟩
theorem pairsL_idem (l : List LOp) : pairsL (pairsL l) = pairsL l := fixL_idem pairs_shrink l
theorem movesL_idem (l : List LOp) : movesL (movesL l) = movesL l := fixL_idem moves_shrink l
theorem pairsL_le (l : List LOp) : (pairsL l).length ≤ l.length := (fixL_le pairs_shrink l.length l (Nat.le_refl _)).1
theorem movesL_le (l : List LOp) : (movesL l).length ≤ l.length := (fixL_le moves_shrink l.length l (Nat.le_refl _)).1
theorem pairsL_none (l : List LOp) : pairStep (pairsL l) = none := fixL_fix pairs_shrink l.length l (Nat.le_refl _)
theorem movesL_none (l : List LOp) : moveStep (movesL l) = none := fixL_fix moves_shrink l.length l (Nat.le_refl _)
theorem textsL_le (l : List LOp) : (textsL l).length ≤ l.length := keepTo_len _ _ _
theorem keepTo_full {p : Nat → Bool} {ops : List LOp} : ∀ {k : Nat}, k ≤ ops.length → (keepTo p ops k).length = k → keepTo p ops k = ops.take k
  | 0, _, _ => by simp [keepTo]
  | k + 1, hk, h => by
    by_cases hp : p k = true
    · have ho : ops[k]? = some ops[k] := by simp
      rw [keepTo_yes ho hp] at h ⊢
      rw [keepTo_full (by omega) (by simpa using h), List.take_add_one, ho]
      rfl
    · have hp' : p k = false := by simpa using hp
      rw [keepTo_no hp'] at h
      have := keepTo_len p ops k
      omega
theorem textsL_full {l : List LOp} (h : (textsL l).length = l.length) : textsL l = l := by
  unfold textsL at h ⊢
  rw [keepTo_full (Nat.le_refl _) h, List.take_length]
theorem stepL_full {l : List LOp} (h : (stepL l).length = l.length) : stepL l = l := by
  unfold stepL at h ⊢
  have h1 := textsL_le l
  have h2 := fixL_le pairs_shrink (textsL l).length (textsL l) (Nat.le_refl _)
  have h3 := fixL_le moves_shrink (pairsL (textsL l)).length (pairsL (textsL l)) (Nat.le_refl _)
  have e1 : (pairsL (textsL l)).length ≤ (textsL l).length := h2.1
  have e2 : (movesL (pairsL (textsL l))).length ≤ (pairsL (textsL l)).length := h3.1
  have t1 : textsL l = l := textsL_full (by omega)
  have t2 : pairsL (textsL l) = textsL l := h2.2 (by show (pairsL (textsL l)).length = _; omega)
  have t3 : movesL (pairsL (textsL l)) = pairsL (textsL l) := h3.2 (by show (movesL (pairsL (textsL l))).length = _; omega)
  rw [t3, t2, t1]
theorem slim_fix (l : List LOp) : ∃ y, fixL slimStep l = y ∧ stepL y = y ∧ slimL l = y ∧ slimStep y = none := by
  have h := fixL_fix slim_shrink l.length l (Nat.le_refl _)
  have key : ∀ y, slimStep y = none → stepL y = y := fun y hy => by
    apply stepL_full
    unfold slimStep at hy
    split at hy
    · cases hy
    · next hn => have := stepL_le y; omega
  have h2 := key _ h
  exact ⟨_, rfl, h2, h2, h⟩
theorem slimL_idem (l : List LOp) : slimL (slimL l) = slimL l := by
  obtain ⟨y, _, h2, h3, h4⟩ := slim_fix l
  rw [h3]
  unfold slimL
  rw [fixL_none h4, h2]
theorem slimL_le (l : List LOp) : (slimL l).length ≤ l.length := by
  unfold slimL
  exact Nat.le_trans (stepL_le _) (fixL_le slim_shrink l.length l (Nat.le_refl _)).1
/-- Nothing goes again in what is left. -/
theorem pairsL_goes (l : List LOp) : ∀ i, i < (pairsL l).length → goesL (pairsL l) i < 0 := by
  intro i hi
  have h := pairsL_none l
  unfold pairStep at h
  cases hf : firstPair (pairsL l) with
  | some k => rw [hf] at h; cases h
  | none =>
    unfold firstPair at hf
    rw [List.find?_range_eq_none] at hf
    have := hf i hi
    simp at this
    exact this
/-- No two that stand together move one thing on in what is left. -/
theorem movesL_joins (l : List LOp) : ∀ (i : Nat) (a b : LOp), (movesL l)[i]? = some a → (movesL l)[i + 1]? = some b → joinsB a b = false := by
  intro i a b ha hb
  have h := movesL_none l
  unfold moveStep at h
  cases hf : firstJoin (movesL l) with
  | some k => rw [hf] at h; cases h
  | none =>
    unfold firstJoin at hf
    rw [List.find?_range_eq_none] at hf
    have := hf i (List.getElem?_eq_some_iff.1 ha).1
    unfold joinsAt at this
    rw [ha, hb] at this
    simpa using this
/-- Made and gone side by side: only if it is gone out of itself. -/
theorem goes_next {l : List LOp} {i : Nat} {a b : LOp} (ha : l[i]? = some a) (hb : l[i + 1]? = some b) (hk : a.kind = 1) (hg : b.kind = 3) (hid : b.id = a.id) (hd : b.dir ≠ b.id) : 0 ≤ goesL l i := by
  unfold goesL
  rw [ha]
  have hm : makesB a = true := by simp [makesB, hk]
  have hle : leansB b a.id = false := by
    unfold leansB
    rw [← hid]
    have h1 : (b.dir == b.id) = false := by simpa using hd
    have h2 : (b.kind == 4) = false := by rw [hg]; decide
    rw [h1, h2]; simp
  have hend : ((b.kind == 3) && (b.id == a.id)) = true := by simp [hg, hid]
  simp only [hm, if_true]
  rw [drop_cons hb]
  unfold goesAt
  rw [hle, hend]
  simp only [Bool.false_eq_true, if_false, if_true]
  omega
/-! Texts. -/
def nontexts (l : List LOp) : Nat := (l.filter fun o => o.kind != 5).length
theorem keepTo_nontexts {ops : List LOp} : ∀ {k : Nat}, k ≤ ops.length → nontexts (keepTo (textKeep ops) ops k) = nontexts (ops.take k)
  | 0, _ => by simp [keepTo]
  | k + 1, hk => by
    have ho : ops[k]? = some ops[k] := by simp
    have ih := keepTo_nontexts (ops := ops) (k := k) (by omega)
    unfold nontexts at ih ⊢
    rw [List.take_add_one, ho]
    cases hp : textKeep ops k with
    | true =>
      rw [keepTo_yes ho hp]
      simp only [List.filter_append, List.length_append, Option.toList_some]
      omega
    | false =>
      rw [keepTo_no hp]
      have h5 : (ops[k].kind != 5) = false := by
        unfold textKeep at hp
        rw [ho] at hp
        simp at hp ⊢
        exact hp.1
      simp only [List.filter_append, List.length_append, Option.toList_some]
      rw [ih]
      have : ([ops[k]].filter fun o => o.kind != 5) = [] := by simp [h5]
      rw [this]; simp
theorem textsL_nontexts (l : List LOp) : nontexts (textsL l) = nontexts l := by
  unfold textsL
  rw [keepTo_nontexts (Nat.le_refl _), List.take_length]
/-- Each that is kept comes from a place, in order. -/
theorem keepTo_from {p : Nat → Bool} {ops : List LOp} : ∀ {k : Nat}, ∃ g : Nat → Nat, (∀ i, i < (keepTo p ops k).length → g i < k ∧ p (g i) = true ∧ ops[g i]? = (keepTo p ops k)[i]?) ∧ ∀ i j, i < j → j < (keepTo p ops k).length → g i < g j
  | 0 => ⟨id, fun i hi => by simp [keepTo] at hi, fun i j _ hj => by simp [keepTo] at hj⟩
  | k + 1 => by
    obtain ⟨g, h1, h2⟩ := keepTo_from (p := p) (ops := ops) (k := k)
    cases ho : ops[k]? with
    | none =>
      have e : keepTo p ops (k + 1) = keepTo p ops k := by
        show keepTo p ops k ++ _ = _
        rw [ho]; simp
      rw [e]
      exact ⟨g, fun i hi => ⟨by have := (h1 i hi).1; omega, (h1 i hi).2⟩, h2⟩
    | some o =>
      cases hp : p k with
      | false =>
        rw [keepTo_no hp]
        exact ⟨g, fun i hi => ⟨by have := (h1 i hi).1; omega, (h1 i hi).2⟩, h2⟩
      | true =>
        rw [keepTo_yes ho hp]
        refine ⟨fun i => if i < (keepTo p ops k).length then g i else k, fun i hi => ?_, fun i j hij hj => ?_⟩
        · by_cases h : i < (keepTo p ops k).length
          · have := h1 i h
            simp only [h, if_true]
            rw [List.getElem?_append_left h]
            exact ⟨by omega, this.2⟩
          · have hi' : i = (keepTo p ops k).length := by simp at hi; omega
            simp only [h, if_false]
            rw [List.getElem?_append_right (by omega), hi', ho]
            exact ⟨by omega, hp, by simp⟩
        · simp at hj
          by_cases h : j < (keepTo p ops k).length
          · simp only [h, if_true, show i < (keepTo p ops k).length by omega]
            exact h2 i j hij h
          · simp only [h, if_false, show i < (keepTo p ops k).length by omega, if_true]
            exact (h1 i (by omega)).1
/-- Each text that stands is the last of its file, and its file stays. -/
theorem textsL_last (l : List LOp) : ∀ (i k : Nat) (a b : LOp), i < k → (textsL l)[i]? = some a → (textsL l)[k]? = some b → a.kind = 5 → voids a.id b = false := by
  intro i k a b hik ha hb h5
  have hi := (List.getElem?_eq_some_iff.1 ha).1
  have hk := (List.getElem?_eq_some_iff.1 hb).1
  obtain ⟨g, h1, h2⟩ := keepTo_from (p := textKeep l) (ops := l) (k := l.length)
  obtain ⟨_, p1, e1⟩ := h1 i hi
  obtain ⟨_, _, e2⟩ := h1 k hk
  have hgt := h2 i k hik hk
  have ea : l[g i]? = some a := by rw [e1]; exact ha
  have eb : l[g k]? = some b := by rw [e2]; exact hb
  unfold textKeep at p1
  rw [ea] at p1
  simp [h5] at p1
  unfold voidB at p1
  rw [ea] at p1
  simp only [List.any_eq_false] at p1
  have hmem : b ∈ l.drop (g i + 1) := by
    rw [List.mem_iff_getElem?]
    exact ⟨g k - (g i + 1), by rw [List.getElem?_drop]; rw [show g i + 1 + (g k - (g i + 1)) = g k by omega]; exact eb⟩
  have := p1 b hmem
  simpa using this
theorem textsL_idem (l : List LOp) : textsL (textsL l) = textsL l := by
  have : ∀ i, i < (textsL l).length → textKeep (textsL l) i = true := by
    intro i hi
    have ha : (textsL l)[i]? = some ((textsL l)[i]) := by simp [hi]
    unfold textKeep
    rw [ha]
    by_cases h5 : ((textsL l)[i]).kind = 5
    · have hv : voidB (textsL l) i = false := by
        unfold voidB
        rw [ha]
        simp only [List.any_eq_false]
        intro b hb
        rw [List.mem_iff_getElem?] at hb
        obtain ⟨k, hk⟩ := hb
        rw [List.getElem?_drop] at hk
        have := textsL_last l i (i + 1 + k) _ b (by omega) ha hk h5
        simp [this]
      simp [hv]
    · simp [h5]
  apply textsL_full
  unfold textsL at this ⊢
  generalize keepTo (textKeep l) l l.length = m at *
  have h := keepTo_congr (p := textKeep m) (q := fun _ => true) (ops := m) (j := m.length) (fun i hi _ => this i hi)
  rw [h]
  have : ∀ k, k ≤ m.length → (keepTo (fun _ => true) m k).length = k := by
    intro k
    induction k with
    | zero => intro _; rfl
    | succ k ih =>
      intro hk
      rw [keepTo_yes (o := m[k]) (by simp) rfl, List.length_append, ih (by omega)]
      rfl
  exact this m.length (Nat.le_refl _)
end Go.Proofs.Ytdjffkiiglilnaa

/- What the laws of drawn lists ask. -/
namespace Go.Proofs.Ytdjffkiiglilnaa
open Go.RowKit

theorem listEq_self (l : List LOp) : listEq opEq l l = true := listEq_yes rfl (fun i x y hx hy => by rw [hx] at hy; cases hy; exact opEq_self x)
theorem sameOps (a a' : Option Addr) (n n' c c' : Nat) (ops : List LOp) (L U L' U' : Nat) (w : World) (H : OpsAt w L U a n ops) (H' : OpsAt w L' U' a' n' ops) :
    Calls Try.prog 58 #[.slice a n c, .slice a' n' c'] w fun e w' => e = .returned (.bool true) ∧ ∃ m, w' = w.drewN m :=
  (implOpSame a a' n n' c c' ops ops L U L' U' w H H').mono fun e w' h => ⟨by rw [h.1, listEq_self], h.2⟩
theorem formsB_all {l : List LOp} : formsB l = true ↔ AllL (fun o => opOk o = true) 60 l := by
  simp only [formsB, Bool.and_eq_true, decide_eq_true_eq, List.all_eq_true, AllL]
  exact ⟨fun h => ⟨h.2, h.1⟩, fun h => ⟨h.2, h.1⟩⟩
theorem forms_texts {l : List LOp} (h : formsB l = true) : formsB (textsL l) = true := formsB_all.2 (textsL_all (formsB_all.1 h))
theorem forms_pairs {l : List LOp} (h : formsB l = true) : formsB (pairsL l) = true := formsB_all.2 (pairsL_all (formsB_all.1 h))
theorem forms_moves {l : List LOp} (h : formsB l = true) : formsB (movesL l) = true := formsB_all.2 (movesL_all ok_keeps (formsB_all.1 h))
theorem ifOk_le {F : List LOp → List LOp} (hle : ∀ l, (F l).length ≤ l.length) (ops : List LOp) : (ifOk F ops).length ≤ ops.length := by
  unfold ifOk; split
  · exact hle ops
  · simp
theorem ifOk_again {F : List LOp → List LOp} (hle : ∀ l, (F l).length ≤ l.length) (hid : ∀ l, F (F l) = F l) (hk : ∀ l, formsB l = true → formsB (F l) = true) (ops : List LOp) : ifOk F (ifOk F ops) = ifOk F ops := by
  rcases h : formsB ops with _ | _
  · rw [ifOk_no h]
    have h0 : F [] = [] := List.eq_nil_of_length_eq_zero (by have := hle []; simp at this; simpa using this)
    unfold ifOk; split
    · exact h0
    · rfl
  · have h1 : ifOk F ops = F ops := by unfold ifOk; rw [h]; rfl
    rw [h1]
    unfold ifOk
    rw [hk ops h]
    exact hid ops
theorem OwnOps.cap {w : World} {B : Nat} {a : Option Addr} {n c : Nat} {l : List LOp} (h : OwnOps w B (.slice a n c) l) : n ≤ c := by
  rcases h.2 with ⟨e, h0⟩ | ⟨g, cap, cur, e, _, _, h2, _⟩
  · cases e; omega
  · cases e; exact h2
theorem OpsAt.blocks' {w w' : World} {L U : Nat} {a : Option Addr} {n : Nat} {ops : List LOp} (h : OpsAt w L U a n ops) (hb : ∀ b : Nat, w'.heap[b]? = w.heap[b]?) : OpsAt w' L U a n ops :=
  ⟨h.len, h.bd, fun hn => by
    obtain ⟨b, off, ha, hL, hbU, hc⟩ := h.at_ hn
    refine ⟨b, off, ha, hL, hbU, fun i hi => ?_⟩
    obtain ⟨o, ho, hs, h0⟩ := hc i hi
    exact ⟨o, ho, hs, h0.of_block (hb b)⟩⟩
theorem OpsAt.drewN {w : World} {L U : Nat} {a : Option Addr} {n : Nat} {ops : List LOp} (h : OpsAt w L U a n ops) (m : Nat) : OpsAt (w.drewN m) L U a n ops := h.blocks' fun _ => rfl
end Go.Proofs.Ytdjffkiiglilnaa
