/- Lemmas that the proofs of this seat share: Drawn. -/
import Derived.Test.YtnolbfijcnldjaaGreatDoorW10
import Derived.Test.YtnolbfijcnldjaaGreatDoorW11
import Derived.Test.YtnolbfijcnldjaaGreatDoorW05
import Derived.Deep.DeepCutAuto
/- Small trees: what is done leaves them nearly as small. Rows of what is done, of one's own. -/
namespace Go.Proofs.YtnolbfijcnldjaaGreatDoor
open Go.RowKit

/-- Few turns, few names, short names and texts. -/
def Sm (os : List LObj) (K : Nat) : Prop := ∀ o ∈ os, 0 ≤ o.ver ∧ o.ver ≤ (K : Int) ∧ o.text.size ≤ 4 ∧ o.kids.length ≤ K ∧ ∀ e ∈ o.kids, e.name.size ≤ 4
theorem Sm.mono {os : List LObj} {K M : Nat} (h : Sm os K) (hM : K ≤ M) : Sm os M := fun o ho => by
  obtain ⟨h1, h2, h3, h4, h5⟩ := h o ho
  exact ⟨h1, by omega, h3, by omega, h5⟩
theorem Sm.set {os : List LObj} {K : Nat} (h : Sm os K) (i : Nat) {y : LObj} (hy : 0 ≤ y.ver ∧ y.ver ≤ (K : Int) ∧ y.text.size ≤ 4 ∧ y.kids.length ≤ K ∧ ∀ e ∈ y.kids, e.name.size ≤ 4) : Sm (os.set i y) K := fun x hx => by
  rcases List.mem_or_eq_of_mem_set hx with h1 | rfl
  · exact h x h1
  · exact hy
theorem Sm.at {os : List LObj} {K i : Nat} {o : LObj} (h : Sm os K) (ho : os[i]? = some o) : 0 ≤ o.ver ∧ o.ver ≤ (K : Int) ∧ o.text.size ≤ 4 ∧ o.kids.length ≤ K ∧ ∀ e ∈ o.kids, e.name.size ≤ 4 := h o (List.mem_of_getElem? ho)
theorem Sm.turn {os : List LObj} {K : Nat} (h : Sm os K) (i : Nat) : Sm (turnL os i) (K + 1) := by
  unfold turnL
  split
  · next o ho =>
    obtain ⟨h1, h2, h3, h4, h5⟩ := h.at ho
    exact (h.mono (Nat.le_succ K)).set i ⟨by show 0 ≤ o.ver + 1; omega, by show o.ver + 1 ≤ _; omega, h3, by show o.kids.length ≤ _; omega, h5⟩
  · exact h.mono (Nat.le_succ K)
theorem putL_len (x : LEnt) (es : List LEnt) : (putL x es).length = es.length + 1 := by
  have := placeL_le x.name es
  simp [putL]; omega
theorem Sm.out {os : List LObj} {K : Nat} (h : Sm os K) (i : Nat) (nm : ByteArray) : Sm (kidsL os i (outL nm)) K := by
  unfold kidsL
  split
  · next o ho =>
    obtain ⟨h1, h2, h3, h4, h5⟩ := h.at ho
    exact h.set i ⟨h1, h2, h3, Nat.le_trans (outL_le nm o.kids) h4, fun e he => h5 e (by unfold outL at he; exact (List.mem_filter.1 he).1)⟩
  · exact h
theorem Sm.put {os : List LObj} {K : Nat} (h : Sm os K) (i : Nat) {x : LEnt} (hx : x.name.size ≤ 4) : Sm (kidsL os i (putL x)) (K + 1) := by
  unfold kidsL
  split
  · next o ho =>
    obtain ⟨h1, h2, h3, h4, h5⟩ := h.at ho
    refine (h.mono (Nat.le_succ K)).set i ⟨h1, by show o.ver ≤ _; omega, h3, by show (putL x o.kids).length ≤ _; rw [putL_len]; omega, fun e he => ?_⟩
    rcases mem_putL he with rfl | h6
    · exact hx
    · exact h5 e h6
  · exact h.mono (Nat.le_succ K)
theorem actNew_sm {os : List LObj} {K : Nat} {o : LOp} (h : Sm os K) (hs : OpSm o) : Sm (actNew os o).1 (K + 2) ∧ (actNew os o).1.length = os.length := by
  unfold actNew
  have h2 := h.mono (show K ≤ K + 2 by omega)
  split
  · next d x hd hx =>
    split
    · exact ⟨h2, rfl⟩
    split
    · exact ⟨h2, rfl⟩
    split
    · exact ⟨h2, rfl⟩
    obtain ⟨a1, a2, a3, a4, a5⟩ := h.at hd
    refine ⟨(h2.set _ ⟨by show (0 : Int) ≤ 1; omega, by show (1 : Int) ≤ _; omega, Nat.zero_le _, Nat.zero_le _, fun e he => by cases he⟩).set _ ⟨by show 0 ≤ d.ver + 1; omega, by show d.ver + 1 ≤ _; omega, a3, by show (putL _ d.kids).length ≤ _; rw [putL_len]; omega, fun e he => ?_⟩, by simp⟩
    rcases mem_putL he with rfl | h6
    · exact hs.1
    · exact a5 e h6
  · exact ⟨h2, rfl⟩
theorem actGone_sm {os : List LObj} {K : Nat} {o : LOp} (h : Sm os K) : Sm (actGone os o).1 (K + 2) ∧ (actGone os o).1.length = os.length := by
  unfold actGone
  have h2 := h.mono (show K ≤ K + 2 by omega)
  split
  · next d x hd hx =>
    split
    · exact ⟨h2, rfl⟩
    split
    · exact ⟨h2, rfl⟩
    split
    · exact ⟨h2, rfl⟩
    obtain ⟨a1, a2, a3, a4, a5⟩ := h.at hd
    obtain ⟨b1, b2, _⟩ := h.at hx
    have h3 : Sm (os.set o.dir.toNat { d with kids := outL o.name d.kids, ver := d.ver + 1 }) (K + 2) := h2.set _ ⟨by show 0 ≤ d.ver + 1; omega, by show d.ver + 1 ≤ _; omega, a3, by show (outL _ d.kids).length ≤ _; have := outL_le o.name d.kids; omega, fun e he => a5 e (by unfold outL at he; exact (List.mem_filter.1 he).1)⟩
    exact ⟨h3.set _ ⟨by show (0 : Int) ≤ x.ver + 1; omega, by show x.ver + 1 ≤ _; omega, Nat.zero_le _, Nat.zero_le _, fun e he => by cases he⟩, by simp⟩
  · exact ⟨h2, rfl⟩
theorem actMove_sm {os : List LObj} {K : Nat} {o : LOp} (h : Sm os K) (hs : OpSm o) : Sm (actMove os o).1 (K + 3) ∧ (actMove os o).1.length = os.length := by
  unfold actMove
  have h2 := h.mono (show K ≤ K + 3 by omega)
  split
  · next d x hd hx =>
    split
    · exact ⟨h2, rfl⟩
    split
    · exact ⟨h2, rfl⟩
    split
    · exact ⟨h2, rfl⟩
    split
    · exact ⟨h2, rfl⟩
    have h3 : Sm (kidsL (kidsL os o.dir.toNat (outL o.name)) o.dir2.toNat (putL ⟨o.name2, o.id⟩)) (K + 1) := (h.out _ _).put _ hs.2.1
    unfold turnM
    split
    · exact ⟨(h3.turn _).mono (by omega), by simp [turnL_len, kidsL_len]⟩
    · exact ⟨((h3.turn _).turn _).mono (by omega), by simp [turnL_len, kidsL_len]⟩
  · exact ⟨h2, rfl⟩
theorem actText_sm {os : List LObj} {K : Nat} {o : LOp} (h : Sm os K) (hs : OpSm o) : Sm (actText os o).1 (K + 3) ∧ (actText os o).1.length = os.length := by
  unfold actText
  have h2 := h.mono (show K ≤ K + 3 by omega)
  split
  · next x hx =>
    split
    · exact ⟨h2, rfl⟩
    obtain ⟨a1, a2, a3, a4, a5⟩ := h.at hx
    exact ⟨h2.set _ ⟨by show 0 ≤ x.ver + 1; omega, by show x.ver + 1 ≤ _; omega, hs.2.2, by show x.kids.length ≤ _; omega, a5⟩, by simp⟩
  · exact ⟨h2, rfl⟩
theorem actDo_sm {os : List LObj} {K : Nat} {o : LOp} (h : Sm os K) (hs : OpSm o) : Sm (actDo os o).1 (K + 3) ∧ (actDo os o).1.length = os.length := by
  unfold actDo
  split
  · exact ⟨h.mono (by omega), rfl⟩
  split
  · exact ⟨(actNew_sm h hs).1.mono (by omega), (actNew_sm h hs).2⟩
  split
  · exact ⟨(actGone_sm h).1.mono (by omega), (actGone_sm h).2⟩
  split
  · exact actMove_sm h hs
  · exact actText_sm h hs
theorem Sm.few {os : List LObj} {K : Nat} (h : Sm os K) (hK : K ≤ 1000000) : Few os := fun o ho => ⟨by have := (h o ho).2.2.2.1; omega, (h o ho).2.2.2.2⟩
theorem Sm.bd {os : List LObj} {K : Nat} (h : Sm os K) (hK : K ≤ 1000000) : Bd os 1000000 := fun o ho => by
  obtain ⟨h1, h2, h3, h4, h5⟩ := h o ho
  exact ⟨h1, by omega, by omega⟩
theorem Sm.sizes {os : List LObj} {K : Nat} (h : Sm os K) (hK : K ≤ 1000000) : Sizes os 1048576 := fun o ho => by
  have := (h o ho).2.2.2.1; omega
theorem le_maxLen4 {k : Nat} (h : k ≤ 4) : k ≤ maxLen := Nat.le_trans h (by simp [maxLen])
theorem Sm.short {os : List LObj} {K : Nat} (h : Sm os K) : ∀ o ∈ os, o.text.size ≤ maxLen ∧ ∀ e ∈ o.kids, e.name.size ≤ maxLen := fun o ho =>
  ⟨le_maxLen4 (h o ho).2.2.1, fun e he => le_maxLen4 ((h o ho).2.2.2.2 e he)⟩
theorem OpSm.sz {o : LOp} (h : OpSm o) : OpSz o := ⟨le_maxLen4 h.1, le_maxLen4 h.2.1, le_maxLen4 h.2.2⟩

end Go.Proofs.YtnolbfijcnldjaaGreatDoor

/- A tree behind some that is done, as it is drawn: only bounds are told of it. -/
namespace Go.Proofs.YtnolbfijcnldjaaGreatDoor
open Go.RowKit

theorem But.grown {rb : Nat} {W W' : World} (h : But rb W W') : W.grownBy W' (some rb) := ⟨h.below.os, h.below.tape, h.below.output, h.below.size, fun k hk hne => h.block k (fun e => hne (by rw [e])) hk⟩
theorem OwnT.base {w : World} {B B' b c : Nat} {os : List LObj} {vs : Nat → Value} (h : OwnT w B b c os vs) (hB : B' ≤ B) : OwnT w B' b c os vs :=
  ⟨Nat.le_trans hB h.lo, h.row, fun i o ho => by
    obtain ⟨h1, h2, h3, h4, h5, h6, h7⟩ := h.at_ i o ho
    exact ⟨h1, h2, h3, h4, h5, World.ownsRow.mono h6 hB, h7⟩, h.apart⟩
theorem OwnT.ge {w : World} {B b c : Nat} {os : List LObj} {vs : Nat → Value} (h : OwnT w B b c os vs) {q : Nat} (hq : q < B) : (b ≠ q) ∧ ∀ i, i < os.length → (vs i).ownBlock ≠ some q := by
  refine ⟨by have := h.lo; omega, fun i hi e => ?_⟩
  obtain ⟨_, _, _, _, _, h6, _⟩ := h.at_ i os[i] (by simp [hi])
  have := (h6.lt q e).1
  omega
theorem OwnT.but {w w' : World} {B b c rb : Nat} {os : List LObj} {vs : Nat → Value} (h : OwnT w B b c os vs) (hb : But rb w w') (hr : rb < B) : OwnT w' B b c os vs := by
  obtain ⟨h1, h2⟩ := h.ge hr
  exact h.grown hb.grown (by simpa using h1) fun i hi => .inr (h2 i hi)
/-- A row of what is done that grows leaves the tree. -/
theorem OwnT.ops {W W' : World} {B B' b c : Nat} {os : List LObj} {vs : Nat → Value} {u : Value} {ops : List LOp} (h : OwnT W B b c os vs) (ho : OwnOps W B' u ops) (hg : W.grownBy W' u.ownBlock) : OwnT W' B b c os vs := by
  obtain ⟨cur, hr, _⟩ := h.row
  have hne : ∀ q, u.ownBlock = some q → ∃ cs z, W.heap[q]? = some (.cells cs 27 z) := by
    intro q hq
    rcases ho.2 with ⟨hn, _⟩ | ⟨g, cap, cur', hn, _, hg', _⟩
    · rw [hn] at hq; simp [Value.ownBlock] at hq
    · rw [hn] at hq; simp [Value.ownBlock] at hq; subst hq; exact ⟨_, _, hg'⟩
  refine h.grown hg ?_ fun i hi => ?_
  · intro e
    obtain ⟨cs, z, h1⟩ := hne b e.symm
    rw [hr] at h1; simp at h1
  · obtain ⟨_, _, _, _, _, h6, _⟩ := h.at_ i os[i] (by simp [hi])
    rcases h6.2 with ⟨hn, _⟩ | ⟨g, cap, cur', hn, _, hg', _⟩
    · left; rw [hn]; rfl
    · right
      rw [hn]
      intro e
      simp [Value.ownBlock] at e
      obtain ⟨cs, z, h1⟩ := hne g e.symm
      rw [hg'] at h1; simp at h1

theorem row1 (w : World) (v : Value) (t : TypeId) : (w.alloc (.cells #[v] t)).rowIs w.heap.size t 1 (fun _ => v) := by
  have := World.rowIs_alloc w #[v] t (fun _ => v) (fun i hi => by
    have h0 : i = 0 := by simpa using hi
    subst h0; rfl)
  simpa using this
/-- What was done is short, ok, and went out of no other place than another one's. -/
def DoneOp (o : LOp) : Prop := OpSm o ∧ opOk o = true ∧ (o.kind = 3 → o.dir ≠ o.id)
theorem actDo_gone {os : List LObj} {o : LOp} (hok : opOk o = true) (h : (actDo os o).2 = 0) (hk : o.kind = 3) : o.dir ≠ o.id := by
  intro e
  have h1 := opOk_id hok
  unfold actDo at h
  split at h
  · cases h
  · rw [if_neg (by omega)] at h
    first | rw [if_pos hk] at h | skip
    unfold actGone at h
    rw [e] at h
    split at h
    · next d x hd hx =>
      rw [hd] at hx
      cases hx
      split at h
      · cases h
      split at h
      · cases h
      · next hf =>
        split at h
        · cases h
        · next hl =>
          have hn : d.kids = [] := List.eq_nil_of_length_eq_zero (by omega)
          rw [hn, findV_nil] at hf
          omega
    · cases h
/-- In the midst of growing: the boxes, the reader, the tree, what was done. -/
structure GSt (w W : World) (rb P A B b c K : Nat) (l : Value) (os : List LObj) (vs : Nat → Value) (ops : List LOp) : Prop where
  but : But rb w W
  rd : RdTo W rb P
  size : A + 1 < W.heap.size
  t : W.cell? ⟨A, 0, none⟩ = some (.slice (some ⟨b, 0, none⟩) 32 c)
  tb : ∃ f, W.rowIs A 25 1 f
  rx : ∃ f, W.rowIs (A + 1) 25 1 f
  tree : OwnT W B b c os vs
  len : os.length = 32
  sm : Sm os K
  list : OwnOps W (A + 2) l ops
  lsm : ∀ o ∈ ops, DoneOp o
theorem GSt.next {w W W' : World} {rb P P' A B b c K : Nat} {l : Value} {os : List LObj} {vs : Nat → Value} {ops : List LOp} (h : GSt w W rb P A B b c K l os vs ops) (hrA : rb < A) (hrB : rb < B) (hb : But rb W W') (hr : RdTo W' rb P') : GSt w W' rb P' A B b c K l os vs ops := by
  obtain ⟨f, hf⟩ := h.tb
  obtain ⟨f', hf'⟩ := h.rx
  have hs := h.size
  exact ⟨h.but.trans hb, hr, by have := hb.below.size; omega, by rw [hb.cell (by simp; omega) (by simp; omega)]; exact h.t, ⟨f, hf.of_block (hb.block _ (by omega) hf.lt)⟩, ⟨f', hf'.of_block (hb.block _ (by omega) hf'.lt)⟩, h.tree.but hb hrB, h.len, h.sm,
    World.ownsRow.kept h.list hb.grown (.inr fun e => by have := (h.list.lt rb e).1; omega), h.lsm⟩
theorem GSt.more {w W W' : World} {rb P A B b c K : Nat} {l : Value} {os : List LObj} {vs : Nat → Value} {ops : List LOp} (h : GSt w W rb P A B b c K l os vs ops) (hrA : rb < A) (hrB : rb < B) (hb : Below W.heap.size W W') : GSt w W' rb P A B b c K l os vs ops :=
  h.next hrA hrB (But.of_below (by have := h.size; omega) hb) (h.rd.but hb (by have := h.size; omega))
theorem GSt.on {w W : World} {rb P P' A B b c K : Nat} {l : Value} {os : List LObj} {vs : Nat → Value} {ops : List LOp} (h : GSt w W rb P A B b c K l os vs ops) (hP : P ≤ P') : GSt w W rb P' A B b c (K + 3) l os vs ops := by
  obtain ⟨q, hq, R⟩ := h.rd
  exact ⟨h.but, ⟨q, by omega, R⟩, h.size, h.t, h.tb, h.rx, h.tree, h.len, h.sm.mono (by omega), h.list, h.lsm⟩
/-- What is done, in a box. -/
structure OpBox (W : World) (q : Nat) (o : LOp) : Prop where
  lt : q < W.heap.size
  o0 : W.cell? ⟨q, 0, none⟩ = some (.int .i64 o.kind)
  o1 : W.cell? ⟨q, 1, none⟩ = some (.int .i64 o.dir)
  o2 : W.cell? ⟨q, 2, none⟩ = some (.string o.name)
  o3 : W.cell? ⟨q, 3, none⟩ = some (.int .i64 o.dir2)
  o4 : W.cell? ⟨q, 4, none⟩ = some (.string o.name2)
  o5 : W.cell? ⟨q, 5, none⟩ = some (.int .i64 o.id)
  o6 : W.cell? ⟨q, 6, none⟩ = some (.string o.text)
theorem OpBox.below {W W' : World} {q : Nat} {o : LOp} (h : OpBox W q o) (hb : Below W.heap.size W W') : OpBox W' q o := by
  have hc : ∀ i, W'.cell? ⟨q, i, none⟩ = W.cell? ⟨q, i, none⟩ := fun i => hb.cell (by simpa using h.lt)
  exact ⟨by have := h.lt; have := hb.size; omega, by rw [hc]; exact h.o0, by rw [hc]; exact h.o1, by rw [hc]; exact h.o2, by rw [hc]; exact h.o3, by rw [hc]; exact h.o4, by rw [hc]; exact h.o5, by rw [hc]; exact h.o6⟩
/-- What is read where something is done: the tree's box and what is done. -/
def RS (A qb b1 c1 : Nat) (o : LOp) (W : World) : Prop := W.cell? ⟨A, 0, none⟩ = some (.slice (some ⟨b1, 0, none⟩) 32 c1) ∧ W.cell? ⟨qb, 0, none⟩ = some (.int .i64 o.kind) ∧ W.cell? ⟨qb, 1, none⟩ = some (.int .i64 o.dir) ∧ W.cell? ⟨qb, 2, none⟩ = some (.string o.name) ∧ W.cell? ⟨qb, 3, none⟩ = some (.int .i64 o.dir2) ∧ W.cell? ⟨qb, 4, none⟩ = some (.string o.name2) ∧ W.cell? ⟨qb, 5, none⟩ = some (.int .i64 o.id) ∧ W.cell? ⟨qb, 6, none⟩ = some (.string o.text)
theorem RS.below {A qb b1 c1 : Nat} {o : LOp} {W W' : World} (h : RS A qb b1 c1 o W) (hA : A + 1 < W.heap.size) (hq : qb < W.heap.size) (hb : Below W.heap.size W W') : RS A qb b1 c1 o W' := by
  have e1 : ∀ i, W'.cell? ⟨A, i, none⟩ = W.cell? ⟨A, i, none⟩ := fun i => hb.cell (by simp; omega)
  have e2 : ∀ i, W'.cell? ⟨qb, i, none⟩ = W.cell? ⟨qb, i, none⟩ := fun i => hb.cell (by simpa using hq)
  unfold RS
  simp only [e1, e2]
  exact h
/-- A box that was made ahead of what is done is there behind it. -/
theorem bx1 {wA wB : World} {B2 b2 c2 : Nat} {os : List LObj} {vs2 : Nat → Value} (hT2 : OwnT wA B2 b2 c2 os vs2) (hl : os.length = 32) (hk : Kt (wA.alloc (Obj.cells #[.slice none 0 0] 25)) wB b2 32 vs2) : ∃ f, wB.rowIs wA.heap.size 25 1 f := by
  refine ⟨_, (row1 wA (.slice none 0 0) 25).of_block (hk _ (by simp) (by have := hT2.lt; omega) fun i hi e => ?_)⟩
  have hi' : i < os.length := by omega
  have := ((hT2.at_ i os[i] (by simp [hi'])).2.2.2.2.2.1.lt _ e).2
  omega
theorem bx2 {wA wB : World} {B2 b2 c2 q : Nat} {os : List LObj} {vs2 : Nat → Value} {f : Nat → Value} (hx : wA.rowIs q 25 1 f) (hT2 : OwnT wA B2 b2 c2 os vs2) (hq : q < B2) (hl : os.length = 32) (hk : Kt wA wB b2 32 vs2) : ∃ f, wB.rowIs q 25 1 f := by
  obtain ⟨h1, h2⟩ := hT2.ge hq
  exact ⟨_, hx.of_block (hk _ hx.lt h1.symm fun i hi => h2 i (by omega))⟩
theorem seven_at {w : World} {o : LOp} {j : Nat} {u : Value} {q : Nat} (h : (opCells [o])[j]? = some u) (hq : q = w.heap.size) : (w.alloc (Obj.cells o.val 27)).cell? ((⟨q, 0, none⟩ : Addr).add j) = some u := by
  subst hq
  have hadd : (⟨w.heap.size, 0, none⟩ : Addr).add j = ⟨w.heap.size, j, none⟩ := by unfold Addr.add; split <;> simp_all
  rw [hadd]
  have h1 : o.val[j]? = some u := by simpa [opCells] using h
  simp [go_sem, h1]
/-- What was done is a tree. -/
def DoneT (W : World) (r : List LObj × Int) (s13 s14 : Value) (wx : World) : Prop :=
  ∃ xb b1 c1 B1 vs1, s13 = .pointer (some ⟨xb, 0, none⟩) ∧ s14 = .int .i64 r.2 ∧ wx.cell? ⟨xb, 0, none⟩ = some (.slice (some ⟨b1, 0, none⟩) 32 c1) ∧ xb < wx.heap.size ∧ OwnT wx B1 b1 c1 r.1 vs1 ∧ W.heap.size ≤ B1 ∧ Below W.heap.size W wx
def GrowEnd (w : World) (rb P B K : Nat) (e : Ending) (w' : World) : Prop :=
  ∃ b c os vs l ops, e = .returned (.tuple #[.agg #[.slice (some ⟨b, 0, none⟩) 32 c], l]) ∧ OwnT w' B b c os vs ∧ os.length = 32 ∧ Sm os K ∧ OwnOps w' w.heap.size l ops ∧ (ops.length ≤ 1000 ∧ ∀ o ∈ ops, DoneOp o) ∧ RdTo w' rb P ∧ But rb w w'

theorem GSt.tfz {w W : World} {rb P A B b c K : Nat} {l : Value} {os : List LObj} {vs : Nat → Value} {ops : List LOp} (h : GSt w W rb P A B b c K l os vs ops) : W.frozen? ⟨A, 0, none⟩ = false := by
  obtain ⟨f, hf⟩ := h.tb
  exact hf.frozen 0
theorem GSt.notbox {w W : World} {rb P A B b c K : Nat} {l : Value} {os : List LObj} {vs : Nat → Value} {ops : List LOp} (h : GSt w W rb P A B b c K l os vs ops) {q : Nat} {k : Int} (hq : W.cell? ⟨q, 0, none⟩ = some (.int .i64 k)) : q ≠ A := fun e => by
  subst e
  rw [h.t] at hq
  cases hq
/-- The tree that was done is put into the tree's box. -/
theorem GSt.store {w W : World} {rb P A B b c K K' b' c' : Nat} {l : Value} {os os' : List LObj} {vs vs' : Nat → Value} {ops : List LOp} (h : GSt w W rb P A B b c K l os vs ops) (hT : OwnT W B b' c' os' vs') (hl : os'.length = 32) (hs : Sm os' K') (hA : w.heap.size ≤ A) (hrA : rb < A) : GSt w (W.setCell ⟨A, 0, none⟩ (.slice (some ⟨b', 0, none⟩) 32 c')) rb P A B b' c' K' l os' vs' ops := by
  obtain ⟨f, hf⟩ := h.tb
  obtain ⟨f', hf'⟩ := h.rx
  have hg : W.grownBy (W.setCell ⟨A, 0, none⟩ (.slice (some ⟨b', 0, none⟩) 32 c')) (some A) := ⟨rfl, rfl, rfl, by simp, fun i _ hi => Below.heap_setCell W ⟨A, 0, none⟩ _ i (by intro e; exact hi (by simp [e]))⟩
  obtain ⟨q, hq, R⟩ := h.rd
  have hA0 : Below A W (W.setCell ⟨A, 0, none⟩ (.slice (some ⟨b', 0, none⟩) 32 c')) := (Below.refl _ _).setCell (by simp) _
  refine ⟨⟨h.but.below.trans (hA0.mono (by omega)), fun k hk hlt => (hA0.block k (by omega)).trans (h.but.block k hk hlt)⟩, ⟨q, hq, R.below hA0 hrA⟩, by simpa using h.size, by rw [World.cell?_setCell_same _ _ _ h.t], ⟨_, hf.set 0 _⟩, ⟨f', hf'.of_block (Below.heap_setCell W ⟨A, 0, none⟩ _ _ (by simp))⟩, hT.setBox ⟨f, hf⟩ 0 _, hl, hs, World.ownsRow.kept h.list hg (.inr fun e => by have := (h.list.lt A e).1; omega), h.lsm⟩
theorem GSt.app {w W W' : World} {rb P A B b c K : Nat} {l v : Value} {os : List LObj} {vs : Nat → Value} {ops : List LOp} {o : LOp} (h : GSt w W rb P A B b c K l os vs ops) (hE : AppOEnd W W' (A + 2) l v (ops ++ [o])) (hA : w.heap.size ≤ A) (hrA : rb < A) (ho : DoneOp o) : GSt w W' rb P A B b c K v os vs (ops ++ [o]) := by
  obtain ⟨f, hf⟩ := h.tb
  obtain ⟨f', hf'⟩ := h.rx
  obtain ⟨q, hq, R⟩ := h.rd
  have hs := h.size
  have hA0 : Below (A + 2) W W' := below_grown (Below.refl _ _) hE.grown (fun k hk => (h.list.lt k hk).1) (by omega)
  exact ⟨⟨h.but.below.trans (hA0.mono (by omega)), fun k hk hlt => (hA0.block k (by omega)).trans (h.but.block k hk hlt)⟩, ⟨q, hq, R.below hA0 (by omega)⟩, by have := hA0.size; omega, by rw [hA0.cell (by simp)]; exact h.t, ⟨f, hf.of_block (hA0.block _ (by omega))⟩, ⟨f', hf'.of_block (hA0.block _ (by omega))⟩, h.tree.ops h.list hE.grown, h.len, h.sm, hE.own, fun x hx => by
    rcases List.mem_append.1 hx with h1 | h1
    · exact h.lsm x h1
    · rw [List.mem_singleton.1 h1]; exact ho⟩
theorem GSt.fin {w W : World} {rb P P' A B b c K : Nat} {l : Value} {os : List LObj} {vs : Nat → Value} {ops : List LOp} (h : GSt w W rb P A B b c K l os vs ops) (hA : w.heap.size = A) (hrA : rb < A) (hP : P ≤ P') (hln : ops.length ≤ 1000) (v : Value) : GrowEnd w rb P' B K (.returned (.tuple #[.agg #[.slice (some ⟨b, 0, none⟩) 32 c], l])) (W.setCell ⟨A + 1, 0, none⟩ v) := by
  obtain ⟨f', hf'⟩ := h.rx
  obtain ⟨q, hq, R⟩ := h.rd
  have hA0 : Below (A + 1) W (W.setCell ⟨A + 1, 0, none⟩ v) := (Below.refl _ _).setCell (by simp) _
  have hg : W.grownBy (W.setCell ⟨A + 1, 0, none⟩ v) (some (A + 1)) := ⟨rfl, rfl, rfl, by simp, fun i _ hi => Below.heap_setCell W ⟨A + 1, 0, none⟩ _ i (by intro e; exact hi (by simp [e]))⟩
  exact ⟨b, c, os, vs, l, ops, rfl, h.tree.setBox ⟨f', hf'⟩ 0 v, h.len, h.sm, World.ownsRow.mono (World.ownsRow.kept h.list hg (.inr fun e => by have := (h.list.lt _ e).1; omega)) (by omega), ⟨hln, h.lsm⟩, ⟨q, by omega, R.below hA0 (by omega)⟩, ⟨h.but.below.trans (hA0.mono (by omega)), fun k hk hlt => (hA0.block k (by omega)).trans (h.but.block k hk hlt)⟩⟩
set_option maxHeartbeats 4000000 in
set_option maxRecDepth 20000 in
theorem grow_any (rb p B b c n K : Nat) (os : List LObj) (vs : Nat → Value) (who : Int) (w : World) (hp : p + 9 * n ≤ 999000) (hn : n ≤ 1000) (hrB : rb < B) (hB : B ≤ w.heap.size) (hK : K + 3 * n ≤ 900000) (h32 : os.length = 32) (hS : Sm os K) (H : OwnT w B b c os vs) (R : RdTo w rb p) :
    Calls Tryz.prog 101 #[.pointer (some ⟨rb, 0, none⟩), .agg #[.slice (some ⟨b, 0, none⟩) 32 c], .int .i64 who, .int .i64 n] w fun e w' => GrowEnd w rb (p + 9 * n) B (K + 3 * n) e w' := by
  have hrw : rb < w.heap.size := by omega
  have hA3 : Below w.heap.size w (((w.alloc (Obj.cells #[.slice (some ⟨b, 0, none⟩) 32 c] 25)).alloc (Obj.cells #[.slice none 0 0] 25)).alloc (Obj.cells #[] 27)) := (((Below.refl _ _).alloc (Nat.le_refl _) _).alloc (by simp) _).alloc (by simp; omega) _
  have G0 : GSt w (((w.alloc (Obj.cells #[.slice (some ⟨b, 0, none⟩) 32 c] 25)).alloc (Obj.cells #[.slice none 0 0] 25)).alloc (Obj.cells #[] 27)) rb p w.heap.size B b c K (.slice (some ⟨w.heap.size + 1 + 1, 0, none⟩) 0 0) os vs [] := by
    refine ⟨But.of_below hrw hA3, R.but hA3 hrw, by simp, by simp [go_sem], ⟨fun _ => .slice (some ⟨b, 0, none⟩) 32 c, ?_⟩, ⟨fun _ => .slice none 0 0, ?_⟩, H.below hA3, h32, hS, ?_, fun o ho => by cases ho⟩
    · have h2 : Below (w.heap.size + 1) (w.alloc (Obj.cells #[.slice (some ⟨b, 0, none⟩) 32 c] 25)) (((w.alloc (Obj.cells #[.slice (some ⟨b, 0, none⟩) 32 c] 25)).alloc (Obj.cells #[.slice none 0 0] 25)).alloc (Obj.cells #[] 27)) := ((Below.refl _ _).alloc (by simp) _).alloc (by simp) _
      exact (row1 w _ 25).of_block (h2.block _ (by omega))
    · have h2 : Below (w.heap.size + 1 + 1) ((w.alloc (Obj.cells #[.slice (some ⟨b, 0, none⟩) 32 c] 25)).alloc (Obj.cells #[.slice none 0 0] 25)) (((w.alloc (Obj.cells #[.slice (some ⟨b, 0, none⟩) 32 c] 25)).alloc (Obj.cells #[.slice none 0 0] 25)).alloc (Obj.cells #[] 27)) := (Below.refl _ _).alloc (by simp) _
      have h3 := (row1 (w.alloc (Obj.cells #[.slice (some ⟨b, 0, none⟩) 32 c] 25)) (.slice none 0 0) 25).of_block (h2.block _ (by simp))
      simpa using h3
    · simpa [OwnOps, opCells] using World.ownsRow_lit (base := w.heap.size + 2) (e := 27) (size := 7) ((w.alloc (Obj.cells #[.slice (some ⟨b, 0, none⟩) 32 c] 25)).alloc (Obj.cells #[.slice none 0 0] 25)) #[] 0 (by simp) (by simp [maxLen]) rfl
  clear H R hS h32
  go_enter Tryz.func101, Tryz.ntmps101
  go_wp2_with fail
  go_loopg [10, 11] n (fun g l i wr => ∃ j : Nat, j ≤ n ∧ Hid (g = n - j) ∧ i = .int .i64 j ∧ ∃ b' c' os' vs' ops, Hid (GSt w wr rb (p + 9 * j) w.heap.size B b' c' (K + 3 * j) l os' vs' ops ∧ ops.length ≤ j))
  case atStart => exact ⟨0, Nat.zero_le _, rfl, rfl, b, c, os, vs, [], by simpa using G0, by simp⟩
  case round =>
    obtain ⟨j, hj, hg, rfl, b1, c1, os1, vs1, ops1, HG⟩ := hrel
    have G1 := HG.out.1
    have q1 := G1.t
    have hz1 := G1.size
    clear G0 hA3
    by_cases hlt : j < n
    · have hltI : (j : Int) < (n : Int) := by omega
      have hO1 : Hid (ObjsAt wr B wr.heap.size (some ⟨b1, 0, none⟩) 32 os1) := by
        show ObjsAt _ _ _ _ _ _
        have := G1.tree.to_objs
        rwa [G1.len] at this
      clear G1
      go_wp2_with fail
      refine (op_any rb (p + 9 * j) (some ⟨b1, 0, none⟩) c1 os1 B who wr (by omega) (by omega) hrB (HG.out.1.sm.few (by omega)) hO1.out HG.out.1.rd).mono ?_
      rintro e W1 ⟨⟨o, rfl, hos⟩, hr1, hb1⟩
      have HG1 : Hid (GSt w W1 rb (p + 9 * j + 9) w.heap.size B b1 c1 (K + 3 * j) _ os1 vs1 ops1) := HG.out.1.next hrw hrB hb1 hr1
      have hle : ops1.length ≤ j := HG.out.2
      clear HG hb1 hr1 hO1 q1 hz1
      obtain ⟨k, dd, nm, ll, nm2, ii, tx⟩ := o
      simp only [LOp.val]
      have hz1 := HG1.out.size
      go_wp2_with fail
      have hz := OpSm.sz hos
      refine (opOk_any ⟨k, dd, nm, ll, nm2, ii, tx⟩ _ hz.1 hz.2 hz.3).mono ?_
      rintro e W2 ⟨rfl, rfl⟩
      simp only [LOp.val]
      have hAB : Below W1.heap.size W1 ((W1.alloc (Obj.cells #[.int .i64 k, .int .i64 dd, .string nm, .int .i64 ll, .string nm2, .int .i64 ii, .string tx] 27)).alloc (Obj.cells #[.int .i64 k, .int .i64 dd, .string nm, .int .i64 ll, .string nm2, .int .i64 ii, .string tx] 27)) := ((Below.refl _ _).alloc (Nat.le_refl _) _).alloc (by simp) _
      have HG2 : Hid (GSt w ((W1.alloc (Obj.cells #[.int .i64 k, .int .i64 dd, .string nm, .int .i64 ll, .string nm2, .int .i64 ii, .string tx] 27)).alloc (Obj.cells #[.int .i64 k, .int .i64 dd, .string nm, .int .i64 ll, .string nm2, .int .i64 ii, .string tx] 27)) rb (p + 9 * j + 9) w.heap.size B b1 c1 (K + 3 * j) _ os1 vs1 ops1) := HG1.out.more hrw hrB hAB
      have HBX : Hid (OpBox ((W1.alloc (Obj.cells #[.int .i64 k, .int .i64 dd, .string nm, .int .i64 ll, .string nm2, .int .i64 ii, .string tx] 27)).alloc (Obj.cells #[.int .i64 k, .int .i64 dd, .string nm, .int .i64 ll, .string nm2, .int .i64 ii, .string tx] 27)) W1.heap.size ⟨k, dd, nm, ll, nm2, ii, tx⟩) := ⟨by simp; omega, by simp [go_sem], by simp [go_sem], by simp [go_sem], by simp [go_sem], by simp [go_sem], by simp [go_sem], by simp [go_sem]⟩
      generalize hW2 : (W1.alloc (Obj.cells #[.int .i64 k, .int .i64 dd, .string nm, .int .i64 ll, .string nm2, .int .i64 ii, .string tx] 27)).alloc (Obj.cells #[.int .i64 k, .int .i64 dd, .string nm, .int .i64 ll, .string nm2, .int .i64 ii, .string tx] 27) = W2 at *
      clear hW2 hAB HG1 hz1
      have hz2 := HG2.out.size
      cases hok : opOk ⟨k, dd, nm, ll, nm2, ii, tx⟩
      · clear hok
        go_wp2_with fail
        go_roundg (n - (j + 1))
        case measure => have := hg.out; omega
        case rel => exact ⟨j + 1, by omega, rfl, by go_num, b1, c1, os1, vs1, ops1, HG2.out.on (by omega), by omega⟩
      · have HOK : Hid (opOk ⟨k, dd, nm, ll, nm2, ii, tx⟩ = true) := hok
        clear hok
        go_upto_region 7 with fail
        have hqb := HBX.out.lt
        generalize hqe : W1.heap.size = qb at *
        clear hqe
        have HRS : Hid (RS w.heap.size qb b1 c1 ⟨k, dd, nm, ll, nm2, ii, tx⟩ W2) := ⟨HG2.out.t, HBX.out.o0, HBX.out.o1, HBX.out.o2, HBX.out.o3, HBX.out.o4, HBX.out.o5, HBX.out.o6⟩
        have hO2 : Hid (ObjsAt W2 B W2.heap.size (some ⟨b1, 0, none⟩) 32 os1) := by
          show ObjsAt _ _ _ _ _ _
          have := HG2.out.tree.to_objs
          rwa [HG2.out.len] at this
        have hl32 : os1.length = 32 := HG2.out.len
        have HSM := HG2.out.sm
        go_cut [13, 14] (fun s13 s14 wx => DoneT W2 (actDo os1 ⟨k, dd, nm, ll, nm2, ii, tx⟩) s13 s14 wx)
        case first =>
          go_region_held3 (fun w' => w'.cell? ⟨w.heap.size, 0, none⟩ = some (.slice (some ⟨b1, 0, none⟩) 32 c1) ∧ w'.cell? ⟨qb, 0, none⟩ = some (.int .i64 k) ∧ w'.cell? ⟨qb, 1, none⟩ = some (.int .i64 dd) ∧ w'.cell? ⟨qb, 2, none⟩ = some (.string nm) ∧ w'.cell? ⟨qb, 3, none⟩ = some (.int .i64 ll) ∧ w'.cell? ⟨qb, 4, none⟩ = some (.string nm2) ∧ w'.cell? ⟨qb, 5, none⟩ = some (.int .i64 ii) ∧ w'.cell? ⟨qb, 6, none⟩ = some (.string tx))
            (exact RS.below HRS.out hz2 hqb (by repeat (first | with_reducible exact Below.refl _ _ | with_reducible exact hbA2 | with_reducible exact hbB2 | refine Below.drew ?_ | refine Below.alloc ?_ (by first | omega | (simp <;> omega)) _ | refine Below.setCell ?_ (by first | omega | (simp <;> omega)) _)))
            (first
              | (go_at_call 66; refine (copy_any (some ⟨b1, 0, none⟩) 32 c1 os1 B W2.heap.size _ (by omega) (by omega) (HSM.sizes (by omega)) (by first | omega | (simp <;> omega)) (hO2.out.below (by repeat (first | with_reducible exact Below.refl _ _ | with_reducible exact hbA2 | with_reducible exact hbB2 | refine Below.drew ?_ | refine Below.alloc ?_ (by first | omega | (simp <;> omega)) _ | refine Below.setCell ?_ (by first | omega | (simp <;> omega)) _)) (Nat.le_refl _))).mono ?_; rintro e wA ⟨⟨v, vs2, rfl, hcp⟩, hbA⟩; obtain ⟨b2, c2, rfl, hT2⟩ := hcp.out.done hl32.symm (by omega) HSM.short; have hbA2 : Below W2.heap.size W2 wA := Below.trans (by repeat (first | with_reducible exact Below.refl _ _ | with_reducible exact hbA2 | with_reducible exact hbB2 | refine Below.drew ?_ | refine Below.alloc ?_ (by first | omega | (simp <;> omega)) _ | refine Below.setCell ?_ (by first | omega | (simp <;> omega)) _)) (hbA.mono (by first | omega | (simp <;> omega))); have hzA := hbA2.size; have hT2b : OwnT wA W2.heap.size b2 c2 os1 vs2 := hT2.base (by first | omega | (simp <;> omega)); try (have hxA : Hid (wA.rowIs W2.heap.size 25 1 (fun _ => .slice none 0 0)) := (by show World.rowIs _ _ _ _ _; first | exact (row1 W2 (.slice none 0 0) 25).of_block (hbA.block W2.heap.size (by simp)) | exact (row1 W2.drew (.slice none 0 0) 25).of_block (hbA.block W2.heap.size (by simp)))))
              | (go_at_call 67; refine (do_any W2.heap.size b2 c2 32 ⟨k, dd, nm, ll, nm2, ii, tx⟩ os1 vs2 _ HOK.out hl32.symm (by omega) (by first | omega | (simp <;> omega)) (HSM.bd (by omega)) (OpSm.sz hos) (by first | with_reducible exact hT2b | exact hT2b.below ((Below.refl _ _).alloc (Nat.le_refl _) _))).mono ?_; rintro e wB ⟨vs3, rfl, hT3, hbB, hk3⟩; rw [show (actDo os1 ⟨k, dd, nm, ll, nm2, ii, tx⟩).1.length = 32 from (actDo_sm HSM hos).2.trans hl32]; have hbB2 : Below W2.heap.size W2 wB := Below.trans (by repeat (first | with_reducible exact Below.refl _ _ | with_reducible exact hbA2 | with_reducible exact hbB2 | refine Below.drew ?_ | refine Below.alloc ?_ (by first | omega | (simp <;> omega)) _ | refine Below.setCell ?_ (by first | omega | (simp <;> omega)) _)) hbB; have hzB := hbB2.size; first | (obtain ⟨fx, hfx⟩ := bx1 hT2 hl32 hk3; have hxc := hfx.cell (i := 0) (by omega); have hxf := hfx.frozen 0) | (obtain ⟨fx, hfx⟩ := bx2 hxA.out hT2 (by simp) hl32 hk3; have hxc := hfx.cell (i := 0) (by omega); have hxf := hfx.frozen 0) | skip))
          all_goals
            go_wp2_with fail
            go_meet
            first
              | exact ⟨_, b2, c2, W2.heap.size, vs3, rfl, rfl, World.cell?_setCell_same _ _ _ hxc, by simpa using hfx.lt, hT3.setBox ⟨fx, hfx⟩ 0 _, Nat.le_refl _, hbB2.setCell (by simp; omega) _⟩
              | exact ⟨_, b2, c2, W2.heap.size, vs3, rfl, rfl, World.cell?_setCell_same _ _ _ hxc, by simpa using hfx.lt, hT3.setBox ⟨fx, hfx⟩ 0 _, Nat.le_refl _, hbB2.setCell (by simp) _⟩
              | exact ⟨wB.heap.size, b2, c2, W2.heap.size, vs3, rfl, rfl, by simp [go_sem], by simp, hT3.below ((Below.refl _ _).alloc (Nat.le_refl _) _), Nat.le_refl _, hbB2.alloc (by omega) _⟩
        case rest =>
          obtain ⟨xb, b2, c2, B2, vs2, rfl, rfl, hx0, hxl, hT2, hB2, hb2⟩ := hcut
          have HG3 : Hid (GSt w wc rb (p + 9 * j + 9) w.heap.size B b1 c1 (K + 3 * j) _ os1 vs1 ops1) := HG2.out.more hrw hrB hb2
          have HT2 : Hid (OwnT wc B2 b2 c2 (actDo os1 ⟨k, dd, nm, ll, nm2, ii, tx⟩).1 vs2) := hT2
          have hB2' : B ≤ B2 := by have := HG2.out.but.below.size; omega
          have HBX3 := HBX.out.below hb2
          clear hT2 HG2 HBX HRS hO2 hb2 hz2 hqb hB2
          have hz3 := HG3.out.size
          have q3 := HG3.out.t
          have z3 := HG3.out.tfz
          obtain ⟨hqb, e0, e1, e2, e3, e4, e5, e6⟩ := HBX3
          dsimp only at e0 e1 e2 e3 e4 e5 e6
          have HR1 : Hid (Sm (actDo os1 ⟨k, dd, nm, ll, nm2, ii, tx⟩).1 (K + 3 * j + 3) ∧ (actDo os1 ⟨k, dd, nm, ll, nm2, ii, tx⟩).1.length = 32) := ⟨(actDo_sm HSM hos).1, (actDo_sm HSM hos).2.trans hl32⟩
          have HGK : Hid ((actDo os1 ⟨k, dd, nm, ll, nm2, ii, tx⟩).2 = 0 → k = 3 → dd ≠ ii) := fun h hk3 => actDo_gone HOK.out h hk3
          generalize actDo os1 ⟨k, dd, nm, ll, nm2, ii, tx⟩ = r at *
          by_cases hr0 : r.2 = 0
          · have t0 : (r.2 == 0) = true := by simp [hr0]
            have HGD : Hid (k = 3 → dd ≠ ii) := HGK.out hr0
            clear hr0
            have hne : qb ≠ w.heap.size := HG3.out.notbox e0
            have HG4 : Hid (GSt w (wc.setCell ⟨w.heap.size, 0, none⟩ (.slice (some ⟨b2, 0, none⟩) 32 c2)) rb (p + 9 * j + 9) w.heap.size B b2 c2 (K + 3 * j + 3) _ r.1 vs2 ops1) := HG3.out.store (HT2.out.base hB2') HR1.out.2 HR1.out.1 (Nat.le_refl _) hrw
            have HG5 : Hid (GSt w ((wc.setCell ⟨w.heap.size, 0, none⟩ (.slice (some ⟨b2, 0, none⟩) 32 c2)).alloc (Obj.cells #[.int .i64 k, .int .i64 dd, .string nm, .int .i64 ll, .string nm2, .int .i64 ii, .string tx] 27)) rb (p + 9 * j + 9) w.heap.size B b2 c2 (K + 3 * j + 3) _ r.1 vs2 ops1) := HG4.out.more hrw hrB ((Below.refl _ _).alloc (Nat.le_refl _) _)
            have hz5 := HG5.out.size
            clear HG4 HG3 HT2
            go_wp2_with (first
              | (at_builtin; refine wpList_app_ops _ rfl (.tmp 38) (.tmp 40) rfl (w.heap.size + 2) _ ops1 [⟨k, dd, nm, ll, nm2, ii, tx⟩] HG5.out.list ⟨wc.heap.size, 0, none⟩ 1 1 rfl rfl rfl ?c1 ?c2 ?c3 ?_)
              | go_in)
            case c1 => intro i u hi; exact seven_at hi (by simp)
            case c2 => simp; omega
            case c3 => omega
            intro v' w6 hE
            have HG6 : Hid (GSt w w6 rb (p + 9 * j + 9) w.heap.size B b2 c2 (K + 3 * j + 3) v' r.1 vs2 (ops1 ++ [⟨k, dd, nm, ll, nm2, ii, tx⟩])) := HG5.out.app hE (Nat.le_refl _) hrw ⟨hos, HOK.out, HGD.out⟩
            clear HG5 hE
            go_wp2_with fail
            go_roundg (n - (j + 1))
            case measure => have := hg.out; omega
            case rel => exact ⟨j + 1, by omega, rfl, by go_num, b2, c2, r.1, vs2, _, HG6.out, by simp; omega⟩
          · have t0 : (r.2 == 0) = false := by simp [hr0]
            clear hr0
            go_wp2_with fail
            go_roundg (n - (j + 1))
            case measure => have := hg.out; omega
            case rel => exact ⟨j + 1, by omega, rfl, by go_num, b1, c1, os1, vs1, ops1, HG3.out.on (by omega), by omega⟩
    · obtain rfl : j = n := by omega
      have q2 := HG.out.1.rx
      obtain ⟨fr, hfr⟩ := q2
      have g0 := hfr.cell (i := 0) (by omega)
      have z0 := hfr.frozen 0
      clear hfr G1
      go_wp2_with fail
      refine bodyPost_ret (v := .tuple #[.agg #[.slice (some ⟨b1, 0, none⟩) 32 c1], u10]) (by rw [results, Tryz.results101]; simp [go_sem, World.cell?_setCell_same _ _ _ g0]) rfl ?_
      exact HG.out.1.fin rfl hrw (by omega) (by have := HG.out.2; omega) _
end Go.Proofs.YtnolbfijcnldjaaGreatDoor

/- A tree as it is drawn: only bounds are told of it. -/
namespace Go.Proofs.YtnolbfijcnldjaaGreatDoor
open Go.RowKit

def openL : List LObj := ⟨2, 1, ⟨#[]⟩, []⟩ :: List.replicate 31 ⟨0, 0, ⟨#[]⟩, []⟩
theorem openL_len : openL.length = 32 := rfl
theorem openL_at {i : Nat} {o : LObj} (h : openL[i]? = some o) : i < 32 ∧ o = ⟨if i = 0 then 2 else 0, if i = 0 then 1 else 0, ⟨#[]⟩, []⟩ := by
  have hi : i < 32 := (List.getElem?_eq_some_iff.1 h).1
  refine ⟨hi, ?_⟩
  cases i with
  | zero => simp [openL] at h; simp [← h]
  | succ i =>
    simp only [openL, List.getElem?_cons_succ] at h
    rw [List.getElem?_replicate_of_lt (by omega)] at h
    simp at h
    simp [← h]
theorem openL_sm : Sm openL 1 := fun o ho => by
  obtain ⟨i, hi⟩ := List.mem_iff_getElem?.1 ho
  obtain ⟨_, rfl⟩ := openL_at hi
  by_cases h0 : i = 0
  · subst h0
    exact ⟨by decide, by decide, Nat.zero_le _, Nat.zero_le _, fun e he => by cases he⟩
  · rw [if_neg h0, if_neg h0]
    exact ⟨by decide, by decide, Nat.zero_le _, Nat.zero_le _, fun e he => by cases he⟩
theorem own_open {w : World} {b B : Nat} (hr : w.rowIs b 38 128 openF) (hB : B ≤ b) : OwnT w B b 32 openL (fun _ => .slice none 0 0) := by
  have hr' := hr
  obtain ⟨cs, h1, h2, h3⟩ := hr'
  refine ⟨hB, ⟨cs, h1, by omega, by simp [openL_len], by simp [maxLen]⟩, fun i o ho => ?_, fun i j g _ _ _ h => by simp [Value.ownBlock] at h⟩
  obtain ⟨hi, rfl⟩ := openL_at ho
  have c : ∀ k, k < 128 → w.cell? ⟨b, k, none⟩ = some (openF k) := fun k hk => hr.cell hk
  refine ⟨Nat.zero_le _, ?_, ?_, ?_, ?_, OwnEnts.bare _ B, fun e he => by cases he⟩
  · rw [c _ (by omega)]
    unfold openF
    by_cases h0 : i = 0
    · subst h0; rfl
    · rw [if_neg (by omega), if_neg (by omega), if_neg (by omega), if_neg (by omega)]; simp [h0]
  · rw [c _ (by omega)]
    unfold openF
    by_cases h0 : i = 0
    · subst h0; rfl
    · rw [if_neg (by omega), if_neg (by omega), if_neg (by omega), if_neg (by omega)]; simp [h0]
  · rw [c _ (by omega)]
    unfold openF
    rw [if_neg (by omega), if_neg (by omega), if_pos (by omega)]
  · rw [c _ (by omega)]
    unfold openF
    rw [if_neg (by omega), if_neg (by omega), if_neg (by omega), if_pos (by omega)]
/-- A tree of one's own, as it was drawn. -/
def TreeEnd (w : World) (rb P K : Nat) (e : Ending) (w' : World) : Prop :=
  ∃ b c os vs, e = .returned (.agg #[.slice (some ⟨b, 0, none⟩) 32 c]) ∧ OwnT w' w.heap.size b c os vs ∧ os.length = 32 ∧ Sm os K ∧ RdTo w' rb P ∧ But rb w w'

set_option maxHeartbeats 4000000 in
set_option maxRecDepth 20000 in
theorem tree_any (rb p : Nat) (w : World) (hp : p ≤ 990000) (hrw : rb < w.heap.size) (R : RdTo w rb p) :
    Calls Tryz.prog 59 #[.pointer (some ⟨rb, 0, none⟩)] w fun e w' => TreeEnd w rb (p + 150) 60 e w' := by
  go_enter Tryz.func59, Tryz.ntmps59
  go_wp2_with fail
  refine (specOpen _).mono ?_
  rintro e W1 ⟨⟨b, rfl, hb0, hrow⟩, hb1⟩
  have hA1 : Below w.heap.size w W1 := ((Below.refl _ _).alloc (Nat.le_refl _) _).trans (hb1.mono (by simp))
  have hbx : Hid (∃ f, W1.rowIs w.heap.size 25 1 f) := ⟨_, (row1 w _ 25).of_block (hb1.block _ (by simp))⟩
  have HT : Hid (OwnT W1 (w.heap.size + 1) b 32 openL (fun _ => .slice none 0 0)) := own_open hrow (by simpa using hb0)
  have hz1 : w.heap.size + 1 ≤ W1.heap.size := by simpa using hb1.size
  clear hb1 hrow hb0
  go_wp2_with fail
  refine (num_to (fun z => 0 ≤ z ∧ z ≤ 16) rb p W1.heap.size 4 4 _ (by omega) (by omega) (by omega) (by omega) (R.but (hA1.alloc (by omega) _) hrw) ?_).mono ?_
  · intro i hi
    match i, hi with
    | 0, _ => exact ⟨0, by simp [go_sem], by omega, by omega⟩
    | 1, _ => exact ⟨4, by simp [go_sem], by omega, by omega⟩
    | 2, _ => exact ⟨10, by simp [go_sem], by omega, by omega⟩
    | 3, _ => exact ⟨16, by simp [go_sem], by omega, by omega⟩
  rintro e W2 ⟨⟨z, rfl, hz⟩, hr2, hb2⟩
  obtain ⟨n, rfl⟩ : ∃ n : Nat, z = n := ⟨z.toNat, by omega⟩
  have hA2 : But rb w W2 := (But.of_below hrw (hA1.alloc (by omega) _)).trans hb2
  have HT2 : Hid (OwnT W2 (w.heap.size + 1) b 32 openL (fun _ => .slice none 0 0)) := (HT.out.below ((Below.refl _ _).alloc (Nat.le_refl _) _)).but hb2 (by omega)
  have hbx2 : Hid (∃ f, W2.rowIs w.heap.size 25 1 f) := by
    obtain ⟨f, hf⟩ := hbx.out
    exact ⟨f, (hf.of_block (((Below.refl W1.heap.size W1).alloc (Nat.le_refl _) _).block _ (by omega))).of_block (hb2.block _ (by omega) (by simp; omega))⟩
  have hz2 : w.heap.size + 1 ≤ W2.heap.size := by have := hb2.below.size; simp at this; omega
  clear HT hbx hb2 hA1 hz1
  go_wp2_with fail
  refine (grow_any rb (p + 1) (w.heap.size + 1) b 32 n 1 openL _ 0 W2 (by omega) (by omega) (by omega) (by omega) (by omega) openL_len openL_sm HT2.out hr2).mono ?_
  rintro e W3 ⟨b', c', os', vs', l, ops, rfl, hT3, hl3, hs3, _, _, hr3, hb3⟩
  have hA3 : But rb w W3 := hA2.trans hb3
  obtain ⟨f, hf⟩ := hbx2.out
  have hf3 := hf.of_block (hb3.block w.heap.size (by omega) (by omega))
  have g0 := hf3.cell (i := 0) (by omega)
  have z0 := hf3.frozen 0
  have HT3 : Hid (OwnT W3 (w.heap.size + 1) b' c' os' vs') := hT3
  have hz3 : w.heap.size < W3.heap.size := by have := hb3.below.size; omega
  clear hT3 hb3 hbx2 HT2 hr2 hA2
  go_wp2_with fail
  have hq : ((W3.setCell ⟨w.heap.size, 0, none⟩ (.slice (some ⟨b', 0, none⟩) 32 c')).alloc (Obj.cells #[.slice (some ⟨b', 0, none⟩) 32 c'] 25)).cell? ⟨w.heap.size, 0, none⟩ = some (.slice (some ⟨b', 0, none⟩) 32 c') := by
    rw [World.cell?_alloc_lt _ _ _ (by simpa using hz3)]; exact World.cell?_setCell_same _ _ _ g0
  refine bodyPost_ret (v := .agg #[.slice (some ⟨b', 0, none⟩) 32 c']) (by rw [results, Tryz.results59]; simp [go_sem, hq]) rfl ?_
  obtain ⟨q, hq, R3⟩ := hr3
  have hB1 : Below w.heap.size W3 ((W3.setCell ⟨w.heap.size, 0, none⟩ (.slice (some ⟨b', 0, none⟩) 32 c')).alloc (Obj.cells #[.slice (some ⟨b', 0, none⟩) 32 c'] 25)) := ((Below.refl _ _).setCell (by simp) _).alloc (by simp; omega) _
  exact ⟨b', c', os', vs', rfl, ((HT3.out.setBox ⟨f, hf3⟩ 0 _).below ((Below.refl _ _).alloc (Nat.le_refl _) _)).base (by omega), hl3, hs3.mono (by omega), ⟨q, by omega, R3.below hB1 hrw⟩, ⟨hA3.below.trans (hB1.mono (by omega)), fun k hk hlt => (hB1.block k hlt).trans (hA3.block k hk hlt)⟩⟩
end Go.Proofs.YtnolbfijcnldjaaGreatDoor

/- A tree as it is drawn, one in ten bent: only bounds are told of it. -/
namespace Go.Proofs.YtnolbfijcnldjaaGreatDoor
open Go.RowKit

/-- Few turns, few names, short names and texts; a Ver may be just out of bounds. -/
def Bn (os : List LObj) : Prop := ∀ o ∈ os, -1 ≤ o.ver ∧ o.ver ≤ 1000001 ∧ o.text.size ≤ 4 ∧ o.kids.length ≤ 1000 ∧ ∀ e ∈ o.kids, e.name.size ≤ 4
theorem Sm.bn {os : List LObj} {K : Nat} (h : Sm os K) (hK : K ≤ 1000) : Bn os := fun o ho => by
  obtain ⟨h1, h2, h3, h4, h5⟩ := h o ho
  exact ⟨by omega, by omega, h3, by omega, h5⟩
theorem Bn.set {os : List LObj} (h : Bn os) (i : Nat) {y : LObj} (hy : -1 ≤ y.ver ∧ y.ver ≤ 1000001 ∧ y.text.size ≤ 4 ∧ y.kids.length ≤ 1000 ∧ ∀ e ∈ y.kids, e.name.size ≤ 4) : Bn (os.set i y) := fun x hx => by
  rcases List.mem_or_eq_of_mem_set hx with h1 | rfl
  · exact h x h1
  · exact hy
theorem Bn.take {os : List LObj} (h : Bn os) (k : Nat) : Bn (os.take k) := fun x hx => h x (List.mem_of_mem_take hx)
theorem Bn.sizes {os : List LObj} (h : Bn os) : Sizes os 1048576 := fun o ho => by
  have := (h o ho).2.2.2.1; omega
theorem Bn.at {os : List LObj} {i : Nat} {o : LObj} (h : Bn os) (ho : os[i]? = some o) : -1 ≤ o.ver ∧ o.ver ≤ 1000001 ∧ o.text.size ≤ 4 ∧ o.kids.length ≤ 1000 ∧ ∀ e ∈ o.kids, e.name.size ≤ 4 := h o (List.mem_of_getElem? ho)
/-- A tree of one's own, as it was drawn, one in ten bent. -/
def BentEnd (w : World) (rb P : Nat) (e : Ending) (w' : World) : Prop :=
  ∃ b n c os vs, e = .returned (.agg #[.slice (some ⟨b, 0, none⟩) n c]) ∧ n = os.length ∧ n ≤ 32 ∧ OwnT w' w.heap.size b c os vs ∧ Bn os ∧ RdTo w' rb P ∧ But rb w w'

/-- In the midst of bending. -/
structure BSt (w W : World) (rb P A T b n c : Nat) (os : List LObj) (vs : Nat → Value) : Prop where
  but : But rb w W
  rd : RdTo W rb P
  lt : A < T
  size : T < W.heap.size
  t : W.cell? ⟨T, 0, none⟩ = some (.slice (some ⟨b, 0, none⟩) n c)
  tb : ∃ f, W.rowIs T 25 1 f
  rx : ∃ f, W.rowIs A 25 1 f
  tree : OwnT W (A + 1) b c os vs
  len : n = os.length
  le : n ≤ 32
  bn : Bn os
theorem BSt.next {w W W' : World} {rb P P' A T b n c : Nat} {os : List LObj} {vs : Nat → Value} (h : BSt w W rb P A T b n c os vs) (hrA : rb < A) (hb : But rb W W') (hr : RdTo W' rb P') : BSt w W' rb P' A T b n c os vs := by
  obtain ⟨f, hf⟩ := h.tb
  obtain ⟨f', hf'⟩ := h.rx
  have hs := h.size
  have hl := h.lt
  exact ⟨h.but.trans hb, hr, hl, by have := hb.below.size; omega, by rw [hb.cell (by simp; omega) (by simpa using hs)]; exact h.t, ⟨f, hf.of_block (hb.block _ (by omega) hf.lt)⟩, ⟨f', hf'.of_block (hb.block _ (by omega) hf'.lt)⟩, h.tree.but hb (by omega), h.len, h.le, h.bn⟩
theorem BSt.more {w W W' : World} {rb P A T b n c : Nat} {os : List LObj} {vs : Nat → Value} (h : BSt w W rb P A T b n c os vs) (hrA : rb < A) (hb : Below W.heap.size W W') : BSt w W' rb P A T b n c os vs :=
  h.next hrA (But.of_below (by have := h.size; have := h.lt; omega) hb) (h.rd.but hb (by have := h.size; have := h.lt; omega))
theorem BSt.ne {w W : World} {rb P A T b n c : Nat} {os : List LObj} {vs : Nat → Value} (h : BSt w W rb P A T b n c os vs) : b ≠ T ∧ b ≠ A := by
  refine ⟨fun e => ?_, by have := h.tree.lo; omega⟩
  subst e
  obtain ⟨f, cs, h1, _⟩ := h.tb
  obtain ⟨cur, h2, _⟩ := h.tree.row
  rw [h1] at h2
  simp at h2
/-- A change of the tree's own row. -/
theorem BSt.set {w W : World} {rb P A T b n c : Nat} {os os' : List LObj} {vs vs' : Nat → Value} (h : BSt w W rb P A T b n c os vs) (hA : w.heap.size ≤ A) (hrA : rb < A) (q : Nat) (v : Value) (hT : OwnT (W.setCell ⟨b, q, none⟩ v) (A + 1) b c os' vs') (hl : os'.length = os.length) (hb : Bn os') : BSt w (W.setCell ⟨b, q, none⟩ v) rb P A T b n c os' vs' := by
  obtain ⟨f, hf⟩ := h.tb
  obtain ⟨f', hf'⟩ := h.rx
  obtain ⟨p, hp, R⟩ := h.rd
  obtain ⟨n1, n2⟩ := h.ne
  have hlo := h.tree.lo
  have hB : Below (A + 1) W (W.setCell ⟨b, q, none⟩ v) := (Below.refl _ _).setCell (by simpa using hlo) _
  exact ⟨⟨h.but.below.trans (hB.mono (by omega)), fun k hk hlt => (hB.block k (by omega)).trans (h.but.block k hk hlt)⟩, ⟨p, hp, R.below hB (by omega)⟩, h.lt, by simpa using h.size, by rw [World.cell?_setCell_other _ _ _ _ (fun e => n1 (by simpa using congrArg Addr.block e))]; exact h.t, ⟨f, hf.of_block (Below.heap_setCell W ⟨b, q, none⟩ v T (by simp; omega))⟩, ⟨f', hf'.of_block (Below.heap_setCell W ⟨b, q, none⟩ v A (by simp; omega))⟩, hT, by rw [hl]; exact h.len, h.le, hb⟩
theorem OwnT.take {w : World} {B b c : Nat} {os : List LObj} {vs : Nat → Value} (h : OwnT w B b c os vs) (k : Nat) : OwnT w B b c (os.take k) vs := by
  obtain ⟨cur, h1, h2, h3, h4⟩ := h.row
  refine ⟨h.lo, ⟨cur, h1, h2, by simp; omega, h4⟩, fun i o ho => h.at_ i o ?_, fun i j g hi hj => h.apart i j g (by simp at hi; omega) (by simp at hj; omega)⟩
  have hi : i < k := by have := (List.getElem?_eq_some_iff.1 ho).1; simp at this; omega
  rw [List.getElem?_take_of_lt hi] at ho
  exact ho
/-- The tree is cut. -/
theorem BSt.cut {w W : World} {rb P A T b n c : Nat} {os : List LObj} {vs : Nat → Value} (h : BSt w W rb P A T b n c os vs) (hA : w.heap.size ≤ A) (hrA : rb < A) (k : Nat) (hk : k ≤ n) : BSt w (W.setCell ⟨T, 0, none⟩ (.slice (some ⟨b, 0, none⟩) k c)) rb P A T b k c (os.take k) vs := by
  obtain ⟨f, hf⟩ := h.tb
  obtain ⟨f', hf'⟩ := h.rx
  obtain ⟨p, hp, R⟩ := h.rd
  have hlt := h.lt
  have hB : Below (A + 1) W (W.setCell ⟨T, 0, none⟩ (.slice (some ⟨b, 0, none⟩) k c)) := (Below.refl _ _).setCell (by simp; omega) _
  exact ⟨⟨h.but.below.trans (hB.mono (by omega)), fun k hk hlt => (hB.block k (by omega)).trans (h.but.block k hk hlt)⟩, ⟨p, hp, R.below hB (by omega)⟩, h.lt, by simpa using h.size, World.cell?_setCell_same _ _ _ h.t, ⟨_, hf.set 0 _⟩, ⟨f', hf'.of_block (Below.heap_setCell W ⟨T, 0, none⟩ _ A (by simp; omega))⟩, (h.tree.setBox ⟨f, hf⟩ 0 _).take k, by have := h.len; simp; omega, by have := h.le; omega, h.bn.take k⟩
theorem BSt.fin {w W : World} {rb P P' A T b n c : Nat} {os : List LObj} {vs : Nat → Value} (h : BSt w W rb P A T b n c os vs) (hA : w.heap.size = A) (hrA : rb < A) (hP : P ≤ P') (v : Value) : BentEnd w rb P' (.returned (.agg #[.slice (some ⟨b, 0, none⟩) n c])) (W.setCell ⟨A, 0, none⟩ v) := by
  obtain ⟨f', hf'⟩ := h.rx
  obtain ⟨p, hp, R⟩ := h.rd
  have hB : Below A W (W.setCell ⟨A, 0, none⟩ v) := (Below.refl _ _).setCell (by simp) _
  exact ⟨b, n, c, os, vs, rfl, h.len, h.le, (h.tree.setBox ⟨f', hf'⟩ 0 v).base (by omega), h.bn, ⟨p, by omega, R.below hB hrA⟩, ⟨h.but.below.trans (hB.mono (by omega)), fun k hk hlt => (hB.block k (by omega)).trans (h.but.block k hk hlt)⟩⟩
theorem BSt.box {w W : World} {rb P A T b n c : Nat} {os : List LObj} {vs : Nat → Value} (h : BSt w W rb P A T b n c os vs) : (∃ x, W.cell? ⟨A, 0, none⟩ = some x) ∧ W.frozen? ⟨A, 0, none⟩ = false ∧ W.frozen? ⟨T, 0, none⟩ = false ∧ A < W.heap.size := by
  obtain ⟨f', hf'⟩ := h.rx
  obtain ⟨f, hf⟩ := h.tb
  exact ⟨⟨_, hf'.cell (by omega)⟩, hf'.frozen 0, hf.frozen 0, hf'.lt⟩
structure AppKEnd (w w' : World) (B : Nat) (u v : Value) (l : List LEnt) : Prop where
  own : OwnEnts w' B v l
  grown : w.grownBy w' u.ownBlock
  at_ : v.ownBlock = u.ownBlock ∨ v.ownBlock = some w.heap.size
/-- append of names onto names of one's own, nil or not. -/
theorem step_app_kids (w : World) {ops : Array Oper} {o : Oper} {a : Act} {K : Act → World → Prop} {Q : Exit → Act → World → Prop} {E : Prop} (hgd : o.guard = none) (s x : Operand)
    (ho : o.op = .call { callee := .builtin .append, args := #[s, x], argTypes := #[36, 36] }) (B : Nat) (u : Value) (l news : List LEnt) (hown : OwnEnts w B u l) (ad : Addr) (m c : Nat) (hm : m = news.length)
    (hs : a.eval s = u) (hx : a.eval x = .slice (some ad) m c)
    (hnews : ∀ j u, (entCells news)[j]? = some u → w.cell? (ad.add j) = some u) (hbd : l.length + m ≤ 4000000) (hB : B ≤ w.heap.size)
    (h : ∀ v w', AppKEnd w w' B u v (l ++ news) → K (a.put o.dst v) w') :
    if Region.wanted o (yielded ops a.tmps) = true then Oper.wp Tryz.prog o a w K Q else E := by
  have hw : Region.wanted o (yielded ops a.tmps) = true := by simp [Region.wanted, hgd]
  rw [if_pos hw]
  obtain ⟨i0, hi, hz0, hz1, hz2⟩ := info_parts info47'
  subst hm
  obtain ⟨v', w', hr, h2, h3, h4, h5⟩ := run_append_own_at (P := Tryz.prog) w B 36 o.type 53 i0 _ 2 24 Tryz.underlying36 hi hz0 hz1 hz2 rfl (by decide) _ _ _ hown ad news.length c (entCells news) (entCells_len _) hnews (entCells_one _) (by unfold maxLen; omega) (by omega) hB
  unfold Oper.wp execOp
  simp only [ho, resolve, invoke, builtin, Sem.run_bind, Sem.run_pure, Result.andThen_ok, List.map_toArray, List.map_cons, List.map_nil, hs, hx, hr]
  refine h v' w' ⟨?_, h3, h5⟩
  unfold OwnEnts; rw [entCells_app, List.length_append]; exact h2

theorem OwnEnts.nebox {W : World} {B q : Nat} {v : Value} {es : List LEnt} {f : Nat → Value} (h : OwnEnts W B v es) (hq : W.rowIs q 25 1 f) : v.ownBlock ≠ some q := by
  obtain ⟨cs, h1, _⟩ := hq
  rcases h.2 with ⟨hn, _⟩ | ⟨g, cap, cur', hn, _, hg', _⟩
  · rw [hn]; simp [Value.ownBlock]
  · rw [hn]
    intro e
    simp [Value.ownBlock] at e
    subst e
    rw [hg'] at h1
    simp at h1
/-- A name more, ahead of its store, and behind it. -/
theorem BSt.kids {w W W' : World} {rb P A T b n c k : Nat} {os : List LObj} {vs : Nat → Value} {x : LObj} {y : LEnt} {v : Value} (h : BSt w W rb P A T b n c os vs) (hA : w.heap.size ≤ A) (hrA : rb < A) (hx : os[k]? = some x) (hy : y.name.size ≤ 4) (hE : AppKEnd W W' (A + 1) (vs k) v (x.kids ++ [y])) (hb : x.kids.length < 1000) :
    W'.cell? ⟨T, 0, none⟩ = some (.slice (some ⟨b, 0, none⟩) n c) ∧ W'.cell? ⟨b, k * 4 + 3, none⟩ = some (vs k) ∧ W'.frozen? ⟨b, k * 4 + 3, none⟩ = false ∧ b < W'.heap.size ∧
      BSt w (W'.setCell ⟨b, k * 4 + 3, none⟩ v) rb P A T b n c (os.set k { x with kids := x.kids ++ [y] }) (fun j => if j = k then v else vs j) := by
  obtain ⟨f, hf⟩ := h.tb
  obtain ⟨f', hf'⟩ := h.rx
  obtain ⟨p, hp, R⟩ := h.rd
  obtain ⟨n1, n2⟩ := h.ne
  have hlo := h.tree.lo
  obtain ⟨a1, a2, a3, a4, a5, a6, a7⟩ := h.tree.at_ k x hx
  have hs := h.size
  have hlt := h.lt
  have hT0 : (vs k).ownBlock ≠ some T := a6.nebox hf
  have hb0 : (vs k).ownBlock ≠ some b := h.tree.kids_ne a6
  have hBg : Below (A + 1) W W' := below_grown (Below.refl _ _) hE.grown (fun q hq => (a6.lt q hq).1) (by omega)
  have eT : W'.heap[T]? = W.heap[T]? := hE.grown.block T hs (fun e => hT0 e.symm)
  have eb : W'.heap[b]? = W.heap[b]? := hE.grown.block b h.tree.lt (fun e => hb0 e.symm)
  have cT : W'.cell? ⟨T, 0, none⟩ = some (.slice (some ⟨b, 0, none⟩) n c) := by rw [World.cell?_of_block (w := W) eT]; exact h.t
  have hB : Below (A + 1) W (W'.setCell ⟨b, k * 4 + 3, none⟩ v) := hBg.setCell (by simpa using hlo) _
  have hOT := h.tree.putKids hx hE.grown (.inr rfl) hE.own (fun e he => by
    rcases List.mem_append.1 he with h1 | h1
    · exact a7 e h1
    · rw [List.mem_singleton.1 h1]; exact le_maxLen4 hy) (fun g hg => by
    rcases hE.at_ with h1 | h1
    · left; rw [← h1]; exact hg
    · right; rw [h1] at hg; simp at hg; omega)
  obtain ⟨b1, b2, b3, b4, b5⟩ := h.bn.at hx
  refine ⟨cT, by rw [World.cell?_of_block (w := W) eb]; exact a5, by rw [World.frozen?_of_block (w := W) eb]; exact h.tree.frozen _, by have := hE.grown.size; have := h.tree.lt; omega, ⟨⟨h.but.below.trans (hB.mono (by omega)), fun k hk hlt => (hB.block k (by omega)).trans (h.but.block k hk hlt)⟩, ⟨p, hp, R.below hB (by omega)⟩, hlt, by have := hE.grown.size; simp; omega, by rw [World.cell?_setCell_other _ _ _ _ (fun e => n1 (by simpa using congrArg Addr.block e))]; exact cT, ⟨f, (hf.of_block eT).of_block (Below.heap_setCell W' ⟨b, k * 4 + 3, none⟩ v T (by simp; omega))⟩, ⟨f', hf'.of_block (hB.block A (by omega))⟩, hOT, by simpa using h.len, h.le, h.bn.set k ⟨b1, b2, b3, by simp; omega, fun e he => ?_⟩⟩⟩
  rcases List.mem_append.1 he with h1 | h1
  · exact b5 e h1
  · rw [List.mem_singleton.1 h1]; exact hy

end Go.Proofs.YtnolbfijcnldjaaGreatDoor

/- Trees and numbers as they are drawn. -/
namespace Go.Proofs.YtnolbfijcnldjaaGreatDoor
open Go.RowKit

/-- A drawn tree as an argument: where it lies, and how large it is. -/
structure TreeIn (w w' : World) (b n : Nat) (os : List LObj) : Prop where
  at_ : ObjsAt w' w.heap.size w'.heap.size (some ⟨b, 0, none⟩) n os
  le : n ≤ 32
  bn : Bn os
/-- In the midst of a draw: the box of the answer's tree, the reader behind it, the tree. -/
structure DSt (w W : World) (rb P b n : Nat) (os : List LObj) : Prop where
  below : Below w.heap.size w W
  rd : RdTo W rb P
  rlt : w.heap.size < rb
  rlt2 : rb < W.heap.size
  rx : ∃ f, W.rowIs w.heap.size 25 1 f
  tree : ∃ L, rb < L ∧ ObjsAt W L W.heap.size (some ⟨b, 0, none⟩) n os
  le : n ≤ 32
  bn : Bn os
theorem DSt.next {w W W' : World} {rb P P' b n : Nat} {os : List LObj} (h : DSt w W rb P b n os) (hb : But rb W W') (hr : RdTo W' rb P') : DSt w W' rb P' b n os := by
  obtain ⟨f, hf⟩ := h.rx
  obtain ⟨L, hL, hO⟩ := h.tree
  have h1 := h.rlt
  have h2 := h.rlt2
  have h3 := hb.below.size
  exact ⟨h.below.trans (hb.below.mono (by omega)), hr, h1, by omega, ⟨f, hf.of_block (hb.block _ (by omega) hf.lt)⟩, ⟨L, hL, (hO.but hb hL (Nat.le_refl _)).wide (Nat.le_refl _) h3⟩, h.le, h.bn⟩
theorem DSt.more {w W W' : World} {rb P b n : Nat} {os : List LObj} (h : DSt w W rb P b n os) (hb : Below W.heap.size W W') : DSt w W' rb P b n os :=
  h.next (But.of_below h.rlt2 hb) (h.rd.but hb h.rlt2)
theorem DSt.box {w W : World} {rb P b n : Nat} {os : List LObj} (h : DSt w W rb P b n os) : (∃ x, W.cell? ⟨w.heap.size, 0, none⟩ = some x) ∧ W.frozen? ⟨w.heap.size, 0, none⟩ = false ∧ w.heap.size < W.heap.size := by
  obtain ⟨f', hf'⟩ := h.rx
  exact ⟨⟨_, hf'.cell (by omega)⟩, hf'.frozen 0, hf'.lt⟩
theorem DSt.fin {w W : World} {rb P b n : Nat} {os : List LObj} (h : DSt w W rb P b n os) (v : Value) : TreeIn w (W.setCell ⟨w.heap.size, 0, none⟩ v) b n os ∧ Below w.heap.size w (W.setCell ⟨w.heap.size, 0, none⟩ v) := by
  obtain ⟨L, hL, hO⟩ := h.tree
  have h1 := h.rlt
  refine ⟨⟨?_, h.le, h.bn⟩, h.below.setCell (by simp) _⟩
  have h2 := hO.setCell (⟨w.heap.size, 0, none⟩ : Addr) v (by show w.heap.size < L; omega)
  simpa using h2.wide (L' := w.heap.size) (U' := W.heap.size) (by omega) (Nat.le_refl _)
/-- The reader is open, and a tree is drawn. -/
theorem DSt.start {w W : World} {a : Option Addr} {m c' : Nat} {e : Ending} (h : BentEnd ((w.alloc (Obj.cells #[.slice none 0 0] 25)).alloc (.cells #[.slice a m c', .int .i64 0] 135)) (w.heap.size + 1) 160 e W) : ∃ b n c os, e = .returned (.agg #[.slice (some ⟨b, 0, none⟩) n c]) ∧ DSt w W (w.heap.size + 1) 160 b n os := by
  obtain ⟨b, n, c, os, vs, rfl, hn, h32, hT, hbn, hr, hb⟩ := h
  have hb1 : Below w.heap.size w ((w.alloc (Obj.cells #[.slice none 0 0] 25)).alloc (.cells #[.slice a m c', .int .i64 0] 135)) := ((Below.refl _ _).alloc (Nat.le_refl _) _).alloc (by simp) _
  have hs := hb.below.size
  simp at hs
  have hr1 : ((w.alloc (Obj.cells #[.slice none 0 0] 25)).alloc (.cells #[.slice a m c', .int .i64 0] 135)).rowIs w.heap.size 25 1 (fun _ => .slice none 0 0) := (row1 w _ 25).of_block (((Below.refl (w.heap.size + 1) (w.alloc (Obj.cells #[.slice none 0 0] 25))).alloc (by simp) _).block _ (by omega))
  refine ⟨b, n, c, os, rfl, hb1.trans (hb.below.mono (by omega)), hr, by omega, by omega, ⟨_, hr1.of_block (hb.block _ (by omega) (by simp; omega))⟩, ⟨w.heap.size + 2, by omega, ?_⟩, h32, hbn⟩
  have := hT.to_objs
  rw [← hn] at this
  simpa using this

end Go.Proofs.YtnolbfijcnldjaaGreatDoor
