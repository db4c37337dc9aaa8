/- Small trees: what is done leaves them nearly as small. Rows of what is done, of one's own. -/
import Derived.Test.YtjenldenggaljaaDo
import Derived.Test.YtjenldenggaljaaOpDraw
import Derived.Test.YtjenldenggaljaaOps
namespace Go.Proofs.Ytjenldenggaljaa
open Go.RowKit

/-- Few turns, few names, short names and texts. -/
def Sm (os : List LObj) (K : Nat) : Prop := ∀ o ∈ os, 0 ≤ o.ver ∧ o.ver ≤ (K : Int) ∧ o.text.size ≤ 4 ∧ o.kids.length ≤ K ∧ ∀ e ∈ o.kids, e.name.size ≤ 4
theorem Sm.mono {os : List LObj} {K M : Nat} (h : Sm os K) (hM : K ≤ M) : Sm os M := fun o ho => by
  obtain ⟨h1, h2, h3, h4, h5⟩ := h o ho
  exact ⟨h1, by omega, h3, by omega, h5⟩
theorem Sm.set {os : List LObj} {K : Nat} (h : Sm os K) (i : Nat) {y : LObj} (hy : 0 ≤ y.ver ∧ y.ver ≤ (K : Int) ∧ y.text.size ≤ 4 ∧ y.kids.length ≤ K ∧ ∀ e ∈ y.kids, e.name.size ≤ 4) : Sm (os.set i y) K := fun x hx => by
  rcases List.mem_or_eq_of_mem_set hx with h1 | rfl
  · exact h x h1
  · exact hy
theorem Sm.at {os : List LObj} {K i : Nat} {o : LObj} (h : Sm os K) (ho : os[i]? = some o) : 0 ≤ o.ver ∧ o.ver ≤ (K : Int) ∧ o.text.size ≤ 4 ∧ o.kids.length ≤ K ∧ ∀ e ∈ o.kids, e.name.size ≤ 4 := h o (List.mem_of_getElem? ho)
theorem Sm.turn {os : List LObj} {K : Nat} (h : Sm os K) (i : Nat) : Sm (turnL os i) (K + 1) := by
  unfold turnL
  split
  · next o ho =>
    obtain ⟨h1, h2, h3, h4, h5⟩ := h.at ho
    exact (h.mono (Nat.le_succ K)).set i ⟨by show 0 ≤ o.ver + 1; omega, by show o.ver + 1 ≤ _; omega, h3, by show o.kids.length ≤ _; omega, h5⟩
  · exact h.mono (Nat.le_succ K)
theorem putL_len (x : LEnt) (es : List LEnt) : (putL x es).length = es.length + 1 := by
  have := placeL_le x.name es
  simp [putL]; omega
theorem Sm.out {os : List LObj} {K : Nat} (h : Sm os K) (i : Nat) (nm : ByteArray) : Sm (kidsL os i (outL nm)) K := by
  unfold kidsL
  split
  · next o ho =>
    obtain ⟨h1, h2, h3, h4, h5⟩ := h.at ho
    exact h.set i ⟨h1, h2, h3, Nat.le_trans (outL_le nm o.kids) h4, fun e he => h5 e (by unfold outL at he; exact (List.mem_filter.1 he).1)⟩
  · exact h
theorem Sm.put {os : List LObj} {K : Nat} (h : Sm os K) (i : Nat) {x : LEnt} (hx : x.name.size ≤ 4) : Sm (kidsL os i (putL x)) (K + 1) := by
  unfold kidsL
  split
  · next o ho =>
    obtain ⟨h1, h2, h3, h4, h5⟩ := h.at ho
    refine (h.mono (Nat.le_succ K)).set i ⟨h1, by show o.ver ≤ _; omega, h3, by show (putL x o.kids).length ≤ _; rw [putL_len]; omega, fun e he => ?_⟩
    rcases mem_putL he with rfl | h6
    · exact hx
    · exact h5 e h6
  · exact h.mono (Nat.le_succ K)
theorem actNew_sm {os : List LObj} {K : Nat} {o : LOp} (h : Sm os K) (hs : OpSm o) : Sm (actNew os o).1 (K + 2) ∧ (actNew os o).1.length = os.length := by
  unfold actNew
  have h2 := h.mono (show K ≤ K + 2 by omega)
  split
  · next d x hd hx =>
    split
    · exact ⟨h2, rfl⟩
    split
    · exact ⟨h2, rfl⟩
    split
    · exact ⟨h2, rfl⟩
    obtain ⟨a1, a2, a3, a4, a5⟩ := h.at hd
    refine ⟨(h2.set _ ⟨by show (0 : Int) ≤ 1; omega, by show (1 : Int) ≤ _; omega, Nat.zero_le _, Nat.zero_le _, fun e he => by cases he⟩).set _ ⟨by show 0 ≤ d.ver + 1; omega, by show d.ver + 1 ≤ _; omega, a3, by show (putL _ d.kids).length ≤ _; rw [putL_len]; omega, fun e he => ?_⟩, by simp⟩
    rcases mem_putL he with rfl | h6
    · exact hs.1
    · exact a5 e h6
  · exact ⟨h2, rfl⟩
theorem actGone_sm {os : List LObj} {K : Nat} {o : LOp} (h : Sm os K) : Sm (actGone os o).1 (K + 2) ∧ (actGone os o).1.length = os.length := by
  unfold actGone
  have h2 := h.mono (show K ≤ K + 2 by omega)
  split
  · next d x hd hx =>
    split
    · exact ⟨h2, rfl⟩
    split
    · exact ⟨h2, rfl⟩
    split
    · exact ⟨h2, rfl⟩
    obtain ⟨a1, a2, a3, a4, a5⟩ := h.at hd
    obtain ⟨b1, b2, _⟩ := h.at hx
    have h3 : Sm (os.set o.dir.toNat { d with kids := outL o.name d.kids, ver := d.ver + 1 }) (K + 2) := h2.set _ ⟨by show 0 ≤ d.ver + 1; omega, by show d.ver + 1 ≤ _; omega, a3, by show (outL _ d.kids).length ≤ _; have := outL_le o.name d.kids; omega, fun e he => a5 e (by unfold outL at he; exact (List.mem_filter.1 he).1)⟩
    exact ⟨h3.set _ ⟨by show (0 : Int) ≤ x.ver + 1; omega, by show x.ver + 1 ≤ _; omega, Nat.zero_le _, Nat.zero_le _, fun e he => by cases he⟩, by simp⟩
  · exact ⟨h2, rfl⟩
theorem actMove_sm {os : List LObj} {K : Nat} {o : LOp} (h : Sm os K) (hs : OpSm o) : Sm (actMove os o).1 (K + 3) ∧ (actMove os o).1.length = os.length := by
  unfold actMove
  have h2 := h.mono (show K ≤ K + 3 by omega)
  split
  · next d x hd hx =>
    split
    · exact ⟨h2, rfl⟩
    split
    · exact ⟨h2, rfl⟩
    split
    · exact ⟨h2, rfl⟩
    split
    · exact ⟨h2, rfl⟩
    have h3 : Sm (kidsL (kidsL os o.dir.toNat (outL o.name)) o.dir2.toNat (putL ⟨o.name2, o.id⟩)) (K + 1) := (h.out _ _).put _ hs.2.1
    unfold turnM
    split
    · exact ⟨(h3.turn _).mono (by omega), by simp [turnL_len, kidsL_len]⟩
    · exact ⟨((h3.turn _).turn _).mono (by omega), by simp [turnL_len, kidsL_len]⟩
  · exact ⟨h2, rfl⟩
theorem actText_sm {os : List LObj} {K : Nat} {o : LOp} (h : Sm os K) (hs : OpSm o) : Sm (actText os o).1 (K + 3) ∧ (actText os o).1.length = os.length := by
  unfold actText
  have h2 := h.mono (show K ≤ K + 3 by omega)
  split
  · next x hx =>
    split
    · exact ⟨h2, rfl⟩
    obtain ⟨a1, a2, a3, a4, a5⟩ := h.at hx
    exact ⟨h2.set _ ⟨by show 0 ≤ x.ver + 1; omega, by show x.ver + 1 ≤ _; omega, hs.2.2, by show x.kids.length ≤ _; omega, a5⟩, by simp⟩
  · exact ⟨h2, rfl⟩
theorem actDo_sm {os : List LObj} {K : Nat} {o : LOp} (h : Sm os K) (hs : OpSm o) : Sm (actDo os o).1 (K + 3) ∧ (actDo os o).1.length = os.length := by
  unfold actDo
  split
  · exact ⟨h.mono (by omega), rfl⟩
  split
  · exact ⟨(actNew_sm h hs).1.mono (by omega), (actNew_sm h hs).2⟩
  split
  · exact ⟨(actGone_sm h).1.mono (by omega), (actGone_sm h).2⟩
  split
  · exact actMove_sm h hs
  · exact actText_sm h hs
theorem Sm.few {os : List LObj} {K : Nat} (h : Sm os K) (hK : K ≤ 1000000) : Few os := fun o ho => ⟨by have := (h o ho).2.2.2.1; omega, (h o ho).2.2.2.2⟩
theorem Sm.bd {os : List LObj} {K : Nat} (h : Sm os K) (hK : K ≤ 1000000) : Bd os 1000000 := fun o ho => by
  obtain ⟨h1, h2, h3, h4, h5⟩ := h o ho
  exact ⟨h1, by omega, by omega⟩
theorem Sm.sizes {os : List LObj} {K : Nat} (h : Sm os K) (hK : K ≤ 1000000) : Sizes os 1048576 := fun o ho => by
  have := (h o ho).2.2.2.1; omega
theorem le_maxLen4 {k : Nat} (h : k ≤ 4) : k ≤ maxLen := Nat.le_trans h (by simp [maxLen])
theorem Sm.short {os : List LObj} {K : Nat} (h : Sm os K) : ∀ o ∈ os, o.text.size ≤ maxLen ∧ ∀ e ∈ o.kids, e.name.size ≤ maxLen := fun o ho =>
  ⟨le_maxLen4 (h o ho).2.2.1, fun e he => le_maxLen4 ((h o ho).2.2.2.2 e he)⟩
theorem OpSm.sz {o : LOp} (h : OpSm o) : OpSz o := ⟨le_maxLen4 h.1, le_maxLen4 h.2.1, le_maxLen4 h.2.2⟩

/-- The cells of what is done, one behind the other. -/
def opCells (l : List LOp) : List Value := l.flatMap fun o => o.val.toList
theorem opCells_len (l : List LOp) : (opCells l).length = l.length * 7 := by
  induction l with
  | nil => rfl
  | cons o r ih => simp only [opCells, List.flatMap_cons, List.length_append, List.length_cons] at ih ⊢; rw [ih]; simp [LOp.val]; omega
theorem opCells_app (l r : List LOp) : opCells (l ++ r) = opCells l ++ opCells r := by simp [opCells]
theorem opCells_one (l : List LOp) : ∀ u ∈ opCells l, u.oneCell' = true := by
  intro u hu
  simp only [opCells, List.mem_flatMap] at hu
  obtain ⟨e, _, h⟩ := hu
  simp [LOp.val] at h
  rcases h with rfl | rfl | rfl | rfl | rfl | rfl | rfl <;> rfl
def OwnOps (w : World) (B : Nat) (v : Value) (l : List LOp) : Prop := w.ownsRow B 65 7 v l.length (opCells l)
theorem infoO : (Try.prog.info? 65).map (fun i => (i.zero, i.size, i.bytes)) = some (some (.agg #[.int .i64 0, .int .i64 0, .string ⟨#[]⟩, .int .i64 0, .string ⟨#[]⟩, .int .i64 0, .string ⟨#[]⟩]), 7, 80) := by kernel_rfl
structure AppOEnd (w w' : World) (B : Nat) (u v : Value) (l : List LOp) : Prop where
  own : OwnOps w' B v l
  grown : w.grownBy w' u.ownBlock
  at_ : ∀ g, v.ownBlock = some g → u.ownBlock = some g ∨ g = w.heap.size
theorem wpList_app_ops (w : World) {ops : Array Oper} {rest : List Oper} {o : Oper} {a : Act} {Q : Exit → Act → World → Prop} (hgd : o.guard = none) (s x : Operand)
    (ho : o.op = .call { callee := .builtin .append, args := #[s, x], argTypes := #[75, 75] }) (B : Nat) (u : Value) (l news : List LOp) (hown : OwnOps w B u l) (ad : Addr) (m c : Nat) (hm : m = news.length)
    (hs : a.eval s = u) (hx : a.eval x = .slice (some ad) m c)
    (hnews : ∀ j u, (opCells news)[j]? = some u → w.cell? (ad.add j) = some u) (hbd : l.length + m ≤ 1000000) (hB : B ≤ w.heap.size)
    (h : ∀ v w', AppOEnd w w' B u v (l ++ news) → wpList Try.prog ops Q rest (a.put o.dst v) w') : wpList Try.prog ops Q (o :: rest) a w := by
  obtain ⟨i0, hi, hz0, hz1, hz2⟩ := info_parts infoO
  subst hm
  obtain ⟨v', w', hr, h2, h3, h4, h5⟩ := run_append_own_at (P := Try.prog) w B 75 o.type 65 i0 _ 7 80 Try.underlying75 hi hz0 hz1 hz2 rfl (by decide) _ _ _ hown ad news.length c (opCells news) (opCells_len _) hnews (opCells_one _) (by unfold maxLen; omega) (by omega) hB
  refine wpList_plain hgd fun K hK => ?_
  unfold Oper.wp execOp
  simp only [ho, resolve, invoke, builtin, Sem.run_bind, Sem.run_pure, Result.andThen_ok, List.map_toArray, List.map_cons, List.map_nil, hs, hx, hr]
  refine hK _ _ (h v' w' ⟨?_, h3, ?_⟩)
  · unfold OwnOps; rw [opCells_app, List.length_append]; exact h2
  · intro g hg
    rcases h5 with h5 | h5
    · left; rw [← h5]; exact hg
    · right; rw [hg] at h5; simpa using h5
end Go.Proofs.Ytjenldenggaljaa
