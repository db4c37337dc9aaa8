/- Laws of logs as they are drawn: plain facts, and append of a whole list of bases. -/
import Derived.Test.YtdjffkiiglilnaaLogW
import Derived.Test.YtdjffkiiglilnaaLogC
import Derived.Test.YtdjffkiiglilnaaLogE
namespace Go.Proofs.Ytdjffkiiglilnaa
open Go.RowKit

theorem listEq_refl {α : Type} {f : α → α → Bool} (h : ∀ x, f x x = true) : ∀ l : List α, listEq f l l = true
  | [] => rfl
  | x :: l => by simp [listEq, h x, listEq_refl h l]
theorem listEq_symm {α : Type} {f : α → α → Bool} (h : ∀ x y, f x y = f y x) : ∀ l m : List α, listEq f l m = listEq f m l
  | [], [] => rfl
  | [], _ :: _ => rfl
  | _ :: _, [] => rfl
  | x :: l, y :: m => by simp only [listEq]; rw [h x y, listEq_symm h l m]
theorem baseEq_symm (x y : LBase) : baseEq x y = baseEq y x := by
  unfold baseEq
  rw [show (x.id == y.id) = (y.id == x.id) from BEq.comm, show (x.ver == y.ver) = (y.ver == x.ver) from BEq.comm]
theorem opEq_refl (x : LOp) : opEq x x = true := by simp [opEq]
theorem opEq_symm (x y : LOp) : opEq x y = opEq y x := by
  unfold opEq
  rw [show (x.kind == y.kind) = (y.kind == x.kind) from BEq.comm, show (x.dir == y.dir) = (y.dir == x.dir) from BEq.comm, show (x.dir2 == y.dir2) = (y.dir2 == x.dir2) from BEq.comm, show (x.id == y.id) = (y.id == x.id) from BEq.comm, show (x.name.toList == y.name.toList) = (y.name.toList == x.name.toList) from BEq.comm, show (x.name2.toList == y.name2.toList) = (y.name2.toList == x.name2.toList) from BEq.comm, show (x.text.toList == y.text.toList) = (y.text.toList == x.text.toList) from BEq.comm]
theorem logEq_refl (l : LLog) : logEq l l = true := by simp [logEq, listEq_refl (fun x => show baseEq x x = true by simp [baseEq]), listEq_refl opEq_refl]
theorem logEq_symm (l m : LLog) : logEq l m = logEq m l := by
  unfold logEq
  rw [show (l.who == m.who) = (m.who == l.who) from BEq.comm, show (l.seq == m.seq) = (m.seq == l.seq) from BEq.comm, listEq_symm baseEq_symm l.bases, listEq_symm opEq_symm l.list]
theorem OwnBases.empty (w : World) (B : Nat) (hB : B ≤ w.heap.size) : OwnBases (w.alloc (Obj.cells #[] 40)) B (.slice (some ⟨w.heap.size, 0, none⟩) 0 0) [] := by
  simpa [OwnBases, baseCells] using World.ownsRow_lit (base := B) (e := 40) (size := 2) w #[] 0 hB (by simp [maxLen]) rfl
theorem BasesAt.cells {w : World} {L U : Nat} {b off n : Nat} {es : List LBase} (h : BasesAt w L U (some ⟨b, off, none⟩) n es) : ∀ j u, (baseCells es)[j]? = some u → w.cell? ((⟨b, off, none⟩ : Addr).add j) = some u := by
  intro j u hu
  have hj : j < es.length * 2 := by rw [← baseCells_len]; exact (List.getElem?_eq_some_iff.1 hu).1
  obtain ⟨b', off', e, _, _, hc⟩ := h.at_ (by have := h.len; omega)
  simp only [Option.some.injEq, Addr.mk.injEq] at e
  obtain ⟨rfl, rfl, _⟩ := e
  rw [addr_add]
  rcases Nat.mod_two_eq_zero_or_one j with e | e
  · obtain ⟨k, rfl⟩ : ∃ k, j = k * 2 := ⟨j / 2, by omega⟩
    obtain ⟨x, hx, h0, h1⟩ := hc k (by have := h.len; omega)
    rw [(baseCells_at es k x hx).1] at hu
    cases hu
    exact h0
  · obtain ⟨k, rfl⟩ : ∃ k, j = k * 2 + 1 := ⟨j / 2, by omega⟩
    obtain ⟨x, hx, h0, h1⟩ := hc k (by have := h.len; omega)
    rw [(baseCells_at es k x hx).2] at hu
    cases hu
    rw [← Nat.add_assoc]
    exact h1
theorem run_app_allB (w : World) (B : Nat) (u : Value) (l news : List LBase) (ty : TypeId) (hown : OwnBases w B u l) (a : Option Addr) (m c L U : Nat) (H : BasesAt w L U a m news) (hbd : l.length + m ≤ 1000000) (hB : B ≤ w.heap.size) :
    ∃ v' w', (Builtin.append_ #[26, 26] ty #[u, .slice a m c]).run Try.prog w = .ok v' w' ∧ AppBEnd w w' B u v' (l ++ news) := by
  obtain ⟨i0, hi, hz0, hz1, hz2⟩ := info_parts infoBs
  by_cases hm : m = 0
  · subst hm
    obtain rfl : news = [] := List.eq_nil_of_length_eq_zero H.len.symm
    have hsrc : Src Try.prog i0.size 26 (.slice a 0 c) 0 [] w := by
      cases a with
      | none => exact Src.ofNil w Try.underlying26 c
      | some ad => exact Src.ofSlice w Try.underlying26 ad 0 c [] (by simp) (fun j u hu => by simp at hu) (fun u hu => by simp at hu)
    obtain ⟨ua, un, uc, rfl, hle⟩ : ∃ ua un uc, u = .slice ua un uc ∧ un ≤ uc := by
      rcases hown.2 with ⟨h', _⟩ | ⟨g', cap', cur, h', _, _, hnc, _⟩
      · exact ⟨_, _, _, h', Nat.le_refl _⟩
      · exact ⟨_, _, _, h', hnc⟩
    exact ⟨_, _, run_append_nothing (P := Try.prog) w 26 26 ty 40 i0 Try.underlying26 hi ua un uc hle _ hsrc, ⟨by simpa using hown, World.grownBy.refl w _⟩⟩
  · obtain ⟨b, off, rfl, _⟩ := H.at_ hm
    have hl := H.len
    subst hl
    obtain ⟨v', w', hr, h2, h3, h4, h5⟩ := run_append_own_at (P := Try.prog) w B 26 ty 40 i0 _ 2 16 Try.underlying26 hi hz0 hz1 hz2 rfl (by decide) _ _ _ hown ⟨b, off, none⟩ news.length c (baseCells news) (baseCells_len _) H.cells (baseCells_one _) (by unfold maxLen; omega) (by omega) hB
    exact ⟨v', w', hr, ⟨by unfold OwnBases; rw [baseCells_app, List.length_append]; exact h2, h3⟩⟩
theorem wpList_app_allB (w : World) {ops : Array Oper} {rest : List Oper} {o : Oper} {ac : Act} {Q : Exit → Act → World → Prop} (hgd : o.guard = none) (s x : Operand)
    (ho : o.op = .call { callee := .builtin .append, args := #[s, x], argTypes := #[26, 26] }) (B : Nat) (u : Value) (l news : List LBase) (hown : OwnBases w B u l) (a : Option Addr) (m c L U : Nat) (H : BasesAt w L U a m news)
    (hs : ac.eval s = u) (hx : ac.eval x = .slice a m c) (hbd : l.length + m ≤ 1000000) (hB : B ≤ w.heap.size)
    (h : ∀ v w', AppBEnd w w' B u v (l ++ news) → wpList Try.prog ops Q rest (ac.put o.dst v) w') : wpList Try.prog ops Q (o :: rest) ac w := by
  obtain ⟨v', w', hr, h2⟩ := run_app_allB w B u l news o.type hown a m c L U H hbd hB
  refine wpList_plain hgd fun K hK => ?_
  unfold Oper.wp execOp
  simp only [ho, resolve, invoke, builtin, Sem.run_bind, Sem.run_pure, Result.andThen_ok, List.map_toArray, List.map_cons, List.map_nil, hs, hx, hr]
  exact hK _ _ (h v' w' h2)
/-- Three logs in their boxes. -/
structure Tri (w X : World) (T3 T4 T5 U : Nat) (x1 y1 : Int) (a1 : Option Addr) (n1 k1 : Nat) (a1' : Option Addr) (n1' k1' : Nat) (l1 : LLog) (x2 y2 : Int) (a2 : Option Addr) (n2 k2 : Nat) (a2' : Option Addr) (n2' k2' : Nat) (l2 : LLog) (x3 y3 : Int) (a3 : Option Addr) (n3 k3 : Nat) (a3' : Option Addr) (n3' k3' : Nat) (l3 : LLog) : Prop where
  below : Below w.heap.size w X
  b1 : LogBox X T3 x1 y1 a1 n1 k1 a1' n1' k1'
  b2 : LogBox X T4 x2 y2 a2 n2 k2 a2' n2' k2'
  b3 : LogBox X T5 x3 y3 a3 n3 k3 a3' n3' k3'
  l1 : LogAt X w.heap.size U x1 y1 a1 n1 a1' n1' l1
  l2 : LogAt X w.heap.size U x2 y2 a2 n2 a2' n2' l2
  l3 : LogAt X w.heap.size U x3 y3 a3 n3 a3' n3' l3
  z : U ≤ X.heap.size ∧ T3 < U ∧ T4 < U ∧ T5 < U
theorem Tri.next {w X Y : World} {T3 T4 T5 U : Nat} {x1 y1 : Int} {a1 : Option Addr} {n1 k1 : Nat} {a1' : Option Addr} {n1' k1' : Nat} {l1 : LLog} {x2 y2 : Int} {a2 : Option Addr} {n2 k2 : Nat} {a2' : Option Addr} {n2' k2' : Nat} {l2 : LLog} {x3 y3 : Int} {a3 : Option Addr} {n3 k3 : Nat} {a3' : Option Addr} {n3' k3' : Nat} {l3 : LLog} (h : Tri w X T3 T4 T5 U x1 y1 a1 n1 k1 a1' n1' k1' l1 x2 y2 a2 n2 k2 a2' n2' k2' l2 x3 y3 a3 n3 k3 a3' n3' k3' l3) (hb : Below X.heap.size X Y) : Tri w Y T3 T4 T5 U x1 y1 a1 n1 k1 a1' n1' k1' l1 x2 y2 a2 n2 k2 a2' n2' k2' l2 x3 y3 a3 n3 k3 a3' n3' k3' l3 := by
  have hz := h.z
  exact ⟨h.below.trans (hb.mono h.below.size), h.b1.of (hb.block _ (by omega)), h.b2.of (hb.block _ (by omega)), h.b3.of (hb.block _ (by omega)), h.l1.below hb (by omega), h.l2.below hb (by omega), h.l3.below hb (by omega), by have := hb.size; omega⟩
theorem Tri.low {w X Y : World} {T3 T4 T5 U B : Nat} {x1 y1 : Int} {a1 : Option Addr} {n1 k1 : Nat} {a1' : Option Addr} {n1' k1' : Nat} {l1 : LLog} {x2 y2 : Int} {a2 : Option Addr} {n2 k2 : Nat} {a2' : Option Addr} {n2' k2' : Nat} {l2 : LLog} {x3 y3 : Int} {a3 : Option Addr} {n3 k3 : Nat} {a3' : Option Addr} {n3' k3' : Nat} {l3 : LLog} (h : Tri w X T3 T4 T5 U x1 y1 a1 n1 k1 a1' n1' k1' l1 x2 y2 a2 n2 k2 a2' n2' k2' l2 x3 y3 a3 n3 k3 a3' n3' k3' l3) (hb : Below B X Y) (hB : U ≤ B) (hw : w.heap.size ≤ B) : Tri w Y T3 T4 T5 U x1 y1 a1 n1 k1 a1' n1' k1' l1 x2 y2 a2 n2 k2 a2' n2' k2' l2 x3 y3 a3 n3 k3 a3' n3' k3' l3 := by
  have hz := h.z
  exact ⟨h.below.trans (hb.mono hw), h.b1.of (hb.block _ (by omega)), h.b2.of (hb.block _ (by omega)), h.b3.of (hb.block _ (by omega)), h.l1.below hb (by omega), h.l2.below hb (by omega), h.l3.below hb (by omega), by have := hb.size; omega⟩
end Go.Proofs.Ytdjffkiiglilnaa
