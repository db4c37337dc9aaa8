/- Lemmas that the proofs of this seat share: SlimS, SlimS2, SlimS3, SlimS4, SlimS5, SlimI, SlimI2, SlimI3, SlimI4, SlimI5, SlimI6, SlimI7, SlimI8, SlimI9, SlimI10, SlimI11, OpSame, SlimM, SlimX, LongAll, LogA, LogB. -/
import Derived.Test.YtnolbfijcnldjaaGreatDoorV11
import Derived.Deep.QuietTactic
import Derived.BigQuiet
import Derived.Deep.Upon
import Derived.Deep.DeepCutAuto
import Derived.Deep.RegionHeld
import Derived.OrdersHeld
import Derived.BigRegion
import Derived.Test.YtnolbfijcnldjaaGreatDoorV04
import Derived.Test.YtnolbfijcnldjaaGreatDoorV03
import Derived.Deep.CutBlock
import Derived.Test.YtnolbfijcnldjaaGreatDoorV01
import Derived.OpenShut
/- Lists that are made shorter: the specification. -/
namespace Go.Proofs.YtnolbfijcnldjaaGreatDoor
open Go.RowKit

theorem opCells_at : ∀ (l : List LOp) (i : Nat) (o : LOp), l[i]? = some o → ∀ t u, o.val[t]? = some u → (opCells l)[i * 7 + t]? = some u
  | [], i, o, h, _, _, _ => by simp at h
  | x :: r, 0, o, h, t, u, hu => by
    simp at h
    subst h
    have ht : t < x.val.toList.length := by
      have := (Array.getElem?_eq_some_iff.1 hu).1
      simpa using this
    simp only [opCells, List.flatMap_cons]
    rw [List.getElem?_append_left (by omega)]
    simpa using hu
  | x :: r, i + 1, o, h, t, u, hu => by
    have ih := opCells_at r i o (by simpa using h) t u hu
    simp only [opCells, List.flatMap_cons]
    have h7 : x.val.toList.length = 7 := by simp [LOp.val]
    rw [List.getElem?_append_right (by omega), h7]
    have e : (i + 1) * 7 + t - 7 = i * 7 + t := by omega
    rw [e]
    exact ih
theorem OwnOps.at_ {w : World} {B : Nat} {v : Value} {l : List LOp} (h : OwnOps w B v l) (hn : ∀ o ∈ l, OpSz o) : ∃ a c, v = .slice a l.length c ∧ OpsAt w B w.heap.size a l.length l := by
  by_cases h0 : l.length = 0
  · obtain rfl : l = [] := List.eq_nil_of_length_eq_zero h0
    rcases h.2 with ⟨rfl, _⟩ | ⟨g, cap, cur, rfl, _⟩
    · exact ⟨_, _, rfl, rfl, by simp [maxLen], fun hn => absurd rfl hn⟩
    · exact ⟨_, _, rfl, rfl, by simp [maxLen], fun hn => absurd rfl hn⟩
  · obtain ⟨g, c, rfl, hb, hlt⟩ := World.ownsRow.form h (by omega)
    have hbd : l.length ≤ maxLen := by
      rcases h.2 with ⟨h', _⟩ | ⟨g', cap', cur, h', _, _, hnc, hcm, _⟩
      · simp at h'
      · omega
    have hc : ∀ i (hi : i < l.length) t u, t < 7 → (l[i]).val[t]? = some u → w.cell? ⟨g, 0 + i * 7 + t, none⟩ = some u := fun i hi t u ht hu => by
      have := World.ownsRow.cellAt h (i * 7 + t) (by omega)
      rw [Nat.zero_add, this]
      exact opCells_at l i l[i] (by simp [hi]) t u hu
    exact ⟨_, _, rfl, rfl, hbd, fun _ => ⟨g, 0, rfl, hb, hlt, fun i hi => ⟨l[i], by simp [hi], hn _ (List.getElem_mem hi), hc i hi 0 _ (by omega) (by simp [LOp.val]), hc i hi 1 _ (by omega) (by simp [LOp.val]), hc i hi 2 _ (by omega) (by simp [LOp.val]), hc i hi 3 _ (by omega) (by simp [LOp.val]), hc i hi 4 _ (by omega) (by simp [LOp.val]), hc i hi 5 _ (by omega) (by simp [LOp.val]), hc i hi 6 _ (by omega) (by simp [LOp.val])⟩⟩⟩
theorem OpsAt.sz {w : World} {L U : Nat} {a : Option Addr} {n : Nat} {ops : List LOp} (h : OpsAt w L U a n ops) : ∀ o ∈ ops, OpSz o := fun o ho => by
  obtain ⟨i, hi, rfl⟩ := List.getElem_of_mem ho
  have hl := h.len
  obtain ⟨b, off, _, _, _, hc⟩ := h.at_ (by omega)
  obtain ⟨o', ho', hs, _⟩ := hc i (by omega)
  rw [List.getElem?_eq_getElem hi] at ho'
  cases ho'
  exact hs
theorem AppOEnd.below {w0 wr w1 : World} {B : Nat} {u v : Value} {l r : List LOp} {o1 : Obj} (hE : AppOEnd (wr.alloc o1) w1 B u v r) (hown : OwnOps wr B u l) (hb : Below B w0 wr) (hsz : B ≤ wr.heap.size) : Below B w0 w1 := by
  have hr : ∀ k, u.ownBlock = some k → B ≤ k := fun k e => (hown.lt k e).1
  exact hb.trans (below_grown ((Below.refl _ _).alloc (by omega) _) hE.grown hr (by simp; omega))
theorem OwnOps.empty (w : World) (B : Nat) (hB : B ≤ w.heap.size) : OwnOps (w.alloc (Obj.cells #[] 27)) B (.slice (some ⟨w.heap.size, 0, none⟩) 0 0) [] := by
  simpa [OwnOps, opCells] using World.ownsRow_lit (base := B) (e := 27) (size := 7) w #[] 0 hB (by simp [maxLen]) rfl

theorem OwnOps.next {w w' : World} {B : Nat} {v : Value} {l : List LOp} (h : OwnOps w B v l) (hb : Below w.heap.size w w') : OwnOps w' B v l := by
  refine ⟨h.1, ?_⟩
  rcases h.2 with hn | ⟨g, cap, cur, rfl, hB, hgg, rest⟩
  · exact .inl hn
  · refine .inr ⟨g, cap, cur, rfl, hB, ?_, rest⟩
    rw [hb.block g (Array.getElem?_eq_some_iff.1 hgg).1]
    exact hgg
/-- What a rule leaves: a list of its own, and all else as it was. -/
def SlimEnd (w : World) (r : List LOp) (e : Ending) (w' : World) : Prop := (∃ v, e = .returned v ∧ OwnOps w' w.heap.size v r) ∧ Below w.heap.size w w'

set_option maxHeartbeats 1000000 in
theorem forms_any (a : Option Addr) (n c : Nat) (ops : List LOp) (L U : Nat) (w : World) (hU : U ≤ w.heap.size) (H : OpsAt w L U a n ops) :
    Calls Tryz.prog 85 #[.slice a n c] w fun e w' => e = .returned (.bool (formsB ops)) ∧ Below w.heap.size w w' := by
  have hbd := H.bd
  have hlen : Hid (n = ops.length) := H.len
  unfold maxLen at hbd
  by_cases h60 : 60 < n
  · have h60' : (60 : Int) < (n : Int) := by omega
    go_enter Tryz.func85, Tryz.ntmps85
    go_wp2_with fail
    go_ret
    exact ⟨ret_bool (by have := hlen.out; simp [formsB]; omega), Below.refl _ _⟩
  · have h60' : ¬ (60 : Int) < (n : Int) := by omega
    go_enter Tryz.func85, Tryz.ntmps85
    go_wp2_with fail
    go_loopg [3] n (fun g k wr => ∃ j : Nat, j ≤ n ∧ Hid (g = n - j) ∧ k = .int .i64 j ∧ Hid (formsB ops = (ops.drop j).all opOk) ∧ Below w.heap.size w wr)
    case atStart => exact ⟨0, Nat.zero_le _, rfl, rfl, by show _ = _; have := hlen.out; simp [formsB]; omega, Below.refl _ _⟩
    case round =>
      obtain ⟨j, hj, hk, rfl, hq, hb⟩ := hrel
      by_cases hlt : j < n
      · obtain ⟨b, off, ha, hL, hbU, hc⟩ := H.at_ (by omega)
        subst ha
        obtain ⟨x, he, hsz, hat⟩ := hc j hlt
        obtain ⟨d0, d1, d2, d3, d4, d5, d6⟩ := hat.of_block (hb.block b (by omega))
        have hlt' : (j : Int) < (n : Int) := by omega
        have HQ : Hid (formsB ops = (opOk x && (ops.drop (j + 1)).all opOk)) := by show _ = _; rw [hq.out, drop_cons he, List.all_cons]
        have HOK := fun w => opOk_any x w hsz.name hsz.name2 hsz.text
        simp only [LOp.val] at HOK
        clear he hc hq hat H
        go_wp2_with fail
        refine (HOK _).mono ?_
        rintro e w1 ⟨rfl, rfl⟩
        rcases hx : opOk x with _ | _
        · have HY : Hid (formsB ops = false) := by show _ = _; rw [HQ.out, hx]; rfl
          clear HOK HQ
          go_wp2_with fail
          go_ret
          exact ⟨ret_bool HY.out.symm, hb.alloc hb.size _⟩
        · have HY : Hid (formsB ops = (ops.drop (j + 1)).all opOk) := by show _ = _; rw [HQ.out, hx]; rfl
          clear HOK HQ
          go_wp2_with fail
          go_roundg (n - (j + 1))
          case measure => have := hk.out; omega
          case rel => exact ⟨j + 1, by omega, rfl, by go_num, HY.out, hb.alloc hb.size _⟩
      · have HN : Hid (formsB ops = true) := by
          show _ = _
          rw [hq.out, List.drop_of_length_le (by have := hlen.out; omega)]; rfl
        go_wp2_with fail
        go_ret
        exact ⟨ret_bool HN.out.symm, hb⟩

end Go.Proofs.YtnolbfijcnldjaaGreatDoor

/- Lists that are made shorter: the specification, what goes again. -/
namespace Go.Proofs.YtnolbfijcnldjaaGreatDoor
open Go.RowKit

/-! append of a whole list. -/
theorem OpsAt.cells {w : World} {L U b off n : Nat} {ops : List LOp} (H : OpsAt w L U (some ⟨b, off, none⟩) n ops) : ∀ j u, (opCells ops)[j]? = some u → w.cell? ((⟨b, off, none⟩ : Addr).add j) = some u := by
  intro j u hu
  have hadd : (⟨b, off, none⟩ : Addr).add j = ⟨b, off + j, none⟩ := by unfold Addr.add; split <;> simp_all
  rw [hadd]
  have hj := (List.getElem?_eq_some_iff.1 hu).1
  rw [opCells_len] at hj
  have hl := H.len
  obtain ⟨b', off', ha, _, _, hc⟩ := H.at_ (by omega)
  simp only [Option.some.injEq, Addr.mk.injEq, and_true] at ha
  obtain ⟨rfl, rfl⟩ := ha
  obtain ⟨o, ho, _, hat⟩ := hc (j / 7) (by omega)
  have hv : ∀ t v, t < 7 → j = j / 7 * 7 + t → o.val[t]? = some v → u = v := fun t v ht e hv => by
    have := opCells_at ops (j / 7) o ho t v hv
    rw [← e, hu] at this
    exact Option.some.inj this
  have e7 : j = j / 7 * 7 + j % 7 := by omega
  have hm : j % 7 < 7 := Nat.mod_lt _ (by omega)
  generalize j % 7 = t at e7 hm
  match t, hm with
  | 0, _ => rw [hv 0 _ (by omega) e7 (by simp [LOp.val]; rfl), e7, ← Nat.add_assoc]; exact hat.c0
  | 1, _ => rw [hv 1 _ (by omega) e7 (by simp [LOp.val]; rfl), e7, ← Nat.add_assoc]; exact hat.c1
  | 2, _ => rw [hv 2 _ (by omega) e7 (by simp [LOp.val]; rfl), e7, ← Nat.add_assoc]; exact hat.c2
  | 3, _ => rw [hv 3 _ (by omega) e7 (by simp [LOp.val]; rfl), e7, ← Nat.add_assoc]; exact hat.c3
  | 4, _ => rw [hv 4 _ (by omega) e7 (by simp [LOp.val]; rfl), e7, ← Nat.add_assoc]; exact hat.c4
  | 5, _ => rw [hv 5 _ (by omega) e7 (by simp [LOp.val]; rfl), e7, ← Nat.add_assoc]; exact hat.c5
  | 6, _ => rw [hv 6 _ (by omega) e7 (by simp [LOp.val]; rfl), e7, ← Nat.add_assoc]; exact hat.c6
theorem run_app_all (w : World) (B : Nat) (u : Value) (l news : List LOp) (ty : TypeId) (hown : OwnOps w B u l) (a : Option Addr) (m c L U : Nat) (H : OpsAt w L U a m news) (hbd : l.length + m ≤ 1000000) (hB : B ≤ w.heap.size) :
    ∃ v' w', (Builtin.append_ #[43, 43] ty #[u, .slice a m c]).run Tryz.prog w = .ok v' w' ∧ AppOEnd w w' B u v' (l ++ news) := by
  obtain ⟨i0, hi, hz0, hz1, hz2⟩ := info_parts infoO
  by_cases hm : m = 0
  · subst hm
    obtain rfl : news = [] := List.eq_nil_of_length_eq_zero H.len.symm
    have hsrc : Src Tryz.prog i0.size 43 (.slice a 0 c) 0 [] w := by
      cases a with
      | none => exact Src.ofNil w Tryz.underlying43 c
      | some ad => exact Src.ofSlice w Tryz.underlying43 ad 0 c [] (by simp) (fun j u hu => by simp at hu) (fun u hu => by simp at hu)
    obtain ⟨ua, un, uc, rfl, hle⟩ : ∃ ua un uc, u = .slice ua un uc ∧ un ≤ uc := by
      rcases hown.2 with ⟨h', _⟩ | ⟨g', cap', cur, h', _, _, hnc, _⟩
      · exact ⟨_, _, _, h', Nat.le_refl _⟩
      · exact ⟨_, _, _, h', hnc⟩
    refine ⟨_, _, run_append_nothing (P := Tryz.prog) w 43 43 ty 27 i0 Tryz.underlying43 hi ua un uc hle _ hsrc, ⟨by simpa using hown, World.grownBy.refl w _, fun g hg => .inl hg⟩⟩
  · obtain ⟨b, off, rfl, _⟩ := H.at_ hm
    have hl := H.len
    subst hl
    obtain ⟨v', w', hr, h2, h3, h4, h5⟩ := run_append_own_at (P := Tryz.prog) w B 43 ty 27 i0 _ 7 80 Tryz.underlying43 hi hz0 hz1 hz2 rfl (by decide) _ _ _ hown ⟨b, off, none⟩ news.length c (opCells news) (opCells_len _) H.cells (opCells_one _) (by unfold maxLen; omega) (by omega) hB
    refine ⟨v', w', hr, ⟨?_, h3, ?_⟩⟩
    · unfold OwnOps; rw [opCells_app, List.length_append]; exact h2
    · intro g hg
      rcases h5 with h5 | h5
      · left; rw [← h5]; exact hg
      · right; rw [hg] at h5; simpa using h5
theorem wp_app_all (w : World) {o : Oper} {ac : Act} {K : Act → World → Prop} {Q : Exit → Act → World → Prop} (s x : Operand)
    (ho : o.op = .call { callee := .builtin .append, args := #[s, x], argTypes := #[43, 43] }) (B : Nat) (u : Value) (l news : List LOp) (hown : OwnOps w B u l) (a : Option Addr) (m c L U : Nat) (H : OpsAt w L U a m news)
    (hs : ac.eval s = u) (hx : ac.eval x = .slice a m c) (hbd : l.length + m ≤ 1000000) (hB : B ≤ w.heap.size)
    (h : ∀ v w', AppOEnd w w' B u v (l ++ news) → K (ac.put o.dst v) w') : o.wp Tryz.prog ac w K Q := by
  obtain ⟨v', w', hr, h2⟩ := run_app_all w B u l news o.type hown a m c L U H hbd hB
  unfold Oper.wp execOp
  simp only [ho, resolve, invoke, builtin, Sem.run_bind, Sem.run_pure, Result.andThen_ok, List.map_toArray, List.map_cons, List.map_nil, hs, hx, hr]
  exact h v' w' h2
theorem wpList_app_all (w : World) {ops : Array Oper} {rest : List Oper} {o : Oper} {ac : Act} {Q : Exit → Act → World → Prop} (hgd : o.guard = none) (s x : Operand)
    (ho : o.op = .call { callee := .builtin .append, args := #[s, x], argTypes := #[43, 43] }) (B : Nat) (u : Value) (l news : List LOp) (hown : OwnOps w B u l) (a : Option Addr) (m c L U : Nat) (H : OpsAt w L U a m news)
    (hs : ac.eval s = u) (hx : ac.eval x = .slice a m c) (hbd : l.length + m ≤ 1000000) (hB : B ≤ w.heap.size)
    (h : ∀ v w', AppOEnd w w' B u v (l ++ news) → wpList Tryz.prog ops Q rest (ac.put o.dst v) w') : wpList Tryz.prog ops Q (o :: rest) ac w :=
  wpList_plain hgd fun _ hK => wp_app_all w s x ho B u l news hown a m c L U H hs hx hbd hB fun v w' h2 => hK _ _ (h v w' h2)

end Go.Proofs.YtnolbfijcnldjaaGreatDoor

/- Lists that are made shorter: the specification, what is moved on. -/
namespace Go.Proofs.YtnolbfijcnldjaaGreatDoor
open Go.RowKit

theorem OwnOps.one {W : World} {o : LOp} {B q : Nat} (hB : B ≤ W.heap.size) (hq : q = W.heap.size) : OwnOps (W.alloc (Obj.cells o.val 27)) B (.slice (some ⟨q, 0, none⟩) 1 1) [o] := by
  subst hq
  have := World.ownsRow_lit (base := B) (e := 27) (size := 7) W o.val 1 hB (by simp [maxLen]) (by simp [LOp.val])
  simpa [OwnOps, opCells] using this
theorem OpsAt.grown {w w' : World} {L U : Nat} {a : Option Addr} {n : Nat} {ops : List LOp} {row : Option Nat} (H : OpsAt w L U a n ops) (hg : w.grownBy w' row) (hne : ∀ k, row = some k → k < L) (hU : U ≤ w.heap.size) : OpsAt w' L U a n ops :=
  ⟨H.len, H.bd, fun hn => by
    obtain ⟨b, off, ha, hL, hbU, hc⟩ := H.at_ hn
    refine ⟨b, off, ha, hL, hbU, fun i hi => ?_⟩
    obtain ⟨o, ho, hs, h0⟩ := hc i hi
    exact ⟨o, ho, hs, h0.of_block (hg.block b (by omega) (fun e => by have := hne b e.symm; omega))⟩⟩
theorem OwnOps.cut {w : World} {B g n cap k : Nat} {l : List LOp} (h : OwnOps w B (.slice (some ⟨g, 0, none⟩) n cap) l) (hn : n = l.length) (hk : k ≤ n) : OwnOps w B (.slice (some ⟨g, 0, none⟩) k cap) (l.take k) := by
  subst hn
  have hl : (l.take k).length = k := by simp; omega
  refine ⟨by rw [opCells_len], .inr ?_⟩
  rcases h.2 with ⟨h', _⟩ | ⟨g', cap', cur, h', hb, hg, hnc, hcm, hcs, htake⟩
  · simp at h'
  · simp only [Value.slice.injEq, Option.some.injEq, Addr.mk.injEq, and_true, true_and] at h'
    obtain ⟨rfl, rfl⟩ := h'
    refine ⟨g, cap, cur, by rw [hl], hb, hg, by omega, hcm, hcs, ?_⟩
    have e1 : opCells l = opCells (l.take k) ++ opCells (l.drop k) := by rw [← opCells_app, List.take_append_drop]
    have e2 : cur.toList.take (k * 7) = (cur.toList.take (l.length * 7)).take (k * 7) := by rw [List.take_take]; congr 1; omega
    rw [hl, e2, htake, e1, List.take_left' (by rw [opCells_len, hl])]
end Go.Proofs.YtnolbfijcnldjaaGreatDoor

/- Lists that are made shorter: the specification, what is moved on, again and again. -/
namespace Go.Proofs.YtnolbfijcnldjaaGreatDoor
open Go.RowKit

end Go.Proofs.YtnolbfijcnldjaaGreatDoor

/- Lists that are made shorter: the specification, whole. -/
namespace Go.Proofs.YtnolbfijcnldjaaGreatDoor
open Go.RowKit

theorem OwnOps.base {w : World} {B B' : Nat} {v : Value} {l : List LOp} (h : OwnOps w B v l) (hB : B' ≤ B) : OwnOps w B' v l :=
  ⟨h.1, by
    rcases h.2 with h | ⟨g, cap, cu, h1, h2, h3⟩
    · exact .inl h
    · exact .inr ⟨g, cap, cu, h1, by omega, h3⟩⟩
theorem formsB_len {ops : List LOp} (h : formsB ops = true) : ops.length ≤ 60 := by
  unfold formsB at h; simp at h; exact h.1
theorem SlimEnd.later {w w1 w' : World} {r : List LOp} {e : Ending} (h : SlimEnd w1 r e w') (hb : Below w.heap.size w w1) : SlimEnd w r e w' := by
  obtain ⟨⟨v, rfl, ho⟩, hb'⟩ := h
  exact ⟨⟨v, rfl, ho.base hb.size⟩, hb.trans (hb'.mono hb.size)⟩

end Go.Proofs.YtnolbfijcnldjaaGreatDoor

/- Lists that are made shorter: the program: what is deleted. -/
namespace Go.Proofs.YtnolbfijcnldjaaGreatDoor
open Go.RowKit

end Go.Proofs.YtnolbfijcnldjaaGreatDoor

/- Lists that are made shorter: the program: texts. -/
namespace Go.Proofs.YtnolbfijcnldjaaGreatDoor
open Go.RowKit

set_option maxHeartbeats 1000000 in
theorem listOk_any (a : Option Addr) (n c : Nat) (ops : List LOp) (L U : Nat) (w : World) (hU : U ≤ w.heap.size) (H : OpsAt w L U a n ops) :
    Calls Tryz.prog 83 #[.slice a n c] w fun e w' => e = .returned (.bool (formsB ops)) ∧ Below w.heap.size w w' := by
  have hbd := H.bd
  have hlen : Hid (n = ops.length) := H.len
  unfold maxLen at hbd
  by_cases h60 : 60 < n
  · have h60' : (60 : Int) < (n : Int) := by omega
    go_enter Tryz.func83, Tryz.ntmps83
    go_wp2_with fail
    go_ret
    exact ⟨ret_bool (by have := hlen.out; simp [formsB]; omega), Below.refl _ _⟩
  · have h60' : ¬ (60 : Int) < (n : Int) := by omega
    go_enter Tryz.func83, Tryz.ntmps83
    go_wp2_with fail
    go_loopg [10] n (fun g k wr => ∃ j : Nat, j ≤ n ∧ Hid (g = n - j) ∧ k = .int .i64 j ∧ Hid (formsB ops = (ops.drop j).all opOk) ∧ Below w.heap.size w wr)
    case atStart => exact ⟨0, Nat.zero_le _, rfl, rfl, by show _ = _; have := hlen.out; simp [formsB]; omega, Below.refl _ _⟩
    case round =>
      obtain ⟨j, hj, hk, rfl, hq, hb⟩ := hrel
      by_cases hlt : j < n
      · obtain ⟨b, off, ha, hL, hbU, hc⟩ := H.at_ (by omega)
        subst ha
        obtain ⟨x, he, hsz, hat⟩ := hc j hlt
        obtain ⟨d0, d1, d2, d3, d4, d5, d6⟩ := hat.of_block (hb.block b (by omega))
        have hlt' : (j : Int) < (n : Int) := by omega
        have HQ : Hid (formsB ops = (opOk x && (ops.drop (j + 1)).all opOk)) := by show _ = _; rw [hq.out, drop_cons he, List.all_cons]
        have HOK := fun w => implOpOk x w hsz
        simp only [LOp.val] at HOK
        clear he hc hq hat H
        go_wp2_with fail
        refine (HOK _).mono ?_
        rintro e w1 ⟨rfl, hb1⟩
        have hbb : Below w.heap.size w w1 := (hb.alloc hb.size _).trans (hb1.mono (by have := hb.size; simp; omega))
        rcases hx : opOk x with _ | _
        · have HY : Hid (formsB ops = false) := by show _ = _; rw [HQ.out, hx]; rfl
          clear HOK HQ
          go_wp2_with fail
          go_ret
          exact ⟨ret_bool HY.out.symm, hbb⟩
        · have HY : Hid (formsB ops = (ops.drop (j + 1)).all opOk) := by show _ = _; rw [HQ.out, hx]; rfl
          clear HOK HQ
          go_wp2_with fail
          go_roundg (n - (j + 1))
          case measure => have := hk.out; omega
          case rel => exact ⟨j + 1, by omega, rfl, by go_num, HY.out, hbb⟩
      · have HN : Hid (formsB ops = true) := by
          show _ = _
          rw [hq.out, List.drop_of_length_le (by have := hlen.out; omega)]; rfl
        go_wp2_with fail
        go_ret
        exact ⟨ret_bool HN.out.symm, hb⟩

end Go.Proofs.YtnolbfijcnldjaaGreatDoor

/- Lists that are made shorter: the program: what goes again. -/
namespace Go.Proofs.YtnolbfijcnldjaaGreatDoor
open Go.RowKit

def GoEnd (g : Int) (e : Ending) : Prop := e = .returned (.tuple #[.int .i64 (if 0 ≤ g then g else 0), .bool (decide (0 ≤ g))])
theorem GoEnd.no {e : Ending} (h : e = .returned (.tuple #[.int .i64 0, .bool false])) : GoEnd (-1) e := by subst h; rfl
end Go.Proofs.YtnolbfijcnldjaaGreatDoor

/- Lists that are made shorter: the program: what goes again is taken out. -/
namespace Go.Proofs.YtnolbfijcnldjaaGreatDoor
open Go.RowKit

theorem OwnOps.nil_ (w : World) (B : Nat) : OwnOps w B (.slice none 0 0) [] := World.ownsRow_nil _ _ _ _
end Go.Proofs.YtnolbfijcnldjaaGreatDoor

/- Lists that are made shorter: the program: what goes again, one at a time. -/
namespace Go.Proofs.YtnolbfijcnldjaaGreatDoor
open Go.RowKit

end Go.Proofs.YtnolbfijcnldjaaGreatDoor

/- Lists that are made shorter: the program: a rule again and again; pairs. -/
namespace Go.Proofs.YtnolbfijcnldjaaGreatDoor
open Go.RowKit

end Go.Proofs.YtnolbfijcnldjaaGreatDoor

/- Lists that are made shorter: the program: where something is then. -/
namespace Go.Proofs.YtnolbfijcnldjaaGreatDoor
open Go.RowKit

end Go.Proofs.YtnolbfijcnldjaaGreatDoor

/- Lists that are made shorter: the program: what moves on. -/
namespace Go.Proofs.YtnolbfijcnldjaaGreatDoor
open Go.RowKit

structure BoxAt (w : World) (q : Nat) (o : LOp) : Prop where
  c0 : w.cell? ⟨q, 0, none⟩ = some (.int .i64 o.kind)
  c1 : w.cell? ⟨q, 1, none⟩ = some (.int .i64 o.dir)
  c2 : w.cell? ⟨q, 2, none⟩ = some (.string o.name)
  c3 : w.cell? ⟨q, 3, none⟩ = some (.int .i64 o.dir2)
  c4 : w.cell? ⟨q, 4, none⟩ = some (.string o.name2)
  c5 : w.cell? ⟨q, 5, none⟩ = some (.int .i64 o.id)
  c6 : w.cell? ⟨q, 6, none⟩ = some (.string o.text)
theorem BoxAt.of {w w' : World} {q : Nat} {o : LOp} (h : BoxAt w q o) (e : w'.heap[q]? = w.heap[q]?) : BoxAt w' q o := by
  have hc : ∀ j, w'.cell? ⟨q, j, none⟩ = w.cell? ⟨q, j, none⟩ := fun j => World.cell?_of_block (w := w) e
  exact ⟨by rw [hc]; exact h.c0, by rw [hc]; exact h.c1, by rw [hc]; exact h.c2, by rw [hc]; exact h.c3, by rw [hc]; exact h.c4, by rw [hc]; exact h.c5, by rw [hc]; exact h.c6⟩
end Go.Proofs.YtnolbfijcnldjaaGreatDoor

/- Lists that are made shorter: the program: what moves on from where it was put. -/
namespace Go.Proofs.YtnolbfijcnldjaaGreatDoor
open Go.RowKit

/-- Taken first, the frame and the list of what came up written out. -/
theorem takeH {P : Program} {md : Region.Mode} {ops : Array Oper} {Q : Exit → Act → World → Prop} {S : World → Prop} {i : Nat} {oi : Oper} {v : Value} {fuel : Nat} {listed : Array Bool} {a : Act} {w : World} (d : Nat) (l2 : Array Bool) (hi : ops[i]? = some oi)
    (hs : Region.noSelect ops = true) (hf : Region.free md ops listed i = true) (hr : (Region.ready md ops listed).contains i = true)
    (hd : oi.dst = some d) (hl : listed.setIfInBounds i true = l2) (hQ : ∀ c a w, Q (.panic c) (a.put oi.dst v) w → Q (.panic c) a w) (hy : YieldsIf P ops S oi v a) (hS : S w)
    (h : wpAnyH P md ops Q S fuel l2 (a.put (some d) v) w) : wpAnyH P md ops Q S (fuel + 1) listed a w :=
  wpAnyH_take hi hs hf hr hQ hy hS (by rw [hl, hd]; exact h)
theorem listH {P : Program} {md : Region.Mode} {ops : Array Oper} {Q : Exit → Act → World → Prop} {S : World → Prop} {fuel : Nat} {listed l2 : Array Bool} {a : Act} {w : World} (hl : listed = l2) (h : wpAnyH P md ops Q S fuel l2 a w) : wpAnyH P md ops Q S fuel listed a w := by
  rw [hl]; exact h

end Go.Proofs.YtnolbfijcnldjaaGreatDoor

/- Lists that are made shorter: the program: what moves on, whole; lists with one put anew. -/
namespace Go.Proofs.YtnolbfijcnldjaaGreatDoor
open Go.RowKit

/-! A row of what is done, read and written. -/
/-! What is left when one goes, or both. -/
end Go.Proofs.YtnolbfijcnldjaaGreatDoor

/- Lists that are made shorter: the program: steps of a region that make and fill boxes. -/
namespace Go.Proofs.YtnolbfijcnldjaaGreatDoor
open Go.RowKit

def zrow (z : Array Value) (i : Nat) : Value := z[i]?.getD default
theorem zrow_new (W : World) (z : Array Value) (t : TypeId) : (W.alloc (.cells z t)).rowIs W.heap.size t z.size (zrow z) := World.rowIs_alloc W z t (zrow z) (fun i hi => by unfold zrow; rw [Array.getElem?_eq_getElem hi]; rfl)
section
variable {ops : Array Oper} {ac : Act} {K : Act → World → Prop} {Q : Exit → Act → World → Prop} {E : Prop} {ty : TypeId} {ps : String} {af : Array Edge}
end
end Go.Proofs.YtnolbfijcnldjaaGreatDoor

/- Lists of what is done: compared. -/
namespace Go.Proofs.YtnolbfijcnldjaaGreatDoor
open Go.RowKit

end Go.Proofs.YtnolbfijcnldjaaGreatDoor

/- Lists of what is done as answers: marked, held. -/
namespace Go.Proofs.YtnolbfijcnldjaaGreatDoor
open Go.RowKit

/-- A list of what is done in a row of its own. -/
def OpRow (w : World) (B : Nat) (a : Option Addr) (n g cap : Nat) (f : Nat → Value) : Prop := n ≠ 0 → a = some ⟨g, 0, none⟩ ∧ B ≤ g ∧ n ≤ cap ∧ w.rowIs g 27 (cap * 7) f
def OpCell (f : Nat → Value) (i : Nat) : Prop := ∃ o : LOp, opF f i o
theorem OwnOps.row {w : World} {B : Nat} {v : Value} {l : List LOp} (h : OwnOps w B v l) : ∃ a c g cap f, v = .slice a l.length c ∧ B ≤ g ∧ OpRow w B a l.length g cap f ∧ ∀ i, i < l.length → OpCell f i := by
  rcases h.2 with ⟨rfl, h0⟩ | ⟨g, cap, cur, rfl, hb, hg, hnc, hcm, hcs, htake⟩
  · exact ⟨none, 0, B, 0, fun _ => default, by rw [h0], Nat.le_refl _, fun hn => absurd h0 hn, fun i hi => by omega⟩
  · refine ⟨_, cap, g, cap, fun i => cur[i]?.getD default, rfl, hb, fun _ => ⟨rfl, hb, hnc, ⟨cur, hg, by omega, fun i hi => by simp [Array.getElem?_eq_getElem (show i < cur.size by omega)]⟩⟩, fun i hi => ⟨l[i], ?_⟩⟩
    have hq : ∀ t u, t < 7 → (l[i]).val[t]? = some u → cur[i * 7 + t]?.getD default = u := fun t u ht hu => by
      have h1 := opCells_at l i l[i] (by simp [hi]) t u hu
      rw [← htake, List.getElem?_take_of_lt (by omega)] at h1
      simp at h1
      simp [h1]
    exact ⟨by simpa using hq 0 _ (by omega) (by simp [LOp.val]), hq 1 _ (by omega) (by simp [LOp.val]), hq 2 _ (by omega) (by simp [LOp.val]), hq 3 _ (by omega) (by simp [LOp.val]), hq 4 _ (by omega) (by simp [LOp.val]), hq 5 _ (by omega) (by simp [LOp.val]), hq 6 _ (by omega) (by simp [LOp.val])⟩
theorem OpRow.at_ {w : World} {B : Nat} {a : Option Addr} {n g cap : Nat} {f : Nat → Value} (H : OpRow w B a n g cap f) {i : Nat} (hi : i < n) {o : LOp} (h : opF f i o) : a = some ⟨g, 0, none⟩ ∧ g < w.heap.size ∧ OpAt w g (i * 7) o := by
  obtain ⟨h1, _, h3, h4⟩ := H (by omega)
  obtain ⟨q0, q1, q2, q3, q4, q5, q6⟩ := h
  exact ⟨h1, h4.lt, by rw [h4.cell (by omega), q0], by rw [h4.cell (by omega), q1], by rw [h4.cell (by omega), q2], by rw [h4.cell (by omega), q3], by rw [h4.cell (by omega), q4], by rw [h4.cell (by omega), q5], by rw [h4.cell (by omega), q6]⟩
end Go.Proofs.YtnolbfijcnldjaaGreatDoor

/- Lists of what is done as answers: what the exact laws ask. -/
namespace Go.Proofs.YtnolbfijcnldjaaGreatDoor
open Go.RowKit

theorem OpsAt.but {w w' : World} {L U b : Nat} {a : Option Addr} {n : Nat} {ops : List LOp} (H : OpsAt w L U a n ops) (hb : But b w w') (hU : U ≤ w.heap.size) (hne : b < L ∨ U ≤ b) : OpsAt w' L U a n ops :=
  ⟨H.len, H.bd, fun hn => by
    obtain ⟨g, off, ha, hL, hbU, hc⟩ := H.at_ hn
    refine ⟨g, off, ha, hL, hbU, fun i hi => ?_⟩
    obtain ⟨o, ho, hs, h0⟩ := hc i hi
    exact ⟨o, ho, hs, h0.of_block (hb.block g (by omega) (by omega))⟩⟩
theorem OwnOps.but {w w' : World} {B b : Nat} {v : Value} {l : List LOp} (h : OwnOps w B v l) (hb : But b w w') (hlt : b < B) : OwnOps w' B v l := by
  refine ⟨h.1, ?_⟩
  rcases h.2 with hn | ⟨g, cap, cur, rfl, hB, hgg, rest⟩
  · exact .inl hn
  · refine .inr ⟨g, cap, cur, rfl, hB, ?_, rest⟩
    rw [hb.block g (by omega) (Array.getElem?_eq_some_iff.1 hgg).1]
    exact hgg
theorem OpRow.next {w w' : World} {B : Nat} {a : Option Addr} {n g cap : Nat} {f : Nat → Value} (h : OpRow w B a n g cap f) (hb : Below w.heap.size w w') : OpRow w' B a n g cap f := fun hn => by
  obtain ⟨h1, h2, h3, h4⟩ := h hn
  exact ⟨h1, h2, h3, h4.of_block (hb.block g h4.lt)⟩
theorem But.under {B b : Nat} {w0 w w' : World} (h : Below B w0 w) (hb : But b w w') (hB : B ≤ b) : Below B w0 w' := h.trans (hb.below.mono hB)

end Go.Proofs.YtnolbfijcnldjaaGreatDoor

/- A long list as it is drawn: what holds in the midst of it. -/
namespace Go.Proofs.YtnolbfijcnldjaaGreatDoor
open Go.RowKit

theorem box_keep {W W' : World} {q B : Nat} {u : Value} {l : List LOp} {f : Nat → Value} (h : W.rowIs q 25 1 f) (ho : OwnOps W B u l) (hg : W.grownBy W' u.ownBlock) : W'.rowIs q 25 1 f := by
  have hlt := h.lt
  obtain ⟨cs, h1, h2⟩ := h
  refine World.rowIs.of_block ⟨cs, h1, h2⟩ (hg.block q hlt fun e => ?_)
  rcases ho.2 with ⟨rfl, _⟩ | ⟨g, cap, cur, rfl, _, hgg, _⟩
  · simp [Value.ownBlock] at e
  · simp [Value.ownBlock] at e
    subst e
    rw [hgg] at h1
    simp at h1
/-- In the midst of drawing: the reader, the boxes, the tree, what was done. -/
structure LS (w W : World) (rb P q2 q4 q5 b c K : Nat) (u : Value) (os : List LObj) (vs : Nat → Value) (out : List LOp) : Prop where
  lo : rb < w.heap.size
  but : But rb w W
  rd : RdTo W rb P
  r2 : ∃ f, W.rowIs q2 25 1 f
  r4 : ∃ a n c, W.rowIs q4 25 1 (fun _ => .slice a n c)
  r5 : W.rowIs q5 25 1 (fun _ => .slice (some ⟨b, 0, none⟩) 32 c)
  l2 : w.heap.size ≤ q2
  l4 : w.heap.size ≤ q4
  l5 : w.heap.size ≤ q5
  n25 : q2 ≠ q5
  n45 : q4 ≠ q5
  tree : OwnT W w.heap.size b c os vs
  len : os.length = 32
  sm : Sm os K
  list : OwnOps W w.heap.size u out
  lsm : ∀ o ∈ out, DoneOp o
section
variable {w W W' : World} {rb P P' q2 q4 q5 b c K : Nat} {u v : Value} {os : List LObj} {vs : Nat → Value} {out news : List LOp}
theorem LS.next (h : LS w W rb P q2 q4 q5 b c K u os vs out) (hb : But rb W W') (hr : RdTo W' rb P') : LS w W' rb P' q2 q4 q5 b c K u os vs out := by
  obtain ⟨f2, h2⟩ := h.r2
  obtain ⟨a4', n4, c4, h4⟩ := h.r4
  have hlo := h.lo
  have a2 := h.l2
  have a4 := h.l4
  have a5 := h.l5
  exact ⟨h.lo, h.but.trans hb, hr, ⟨f2, h2.of_block (hb.block _ (by omega) h2.lt)⟩, ⟨a4', n4, c4, h4.of_block (hb.block _ (by omega) h4.lt)⟩, h.r5.of_block (hb.block _ (by omega) h.r5.lt), h.l2, h.l4, h.l5, h.n25, h.n45, h.tree.but hb h.lo, h.len, h.sm,
    World.ownsRow.kept h.list hb.grown (.inr fun e => by have := (h.list.lt rb e).1; omega), h.lsm⟩
theorem LS.on (h : LS w W rb P q2 q4 q5 b c K u os vs out) {K' : Nat} (hP : P ≤ P') (hK : K ≤ K') : LS w W rb P' q2 q4 q5 b c K' u os vs out := by
  obtain ⟨q, hq, R⟩ := h.rd
  exact ⟨h.lo, h.but, ⟨q, by omega, R⟩, h.r2, h.r4, h.r5, h.l2, h.l4, h.l5, h.n25, h.n45, h.tree, h.len, h.sm.mono hK, h.list, h.lsm⟩
theorem LS.size (h : LS w W rb P q2 q4 q5 b c K u os vs out) : w.heap.size < W.heap.size := by have := h.r5.lt; have := h.l5; omega
theorem LS.app (h : LS w W rb P q2 q4 q5 b c K u os vs out) (hE : AppOEnd W W' w.heap.size u v (out ++ news)) (hn : ∀ o ∈ news, DoneOp o) : LS w W' rb P q2 q4 q5 b c K v os vs (out ++ news) := by
  obtain ⟨f2, h2⟩ := h.r2
  obtain ⟨a4', n4, c4, h4⟩ := h.r4
  obtain ⟨q, hq, R⟩ := h.rd
  have hs := h.size
  have hA0 : Below w.heap.size W W' := below_grown (Below.refl _ _) hE.grown (fun k hk => (h.list.lt k hk).1) (by omega)
  refine ⟨h.lo, ⟨h.but.below.trans (hA0.mono (by have := h.lo; omega)), fun k hk hlt => (hA0.block k (by omega)).trans (h.but.block k hk hlt)⟩, ⟨q, hq, R.below hA0 h.lo⟩, ⟨f2, box_keep h2 h.list hE.grown⟩, ⟨a4', n4, c4, box_keep h4 h.list hE.grown⟩, box_keep h.r5 h.list hE.grown, h.l2, h.l4, h.l5, h.n25, h.n45, h.tree.ops h.list hE.grown, h.len, h.sm, hE.own, fun x hx => ?_⟩
  rcases List.mem_append.1 hx with h1 | h1
  · exact h.lsm x h1
  · exact hn x h1
theorem LS.store {b' c' K' : Nat} {os' : List LObj} {vs' : Nat → Value} (h : LS w W rb P q2 q4 q5 b c K u os vs out) (hT : OwnT W w.heap.size b' c' os' vs') (hl : os'.length = 32) (hs : Sm os' K') : LS w (W.setCell ⟨q5, 0, none⟩ (.slice (some ⟨b', 0, none⟩) 32 c')) rb P q2 q4 q5 b' c' K' u os' vs' out := by
  obtain ⟨f2, h2⟩ := h.r2
  obtain ⟨a4', n4, c4, h4⟩ := h.r4
  obtain ⟨q, hq, R⟩ := h.rd
  have a5 := h.l5
  have hlo := h.lo
  have hg : W.grownBy (W.setCell ⟨q5, 0, none⟩ (.slice (some ⟨b', 0, none⟩) 32 c')) (some q5) := ⟨rfl, rfl, rfl, by simp, fun i _ hi => Below.heap_setCell W ⟨q5, 0, none⟩ _ i (by intro e; exact hi (by simp [e]))⟩
  have hA0 : Below w.heap.size W (W.setCell ⟨q5, 0, none⟩ (.slice (some ⟨b', 0, none⟩) 32 c')) := (Below.refl _ _).setCell (by simpa using h.l5) _
  have hneq : u.ownBlock ≠ some q5 := fun e => by
    rcases h.list.2 with ⟨hn, _⟩ | ⟨g, cap, cur, hn, _, hgg, _⟩
    · rw [hn] at e; simp [Value.ownBlock] at e
    · rw [hn] at e
      simp [Value.ownBlock] at e
      subst e
      obtain ⟨cs, h1, _⟩ := h.r5
      rw [hgg] at h1
      simp at h1
  refine ⟨h.lo, ⟨h.but.below.trans (hA0.mono (by omega)), fun k hk hlt => (hA0.block k hlt).trans (h.but.block k hk hlt)⟩, ⟨q, hq, R.below hA0 h.lo⟩, ⟨f2, h2.of_block (Below.heap_setCell W ⟨q5, 0, none⟩ _ _ (by simpa using h.n25))⟩, ⟨a4', n4, c4, h4.of_block (Below.heap_setCell W ⟨q5, 0, none⟩ _ _ (by simpa using h.n45))⟩, ?_, h.l2, h.l4, h.l5, h.n25, h.n45, hT.setBox ⟨_, h.r5⟩ 0 _, hl, hs, World.ownsRow.kept h.list hg (.inr hneq), h.lsm⟩
  refine (h.r5.set 0 _).congr fun i hi => ?_
  have : i = 0 := by omega
  subst this
  rfl
end
section
variable {ops : Array Oper} {ac : Act} {K : Act → World → Prop} {Q : Exit → Act → World → Prop} {E : Prop} {ty : TypeId} {ps : String} {af : Array Edge}
theorem st_alloc53 (W : World) (d : Nat)
    (h : ∀ q W', q = W.heap.size → Below W.heap.size W W' → W'.rowIs q 25 1 (zrow #[.slice none 0 0]) → K (ac.put (some d) (.pointer (some ⟨q, 0, none⟩))) W') :
    if Region.wanted { dst := some d, op := .alloc 25, type := ty, pos := ps, after := af, guard := none } (yielded ops ac.tmps) = true then Oper.wp Tryz.prog { dst := some d, op := .alloc 25, type := ty, pos := ps, after := af, guard := none } ac W K Q else E := by
  rw [if_pos (by simp [Region.wanted])]
  have := h W.heap.size (W.alloc (.cells #[.slice none 0 0] 25)) rfl ((Below.refl _ _).alloc (Nat.le_refl _) _) (zrow_new W _ 25)
  unfold Oper.wp
  go_simp
  exact this
theorem st_store53 (W : World) (tp tv : Nat) (q : Nat) (x : Value) (f : Nat → Value) (hp : ac.tmps[tp]?.getD undef = .pointer (some ⟨q, 0, none⟩)) (a : Option Addr) (n c : Nat) (hx : x = .slice a n c) (hv : ac.tmps[tv]?.getD undef = .agg #[x]) (hr : W.rowIs q 25 1 f)
    (h : ∀ W', But q W W' → W' = W.setCell ⟨q, 0, none⟩ x → W'.cell? ⟨q, 0, none⟩ = some x → K ac W') :
    if Region.wanted { dst := none, op := .store 25 (.tmp tp) (.tmp tv), type := ty, pos := ps, after := af, guard := none } (yielded ops ac.tmps) = true then Oper.wp Tryz.prog { dst := none, op := .store 25 (.tmp tp) (.tmp tv), type := ty, pos := ps, after := af, guard := none } ac W K Q else E := by
  rw [if_pos (by simp [Region.wanted])]
  subst hx
  have c0 := hr.cell (i := 0) (by omega)
  have z0 := hr.frozen 0
  have r2 := hr.set 0 (.slice a n c)
  have := h (W.setCell ⟨q, 0, none⟩ (.slice a n c)) ((But.refl q W).set _ _) rfl (by rw [r2.cell (by omega)]; rfl)
  clear h hr r2
  unfold Oper.wp
  go_simp
  exact this
end
end Go.Proofs.YtnolbfijcnldjaaGreatDoor


/- A long list as it is drawn: more steps. -/
namespace Go.Proofs.YtnolbfijcnldjaaGreatDoor
open Go.RowKit

section
variable {ops : Array Oper} {ac : Act} {K : Act → World → Prop} {Q : Exit → Act → World → Prop} {E : Prop} {ty : TypeId} {ps : String} {af : Array Edge}
end
theorem BoxAt.next {W W' : World} {q : Nat} {o : LOp} (h : BoxAt W q o) (hq : q < W.heap.size) (hb : Below W.heap.size W W') : BoxAt W' q o := h.of (hb.block q hq)

theorem RdTo.set {V : World} {rb P q : Nat} (h : RdTo V rb P) (hq : rb < q) (x : Value) : RdTo (V.setCell ⟨q, 0, none⟩ x) rb P := by
  obtain ⟨p, hp, R⟩ := h
  exact ⟨p, hp, R.below ((Below.refl q V).setCell (by simp) x) hq⟩
theorem OwnOps.setBox {V : World} {B q : Nat} {l : Value} {ops : List LOp} {f : Nat → Value} (h : OwnOps V B l ops) (hr : V.rowIs q 25 1 f) (x : Value) : OwnOps (V.setCell ⟨q, 0, none⟩ x) B l ops := by
  have hg : V.grownBy (V.setCell ⟨q, 0, none⟩ x) (some q) := ⟨rfl, rfl, rfl, by simp, fun i _ hi => Below.heap_setCell V ⟨q, 0, none⟩ _ i (by intro e; exact hi (by simp [e]))⟩
  refine World.ownsRow.kept h hg (.inr fun e => ?_)
  rcases h.2 with ⟨hn, _⟩ | ⟨g, cap, cur, hn, _, hgg, _⟩
  · rw [hn] at e; simp [Value.ownBlock] at e
  · rw [hn] at e
    simp [Value.ownBlock] at e
    subst e
    obtain ⟨cs, h1, _⟩ := hr
    rw [hgg] at h1
    simp at h1
theorem But.setNew {V0 V : World} {rb q : Nat} (h : But rb V0 V) (hq : V0.heap.size ≤ q) (hr : rb < q) (x : Value) : But rb V0 (V.setCell ⟨q, 0, none⟩ x) :=
  ⟨h.below.trans ((Below.refl _ _).setCell (by show rb ≤ q; omega) x), fun k hk hlt => ((Below.heap_setCell V ⟨q, 0, none⟩ _ k (by show k ≠ q; omega))).trans (h.block k hk hlt)⟩
end Go.Proofs.YtnolbfijcnldjaaGreatDoor


/- A long list as it is drawn. -/
namespace Go.Proofs.YtnolbfijcnldjaaGreatDoor
open Go.RowKit

end Go.Proofs.YtnolbfijcnldjaaGreatDoor

/- A list as it is drawn for the laws of shorter lists. -/
namespace Go.Proofs.YtnolbfijcnldjaaGreatDoor
open Go.RowKit

end Go.Proofs.YtnolbfijcnldjaaGreatDoor

/- A code that came in as an argument, opened. -/
namespace Go.Proofs.YtnolbfijcnldjaaGreatDoor
open Go.ChangeShapes Go.WideShapes Go.ChangeAt Go.RowKit
section
variable {H : Type} {enc : TypeId × Value → H} {w : World} {spare : Nat → Bool} {held : Bool}
set_option maxRecDepth 100000 in
theorem open_bytes {r : Reach} {b0 : Nat} {v : Value} {d : DataW H} {p : List MemPlace} (hv : Value.okWide Tryz.prog w r b0 22 v) (h : DataW.Trod enc Tryz.prog w 0 spare held 22 v d p) :
    ∃ a n c zs, v = .slice a n c ∧ n ≤ c ∧ n ≤ maxLen ∧ BytesAt w w.heap.size a n zs := by
  obtain ⟨a0, len0, cap0, rfl⟩ := okWide_slice Tryz.underlying22 hv
  obtain ⟨fuel, hf⟩ := h
  rcases open_ints Tryz.underlying22 Tryz.underlying5 (by kernel_rfl) hf with ⟨hcs, _⟩ | ⟨x, l, c, z0, hcs, _, hl, hm, hz, _, hcell, hwz⟩
  · simp [Value.cells] at hcs
    obtain ⟨rfl, rfl, rfl⟩ := hcs
    exact ⟨none, 0, 0, [], rfl, Nat.le_refl _, Nat.zero_le _, rfl, fun h => absurd rfl h⟩
  · simp [Value.cells] at hcs
    obtain ⟨rfl, rfl, rfl⟩ := hcs
    have hz' : len0 ≤ z0.length := by rw [hz]; split <;> omega
    refine ⟨some x, len0, cap0, z0.take len0, rfl, hl, by omega, by simp; omega, fun hn => ?_⟩
    obtain ⟨b, off, spot⟩ := x
    have hc0 := hcell 0 (by omega)
    have hspot : spot = none := by simpa [Addr.add] using World.cell?_spot hc0
    subst hspot
    refine ⟨b, off, rfl, by have := cell_lt hc0; simpa [Addr.add] using this, fun i hi => ?_⟩
    have hlt : i < z0.length := by omega
    refine ⟨z0[i], by rw [List.getElem?_take_of_lt hi]; exact List.getElem?_eq_getElem hlt, ?_, ?_, ?_⟩
    · have := hwz z0[i] (List.getElem_mem hlt); simp [Lit.wf, IntKind.min, IntKind.max, IntKind.signed, IntKind.bits] at this; omega
    · have := hwz z0[i] (List.getElem_mem hlt); simp [Lit.wf, IntKind.min, IntKind.max, IntKind.signed, IntKind.bits] at this; omega
    · have := hcell i hlt
      rw [addr_add] at this
      rw [this]
      simp [hlt]
end
end Go.Proofs.YtnolbfijcnldjaaGreatDoor


/- Lists that are made shorter: plain facts: once more is the same; what is left. -/
namespace Go.Proofs.YtnolbfijcnldjaaGreatDoor
open Go.RowKit

/-! Texts. -/
end Go.Proofs.YtnolbfijcnldjaaGreatDoor

/- What the laws of drawn lists ask. -/
namespace Go.Proofs.YtnolbfijcnldjaaGreatDoor
open Go.RowKit

theorem OwnOps.cap {w : World} {B : Nat} {a : Option Addr} {n c : Nat} {l : List LOp} (h : OwnOps w B (.slice a n c) l) : n ≤ c := by
  rcases h.2 with ⟨e, h0⟩ | ⟨g, cap, cur, e, _, _, h2, _⟩
  · cases e; omega
  · cases e; exact h2
theorem OpsAt.blocks' {w w' : World} {L U : Nat} {a : Option Addr} {n : Nat} {ops : List LOp} (h : OpsAt w L U a n ops) (hb : ∀ b : Nat, w'.heap[b]? = w.heap[b]?) : OpsAt w' L U a n ops :=
  ⟨h.len, h.bd, fun hn => by
    obtain ⟨b, off, ha, hL, hbU, hc⟩ := h.at_ hn
    refine ⟨b, off, ha, hL, hbU, fun i hi => ?_⟩
    obtain ⟨o, ho, hs, h0⟩ := hc i hi
    exact ⟨o, ho, hs, h0.of_block (hb b)⟩⟩
theorem OpsAt.drewN {w : World} {L U : Nat} {a : Option Addr} {n : Nat} {ops : List LOp} (h : OpsAt w L U a n ops) (m : Nat) : OpsAt (w.drewN m) L U a n ops := h.blocks' fun _ => rfl
end Go.Proofs.YtnolbfijcnldjaaGreatDoor

/- Logs: on what they lean, in memory; contracts of the law's szLog, toLog, eqLog. -/
namespace Go.Proofs.YtnolbfijcnldjaaGreatDoor
open Go.RowKit Go.ChangeShapes Go.WideShapes

structure LBase where
  id : Int
  ver : Int
/-- What a slice of bases is. -/
structure BasesAt (w : World) (L U : Nat) (a : Option Addr) (n : Nat) (bs : List LBase) : Prop where
  len : n = bs.length
  bd : n ≤ maxLen
  at_ : n ≠ 0 → ∃ b off, a = some ⟨b, off, none⟩ ∧ L ≤ b ∧ b < U ∧ ∀ i, i < n → ∃ e, bs[i]? = some e ∧ w.cell? ⟨b, off + i * 2, none⟩ = some (.int .i64 e.id) ∧ w.cell? ⟨b, off + i * 2 + 1, none⟩ = some (.int .i64 e.ver)
theorem BasesAt.below {w w' : World} {L U B : Nat} {a : Option Addr} {n : Nat} {es : List LBase} (h : BasesAt w L U a n es) (hb : Below B w w') (hU : U ≤ B) : BasesAt w' L U a n es :=
  ⟨h.len, h.bd, fun hn => by
    obtain ⟨b, off, ha, hL, hbU, hc⟩ := h.at_ hn
    refine ⟨b, off, ha, hL, hbU, fun i hi => ?_⟩
    obtain ⟨e, he, h0, h1⟩ := hc i hi
    exact ⟨e, he, by rw [hb.cell (by simp; omega)]; exact h0, by rw [hb.cell (by simp; omega)]; exact h1⟩⟩
theorem BasesAt.wide {w : World} {L U L' U' : Nat} {a : Option Addr} {n : Nat} {es : List LBase} (h : BasesAt w L U a n es) (hL' : L' ≤ L) (hU : U ≤ U') : BasesAt w L' U' a n es :=
  ⟨h.len, h.bd, fun hn => by
    obtain ⟨b, off, ha, hL, hbU, hc⟩ := h.at_ hn
    exact ⟨b, off, ha, by omega, by omega, hc⟩⟩
theorem BasesAt.blocks {w w' : World} {L U : Nat} {a : Option Addr} {n : Nat} {es : List LBase} (h : BasesAt w L U a n es) (hb : ∀ b, L ≤ b → b < U → w'.heap[b]? = w.heap[b]?) : BasesAt w' L U a n es :=
  ⟨h.len, h.bd, fun hn => by
    obtain ⟨b, off, ha, hL, hbU, hc⟩ := h.at_ hn
    refine ⟨b, off, ha, hL, hbU, fun i hi => ?_⟩
    obtain ⟨e, he, h0, h1⟩ := hc i hi
    have hk := hb b hL hbU
    exact ⟨e, he, by rw [World.cell?_of_block (w := w) hk]; exact h0, by rw [World.cell?_of_block (w := w) hk]; exact h1⟩⟩
theorem OpsAt.blocks {w w' : World} {L U : Nat} {a : Option Addr} {n : Nat} {ops : List LOp} (h : OpsAt w L U a n ops) (hb : ∀ b, L ≤ b → b < U → w'.heap[b]? = w.heap[b]?) : OpsAt w' L U a n ops :=
  ⟨h.len, h.bd, fun hn => by
    obtain ⟨b, off, ha, hL, hbU, hc⟩ := h.at_ hn
    refine ⟨b, off, ha, hL, hbU, fun i hi => ?_⟩
    obtain ⟨o, ho, hs, h0⟩ := hc i hi
    exact ⟨o, ho, hs, h0.of_block (hb b hL hbU)⟩⟩

structure LLog where
  who : Int
  seq : Int
  bases : List LBase
  list : List LOp
/-- What a log is. -/
structure LogAt (w : World) (L U : Nat) (q s : Int) (a : Option Addr) (n : Nat) (a' : Option Addr) (n' : Nat) (l : LLog) : Prop where
  q : q = l.who
  s : s = l.seq
  b : BasesAt w L U a n l.bases
  o : OpsAt w L U a' n' l.list
theorem LogAt.below {w w' : World} {L U B : Nat} {q s : Int} {a a' : Option Addr} {n n' : Nat} {l : LLog} (h : LogAt w L U q s a n a' n' l) (hb : Below B w w') (hU : U ≤ B) : LogAt w' L U q s a n a' n' l := ⟨h.q, h.s, h.b.below hb hU, h.o.below hb hU⟩
theorem LogAt.wide {w : World} {L U L' U' : Nat} {q s : Int} {a a' : Option Addr} {n n' : Nat} {l : LLog} (h : LogAt w L U q s a n a' n' l) (hL : L' ≤ L) (hU : U ≤ U') : LogAt w L' U' q s a n a' n' l := ⟨h.q, h.s, h.b.wide hL hU, h.o.wide hL hU⟩

section
variable {H : Type} {enc : TypeId × Value → H} {w : World} {spare : Nat → Bool} {held : Bool}
end

/-- Bases in a row of one's own, from its first cell on. -/
def BaseRow (w : World) (B : Nat) (a : Option Addr) (n g cap : Nat) (f : Nat → Value) : Prop := n ≠ 0 → a = some ⟨g, 0, none⟩ ∧ B ≤ g ∧ n * 2 ≤ cap ∧ w.rowIs g 121 cap f
def baseF (f : Nat → Value) (es : List LBase) : Prop := ∀ i e, es[i]? = some e → f (i * 2) = .int .i64 e.id ∧ f (i * 2 + 1) = .int .i64 e.ver
theorem BaseRow.at_ {w : World} {B : Nat} {a : Option Addr} {n g cap : Nat} {f : Nat → Value} {es : List LBase} (h : BaseRow w B a n g cap f) (hf : baseF f es) (hn : n = es.length) (hbd : n ≤ maxLen) : BasesAt w B w.heap.size a n es :=
  ⟨hn, hbd, fun h0 => by
    obtain ⟨h1, h2, h3, h4⟩ := h h0
    refine ⟨g, 0, h1, h2, h4.lt, fun i hi => ?_⟩
    have hl : es[i]? = some (es[i]'(by omega)) := by simp [show i < es.length by omega]
    obtain ⟨q0, q1⟩ := hf i _ hl
    exact ⟨_, hl, by rw [Nat.zero_add, h4.cell (by omega), q0], by rw [Nat.zero_add, h4.cell (by omega), q1]⟩⟩
theorem BaseRow.kept {w w' : World} {B : Nat} {a : Option Addr} {n g cap : Nat} {f : Nat → Value} (h : BaseRow w B a n g cap f) (hb : ∀ k, k = g → k < w.heap.size → w'.heap[k]? = w.heap[k]?) : BaseRow w' B a n g cap f := fun hn => by
  obtain ⟨h1, h2, h3, h4⟩ := h hn
  exact ⟨h1, h2, h3, h4.of_block (hb g rfl h4.lt)⟩

end Go.Proofs.YtnolbfijcnldjaaGreatDoor

/- Logs: compared, by the program and by the specification. -/
namespace Go.Proofs.YtnolbfijcnldjaaGreatDoor
open Go.RowKit

theorem bundleOf_any (q s : Int) (a : Option Addr) (n c : Nat) (a' : Option Addr) (n' c' : Nat) (w : World) :
    Calls Tryz.prog 103 #[.agg #[.int .i64 q, .int .i64 s, .slice a n c, .slice a' n' c']] w fun e w' => e = .returned (.agg #[.int .i64 q, .int .i64 s, .slice a n c, .slice a' n' c']) ∧ Below w.heap.size w w' := by
  go_enter Tryz.func103, Tryz.ntmps103
  go_wp2
  exact bodyPost_ret (v := .agg #[.int .i64 q, .int .i64 s, .slice a n c, .slice a' n' c']) (by simp [results, Tryz.results103, go_sem]) rfl ⟨rfl, by
    repeat (first | exact Below.refl _ _ | refine Below.setCell ?_ (by simp <;> omega) _ | refine Below.alloc ?_ (by simp <;> omega) _)⟩

/-! A box for a log, made and filled in a region that draws. -/
structure LogBox (W : World) (q : Nat) (x y : Int) (a : Option Addr) (n c : Nat) (a' : Option Addr) (n' c' : Nat) : Prop where
  c0 : W.cell? ⟨q, 0, none⟩ = some (.int .i64 x)
  c1 : W.cell? ⟨q, 1, none⟩ = some (.int .i64 y)
  c2 : W.cell? ⟨q, 2, none⟩ = some (.slice a n c)
  c3 : W.cell? ⟨q, 3, none⟩ = some (.slice a' n' c')
theorem LogBox.of {W W' : World} {q : Nat} {x y : Int} {a : Option Addr} {n c : Nat} {a' : Option Addr} {n' c' : Nat} (h : LogBox W q x y a n c a' n' c') (e : W'.heap[q]? = W.heap[q]?) : LogBox W' q x y a n c a' n' c' := by
  have hc : ∀ j, W'.cell? ⟨q, j, none⟩ = W.cell? ⟨q, j, none⟩ := fun j => World.cell?_of_block (w := W) e
  exact ⟨by rw [hc]; exact h.c0, by rw [hc]; exact h.c1, by rw [hc]; exact h.c2, by rw [hc]; exact h.c3⟩
section
variable {ops : Array Oper} {ac : Act} {K : Act → World → Prop} {Q : Exit → Act → World → Prop} {E : Prop} {ty : TypeId} {ps : String} {af : Array Edge}
end

end Go.Proofs.YtnolbfijcnldjaaGreatDoor
