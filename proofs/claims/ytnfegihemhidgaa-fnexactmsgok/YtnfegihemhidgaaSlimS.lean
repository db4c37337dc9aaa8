import Derived.Test.YtnfegihemhidgaaSlimF
import Derived.Deep.QuietTactic
import Derived.BigQuiet
/- Lists that are made shorter: the specification. -/
namespace Go.Proofs.Ytnfegihemhidgaa
open Go.RowKit

theorem opCells_at : ∀ (l : List LOp) (i : Nat) (o : LOp), l[i]? = some o → ∀ t u, o.val[t]? = some u → (opCells l)[i * 7 + t]? = some u
  | [], i, o, h, _, _, _ => by simp at h
  | x :: r, 0, o, h, t, u, hu => by
    simp at h
    subst h
    have ht : t < x.val.toList.length := by
      have := (Array.getElem?_eq_some_iff.1 hu).1
      simpa using this
    simp only [opCells, List.flatMap_cons]
    rw [List.getElem?_append_left (by omega)]
    simpa using hu
  | x :: r, i + 1, o, h, t, u, hu => by
    have ih := opCells_at r i o (by simpa using h) t u hu
    simp only [opCells, List.flatMap_cons]
    have h7 : x.val.toList.length = 7 := by simp [LOp.val]
    rw [List.getElem?_append_right (by omega), h7]
    have e : (i + 1) * 7 + t - 7 = i * 7 + t := by omega
    rw [e]
    exact ih
theorem OwnOps.at_ {w : World} {B : Nat} {v : Value} {l : List LOp} (h : OwnOps w B v l) (hn : ∀ o ∈ l, OpSz o) : ∃ a c, v = .slice a l.length c ∧ OpsAt w B w.heap.size a l.length l := by
  by_cases h0 : l.length = 0
  · obtain rfl : l = [] := List.eq_nil_of_length_eq_zero h0
    rcases h.2 with ⟨rfl, _⟩ | ⟨g, cap, cur, rfl, _⟩
    · exact ⟨_, _, rfl, rfl, by simp [maxLen], fun hn => absurd rfl hn⟩
    · exact ⟨_, _, rfl, rfl, by simp [maxLen], fun hn => absurd rfl hn⟩
  · obtain ⟨g, c, rfl, hb, hlt⟩ := World.ownsRow.form h (by omega)
    have hbd : l.length ≤ maxLen := by
      rcases h.2 with ⟨h', _⟩ | ⟨g', cap', cur, h', _, _, hnc, hcm, _⟩
      · simp at h'
      · omega
    have hc : ∀ i (hi : i < l.length) t u, t < 7 → (l[i]).val[t]? = some u → w.cell? ⟨g, 0 + i * 7 + t, none⟩ = some u := fun i hi t u ht hu => by
      have := World.ownsRow.cellAt h (i * 7 + t) (by omega)
      rw [Nat.zero_add, this]
      exact opCells_at l i l[i] (by simp [hi]) t u hu
    exact ⟨_, _, rfl, rfl, hbd, fun _ => ⟨g, 0, rfl, hb, hlt, fun i hi => ⟨l[i], by simp [hi], hn _ (List.getElem_mem hi), hc i hi 0 _ (by omega) (by simp [LOp.val]), hc i hi 1 _ (by omega) (by simp [LOp.val]), hc i hi 2 _ (by omega) (by simp [LOp.val]), hc i hi 3 _ (by omega) (by simp [LOp.val]), hc i hi 4 _ (by omega) (by simp [LOp.val]), hc i hi 5 _ (by omega) (by simp [LOp.val]), hc i hi 6 _ (by omega) (by simp [LOp.val])⟩⟩⟩
theorem OpsAt.sz {w : World} {L U : Nat} {a : Option Addr} {n : Nat} {ops : List LOp} (h : OpsAt w L U a n ops) : ∀ o ∈ ops, OpSz o := fun o ho => by
  obtain ⟨i, hi, rfl⟩ := List.getElem_of_mem ho
  have hl := h.len
  obtain ⟨b, off, _, _, _, hc⟩ := h.at_ (by omega)
  obtain ⟨o', ho', hs, _⟩ := hc i (by omega)
  rw [List.getElem?_eq_getElem hi] at ho'
  cases ho'
  exact hs
theorem seven_cells {w : World} {o : LOp} {j : Nat} {u : Value} {q : Nat} (h : (opCells [o])[j]? = some u) (hq : q = w.heap.size) : (w.alloc (Obj.cells o.val 102)).cell? ((⟨q, 0, none⟩ : Addr).add j) = some u := by
  subst hq
  have hadd : (⟨w.heap.size, 0, none⟩ : Addr).add j = ⟨w.heap.size, j, none⟩ := by unfold Addr.add; split <;> simp_all
  rw [hadd]
  have h1 : o.val[j]? = some u := by simpa [opCells] using h
  simp [go_sem, h1]
theorem AppOEnd.below {w0 wr w1 : World} {B : Nat} {u v : Value} {l r : List LOp} {o1 : Obj} (hE : AppOEnd (wr.alloc o1) w1 B u v r) (hown : OwnOps wr B u l) (hb : Below B w0 wr) (hsz : B ≤ wr.heap.size) : Below B w0 w1 := by
  have hr : ∀ k, u.ownBlock = some k → B ≤ k := fun k e => (hown.lt k e).1
  exact hb.trans (below_grown ((Below.refl _ _).alloc (by omega) _) hE.grown hr (by simp; omega))
theorem OwnOps.empty (w : World) (B : Nat) (hB : B ≤ w.heap.size) : OwnOps (w.alloc (Obj.cells #[] 102)) B (.slice (some ⟨w.heap.size, 0, none⟩) 0 0) [] := by
  simpa [OwnOps, opCells] using World.ownsRow_lit (base := B) (e := 102) (size := 7) w #[] 0 hB (by simp [maxLen]) rfl

theorem any_drop {f : LOp → Bool} {l : List LOp} {k : Nat} {x : LOp} (h : l[k]? = some x) : (l.drop k).any f = (f x || (l.drop (k + 1)).any f) := by
  rw [drop_cons h, List.any_cons]
theorem below_drewN {w w' : World} (h : Below w.heap.size w w') (m : Nat) : Below w.heap.size w (w'.drewN m) := h.trans ((Below.drewN _ _).mono h.size)
theorem OwnOps.next {w w' : World} {B : Nat} {v : Value} {l : List LOp} (h : OwnOps w B v l) (hb : Below w.heap.size w w') : OwnOps w' B v l := by
  refine ⟨h.1, ?_⟩
  rcases h.2 with hn | ⟨g, cap, cur, rfl, hB, hgg, rest⟩
  · exact .inl hn
  · refine .inr ⟨g, cap, cur, rfl, hB, ?_, rest⟩
    rw [hb.block g (Array.getElem?_eq_some_iff.1 hgg).1]
    exact hgg
/-- What a rule leaves: a list of its own, and all else as it was. -/
def SlimEnd (w : World) (r : List LOp) (e : Ending) (w' : World) : Prop := (∃ v, e = .returned v ∧ OwnOps w' w.heap.size v r) ∧ Below w.heap.size w w'

set_option maxHeartbeats 1000000 in
theorem forms_any (a : Option Addr) (n c : Nat) (ops : List LOp) (L U : Nat) (w : World) (hU : U ≤ w.heap.size) (H : OpsAt w L U a n ops) :
    Calls Try.prog 36 #[.slice a n c] w fun e w' => e = .returned (.bool (formsB ops)) ∧ Below w.heap.size w w' := by
  have hbd := H.bd
  have hlen : Hid (n = ops.length) := H.len
  unfold maxLen at hbd
  by_cases h60 : 60 < n
  · have h60' : (60 : Int) < (n : Int) := by omega
    go_enter Try.func36, Try.ntmps36
    go_wp2_with fail
    go_ret
    exact ⟨ret_bool (by have := hlen.out; simp [formsB]; omega), Below.refl _ _⟩
  · have h60' : ¬ (60 : Int) < (n : Int) := by omega
    go_enter Try.func36, Try.ntmps36
    go_wp2_with fail
    go_loopg [3] n (fun g k wr => ∃ j : Nat, j ≤ n ∧ Hid (g = n - j) ∧ k = .int .i64 j ∧ Hid (formsB ops = (ops.drop j).all opOk) ∧ Below w.heap.size w wr)
    case atStart => exact ⟨0, Nat.zero_le _, rfl, rfl, by show _ = _; have := hlen.out; simp [formsB]; omega, Below.refl _ _⟩
    case round =>
      obtain ⟨j, hj, hk, rfl, hq, hb⟩ := hrel
      by_cases hlt : j < n
      · obtain ⟨b, off, ha, hL, hbU, hc⟩ := H.at_ (by omega)
        subst ha
        obtain ⟨x, he, hsz, hat⟩ := hc j hlt
        obtain ⟨d0, d1, d2, d3, d4, d5, d6⟩ := hat.of_block (hb.block b (by omega))
        have hlt' : (j : Int) < (n : Int) := by omega
        have HQ : Hid (formsB ops = (opOk x && (ops.drop (j + 1)).all opOk)) := by show _ = _; rw [hq.out, drop_cons he, List.all_cons]
        have HOK := fun w => opOk_any x w hsz.name hsz.name2 hsz.text
        simp only [LOp.val] at HOK
        clear he hc hq hat H
        go_wp2_with fail
        refine (HOK _).mono ?_
        rintro e w1 ⟨rfl, rfl⟩
        rcases hx : opOk x with _ | _
        · have HY : Hid (formsB ops = false) := by show _ = _; rw [HQ.out, hx]; rfl
          clear HOK HQ
          go_wp2_with fail
          go_ret
          exact ⟨ret_bool HY.out.symm, hb.alloc hb.size _⟩
        · have HY : Hid (formsB ops = (ops.drop (j + 1)).all opOk) := by show _ = _; rw [HQ.out, hx]; rfl
          clear HOK HQ
          go_wp2_with fail
          go_roundg (n - (j + 1))
          case measure => have := hk.out; omega
          case rel => exact ⟨j + 1, by omega, rfl, by go_num, HY.out, hb.alloc hb.size _⟩
      · have HN : Hid (formsB ops = true) := by
          show _ = _
          rw [hq.out, List.drop_of_length_le (by have := hlen.out; omega)]; rfl
        go_wp2_with fail
        go_ret
        exact ⟨ret_bool HN.out.symm, hb⟩

theorem goesL_at {ops : List LOp} {i : Nat} {o : LOp} (h : ops[i]? = some o) : goesL ops i = if makesB o then goesAt o.id (ops.drop (i + 1)) (i + 1) else -1 := by
  unfold goesL; rw [h]
theorem goesAt_step {id : Int} {ops : List LOp} {j : Nat} {x : LOp} (h : ops[j]? = some x) : goesAt id (ops.drop j) j = if leansB x id then -1 else if (x.kind == 3) && (x.id == id) then (j : Int) else goesAt id (ops.drop (j + 1)) (j + 1) := by
  rw [drop_cons h]; rfl

end Go.Proofs.Ytnfegihemhidgaa
