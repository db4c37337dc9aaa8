/- Lemmas that the proofs of this seat share: SlimF, SlimS, SlimS2, SlimS3, SlimS4, SlimS5, SlimI, SlimI2, SlimI3, SlimI4, SlimI5, SlimI6, SlimI7, SlimI8, SlimI9, SlimI10, SlimI11, OpSame, SlimM, SlimX, LongAll, LogA, LogB. -/
import Derived.Test.YtnolbfijcnldjaaGreatDoorU11
import Derived.Deep.QuietTactic
import Derived.BigQuiet
import Derived.Deep.Upon
import Derived.Deep.DeepCutAuto
import Derived.Deep.RegionHeld
import Derived.OrdersHeld
import Derived.BigRegion
import Derived.Test.YtnolbfijcnldjaaGreatDoorU05
import Derived.Test.YtnolbfijcnldjaaGreatDoorU04
import Derived.Test.YtnolbfijcnldjaaGreatDoorU12
import Derived.Deep.CutBlock
import Derived.Test.YtnolbfijcnldjaaGreatDoorU01
import Derived.Test.YtnolbfijcnldjaaGreatDoorU03
import Derived.OpenShut
/- Lists that are made shorter: what that is, on lists. -/
namespace Go.Proofs.YtnolbfijcnldjaaGreatDoor
open Go.RowKit

/-! Some of a list. -/
/-! Texts that are void. -/
/-! What is made and goes again. -/
theorem drop_cons {α : Type} {l : List α} {k : Nat} {x : α} (h : l[k]? = some x) : l.drop k = x :: l.drop (k + 1) := by
  obtain ⟨hk, rfl⟩ := List.getElem?_eq_some_iff.1 h
  exact List.drop_eq_getElem_cons hk
/-! What is moved and moved on. -/
/-! Again and again. -/
def formsB (ops : List LOp) : Bool := decide (ops.length ≤ 60) && ops.all opOk

/-! What is kept. -/
end Go.Proofs.YtnolbfijcnldjaaGreatDoor

/- Lists that are made shorter: the specification. -/
namespace Go.Proofs.YtnolbfijcnldjaaGreatDoor
open Go.RowKit

theorem opCells_at : ∀ (l : List LOp) (i : Nat) (o : LOp), l[i]? = some o → ∀ t u, o.val[t]? = some u → (opCells l)[i * 7 + t]? = some u
  | [], i, o, h, _, _, _ => by simp at h
  | x :: r, 0, o, h, t, u, hu => by
    simp at h
    subst h
    have ht : t < x.val.toList.length := by
      have := (Array.getElem?_eq_some_iff.1 hu).1
      simpa using this
    simp only [opCells, List.flatMap_cons]
    rw [List.getElem?_append_left (by omega)]
    simpa using hu
  | x :: r, i + 1, o, h, t, u, hu => by
    have ih := opCells_at r i o (by simpa using h) t u hu
    simp only [opCells, List.flatMap_cons]
    have h7 : x.val.toList.length = 7 := by simp [LOp.val]
    rw [List.getElem?_append_right (by omega), h7]
    have e : (i + 1) * 7 + t - 7 = i * 7 + t := by omega
    rw [e]
    exact ih
theorem OwnOps.at_ {w : World} {B : Nat} {v : Value} {l : List LOp} (h : OwnOps w B v l) (hn : ∀ o ∈ l, OpSz o) : ∃ a c, v = .slice a l.length c ∧ OpsAt w B w.heap.size a l.length l := by
  by_cases h0 : l.length = 0
  · obtain rfl : l = [] := List.eq_nil_of_length_eq_zero h0
    rcases h.2 with ⟨rfl, _⟩ | ⟨g, cap, cur, rfl, _⟩
    · exact ⟨_, _, rfl, rfl, by simp [maxLen], fun hn => absurd rfl hn⟩
    · exact ⟨_, _, rfl, rfl, by simp [maxLen], fun hn => absurd rfl hn⟩
  · obtain ⟨g, c, rfl, hb, hlt⟩ := World.ownsRow.form h (by omega)
    have hbd : l.length ≤ maxLen := by
      rcases h.2 with ⟨h', _⟩ | ⟨g', cap', cur, h', _, _, hnc, hcm, _⟩
      · simp at h'
      · omega
    have hc : ∀ i (hi : i < l.length) t u, t < 7 → (l[i]).val[t]? = some u → w.cell? ⟨g, 0 + i * 7 + t, none⟩ = some u := fun i hi t u ht hu => by
      have := World.ownsRow.cellAt h (i * 7 + t) (by omega)
      rw [Nat.zero_add, this]
      exact opCells_at l i l[i] (by simp [hi]) t u hu
    exact ⟨_, _, rfl, rfl, hbd, fun _ => ⟨g, 0, rfl, hb, hlt, fun i hi => ⟨l[i], by simp [hi], hn _ (List.getElem_mem hi), hc i hi 0 _ (by omega) (by simp [LOp.val]), hc i hi 1 _ (by omega) (by simp [LOp.val]), hc i hi 2 _ (by omega) (by simp [LOp.val]), hc i hi 3 _ (by omega) (by simp [LOp.val]), hc i hi 4 _ (by omega) (by simp [LOp.val]), hc i hi 5 _ (by omega) (by simp [LOp.val]), hc i hi 6 _ (by omega) (by simp [LOp.val])⟩⟩⟩
theorem OpsAt.sz {w : World} {L U : Nat} {a : Option Addr} {n : Nat} {ops : List LOp} (h : OpsAt w L U a n ops) : ∀ o ∈ ops, OpSz o := fun o ho => by
  obtain ⟨i, hi, rfl⟩ := List.getElem_of_mem ho
  have hl := h.len
  obtain ⟨b, off, _, _, _, hc⟩ := h.at_ (by omega)
  obtain ⟨o', ho', hs, _⟩ := hc i (by omega)
  rw [List.getElem?_eq_getElem hi] at ho'
  cases ho'
  exact hs
theorem AppOEnd.below {w0 wr w1 : World} {B : Nat} {u v : Value} {l r : List LOp} {o1 : Obj} (hE : AppOEnd (wr.alloc o1) w1 B u v r) (hown : OwnOps wr B u l) (hb : Below B w0 wr) (hsz : B ≤ wr.heap.size) : Below B w0 w1 := by
  have hr : ∀ k, u.ownBlock = some k → B ≤ k := fun k e => (hown.lt k e).1
  exact hb.trans (below_grown ((Below.refl _ _).alloc (by omega) _) hE.grown hr (by simp; omega))
theorem OwnOps.empty (w : World) (B : Nat) (hB : B ≤ w.heap.size) : OwnOps (w.alloc (Obj.cells #[] 27)) B (.slice (some ⟨w.heap.size, 0, none⟩) 0 0) [] := by
  simpa [OwnOps, opCells] using World.ownsRow_lit (base := B) (e := 27) (size := 7) w #[] 0 hB (by simp [maxLen]) rfl

theorem OwnOps.next {w w' : World} {B : Nat} {v : Value} {l : List LOp} (h : OwnOps w B v l) (hb : Below w.heap.size w w') : OwnOps w' B v l := by
  refine ⟨h.1, ?_⟩
  rcases h.2 with hn | ⟨g, cap, cur, rfl, hB, hgg, rest⟩
  · exact .inl hn
  · refine .inr ⟨g, cap, cur, rfl, hB, ?_, rest⟩
    rw [hb.block g (Array.getElem?_eq_some_iff.1 hgg).1]
    exact hgg
/-- What a rule leaves: a list of its own, and all else as it was. -/
def SlimEnd (w : World) (r : List LOp) (e : Ending) (w' : World) : Prop := (∃ v, e = .returned v ∧ OwnOps w' w.heap.size v r) ∧ Below w.heap.size w w'

set_option maxHeartbeats 1000000 in
theorem forms_any (a : Option Addr) (n c : Nat) (ops : List LOp) (L U : Nat) (w : World) (hU : U ≤ w.heap.size) (H : OpsAt w L U a n ops) :
    Calls Tryz.prog 85 #[.slice a n c] w fun e w' => e = .returned (.bool (formsB ops)) ∧ Below w.heap.size w w' := by
  have hbd := H.bd
  have hlen : Hid (n = ops.length) := H.len
  unfold maxLen at hbd
  by_cases h60 : 60 < n
  · have h60' : (60 : Int) < (n : Int) := by omega
    go_enter Tryz.func85, Tryz.ntmps85
    go_wp2_with fail
    go_ret
    exact ⟨ret_bool (by have := hlen.out; simp [formsB]; omega), Below.refl _ _⟩
  · have h60' : ¬ (60 : Int) < (n : Int) := by omega
    go_enter Tryz.func85, Tryz.ntmps85
    go_wp2_with fail
    go_loopg [3] n (fun g k wr => ∃ j : Nat, j ≤ n ∧ Hid (g = n - j) ∧ k = .int .i64 j ∧ Hid (formsB ops = (ops.drop j).all opOk) ∧ Below w.heap.size w wr)
    case atStart => exact ⟨0, Nat.zero_le _, rfl, rfl, by show _ = _; have := hlen.out; simp [formsB]; omega, Below.refl _ _⟩
    case round =>
      obtain ⟨j, hj, hk, rfl, hq, hb⟩ := hrel
      by_cases hlt : j < n
      · obtain ⟨b, off, ha, hL, hbU, hc⟩ := H.at_ (by omega)
        subst ha
        obtain ⟨x, he, hsz, hat⟩ := hc j hlt
        obtain ⟨d0, d1, d2, d3, d4, d5, d6⟩ := hat.of_block (hb.block b (by omega))
        have hlt' : (j : Int) < (n : Int) := by omega
        have HQ : Hid (formsB ops = (opOk x && (ops.drop (j + 1)).all opOk)) := by show _ = _; rw [hq.out, drop_cons he, List.all_cons]
        have HOK := fun w => opOk_any x w hsz.name hsz.name2 hsz.text
        simp only [LOp.val] at HOK
        clear he hc hq hat H
        go_wp2_with fail
        refine (HOK _).mono ?_
        rintro e w1 ⟨rfl, rfl⟩
        rcases hx : opOk x with _ | _
        · have HY : Hid (formsB ops = false) := by show _ = _; rw [HQ.out, hx]; rfl
          clear HOK HQ
          go_wp2_with fail
          go_ret
          exact ⟨ret_bool HY.out.symm, hb.alloc hb.size _⟩
        · have HY : Hid (formsB ops = (ops.drop (j + 1)).all opOk) := by show _ = _; rw [HQ.out, hx]; rfl
          clear HOK HQ
          go_wp2_with fail
          go_roundg (n - (j + 1))
          case measure => have := hk.out; omega
          case rel => exact ⟨j + 1, by omega, rfl, by go_num, HY.out, hb.alloc hb.size _⟩
      · have HN : Hid (formsB ops = true) := by
          show _ = _
          rw [hq.out, List.drop_of_length_le (by have := hlen.out; omega)]; rfl
        go_wp2_with fail
        go_ret
        exact ⟨ret_bool HN.out.symm, hb⟩

end Go.Proofs.YtnolbfijcnldjaaGreatDoor

/- Lists that are made shorter: the specification, what goes again. -/
namespace Go.Proofs.YtnolbfijcnldjaaGreatDoor
open Go.RowKit

/-! append of a whole list. -/
theorem OpsAt.cells {w : World} {L U b off n : Nat} {ops : List LOp} (H : OpsAt w L U (some ⟨b, off, none⟩) n ops) : ∀ j u, (opCells ops)[j]? = some u → w.cell? ((⟨b, off, none⟩ : Addr).add j) = some u := by
  intro j u hu
  have hadd : (⟨b, off, none⟩ : Addr).add j = ⟨b, off + j, none⟩ := by unfold Addr.add; split <;> simp_all
  rw [hadd]
  have hj := (List.getElem?_eq_some_iff.1 hu).1
  rw [opCells_len] at hj
  have hl := H.len
  obtain ⟨b', off', ha, _, _, hc⟩ := H.at_ (by omega)
  simp only [Option.some.injEq, Addr.mk.injEq, and_true] at ha
  obtain ⟨rfl, rfl⟩ := ha
  obtain ⟨o, ho, _, hat⟩ := hc (j / 7) (by omega)
  have hv : ∀ t v, t < 7 → j = j / 7 * 7 + t → o.val[t]? = some v → u = v := fun t v ht e hv => by
    have := opCells_at ops (j / 7) o ho t v hv
    rw [← e, hu] at this
    exact Option.some.inj this
  have e7 : j = j / 7 * 7 + j % 7 := by omega
  have hm : j % 7 < 7 := Nat.mod_lt _ (by omega)
  generalize j % 7 = t at e7 hm
  match t, hm with
  | 0, _ => rw [hv 0 _ (by omega) e7 (by simp [LOp.val]; rfl), e7, ← Nat.add_assoc]; exact hat.c0
  | 1, _ => rw [hv 1 _ (by omega) e7 (by simp [LOp.val]; rfl), e7, ← Nat.add_assoc]; exact hat.c1
  | 2, _ => rw [hv 2 _ (by omega) e7 (by simp [LOp.val]; rfl), e7, ← Nat.add_assoc]; exact hat.c2
  | 3, _ => rw [hv 3 _ (by omega) e7 (by simp [LOp.val]; rfl), e7, ← Nat.add_assoc]; exact hat.c3
  | 4, _ => rw [hv 4 _ (by omega) e7 (by simp [LOp.val]; rfl), e7, ← Nat.add_assoc]; exact hat.c4
  | 5, _ => rw [hv 5 _ (by omega) e7 (by simp [LOp.val]; rfl), e7, ← Nat.add_assoc]; exact hat.c5
  | 6, _ => rw [hv 6 _ (by omega) e7 (by simp [LOp.val]; rfl), e7, ← Nat.add_assoc]; exact hat.c6
end Go.Proofs.YtnolbfijcnldjaaGreatDoor

/- Lists that are made shorter: the specification, what is moved on. -/
namespace Go.Proofs.YtnolbfijcnldjaaGreatDoor
open Go.RowKit

theorem OwnOps.one {W : World} {o : LOp} {B q : Nat} (hB : B ≤ W.heap.size) (hq : q = W.heap.size) : OwnOps (W.alloc (Obj.cells o.val 27)) B (.slice (some ⟨q, 0, none⟩) 1 1) [o] := by
  subst hq
  have := World.ownsRow_lit (base := B) (e := 27) (size := 7) W o.val 1 hB (by simp [maxLen]) (by simp [LOp.val])
  simpa [OwnOps, opCells] using this
theorem OwnOps.none_ {W : World} {B q : Nat} (hB : B ≤ W.heap.size) (hq : q = W.heap.size) : OwnOps (W.alloc (Obj.cells #[] 27)) B (.slice (some ⟨q, 0, none⟩) 0 0) [] := by
  subst hq
  exact OwnOps.empty W B hB
theorem OpsAt.none_ (w : World) (L U : Nat) (a : Option Addr) : OpsAt w L U a 0 [] := ⟨rfl, by simp [maxLen], fun h => absurd rfl h⟩
theorem OpsAt.drop_ {w : World} {L U b off n k : Nat} {ops : List LOp} (H : OpsAt w L U (some ⟨b, off, none⟩) n ops) (hk : k ≤ n) : OpsAt w L U (some ⟨b, off + k * 7, none⟩) (n - k) (ops.drop k) := by
  have hl := H.len
  have hbd := H.bd
  refine ⟨by simp; omega, by omega, fun hn => ?_⟩
  obtain ⟨b', off', ha, hL, hU, hc⟩ := H.at_ (by omega)
  simp only [Option.some.injEq, Addr.mk.injEq, and_true] at ha
  obtain ⟨rfl, rfl⟩ := ha
  refine ⟨_, _, rfl, hL, hU, fun i hi => ?_⟩
  obtain ⟨o, ho, hs, hat⟩ := hc (k + i) (by omega)
  refine ⟨o, by simpa using ho, hs, ?_⟩
  have e : off + k * 7 + i * 7 = off + (k + i) * 7 := by omega
  rw [e]
  exact hat
theorem OpsAt.grown {w w' : World} {L U : Nat} {a : Option Addr} {n : Nat} {ops : List LOp} {row : Option Nat} (H : OpsAt w L U a n ops) (hg : w.grownBy w' row) (hne : ∀ k, row = some k → k < L) (hU : U ≤ w.heap.size) : OpsAt w' L U a n ops :=
  ⟨H.len, H.bd, fun hn => by
    obtain ⟨b, off, ha, hL, hbU, hc⟩ := H.at_ hn
    refine ⟨b, off, ha, hL, hbU, fun i hi => ?_⟩
    obtain ⟨o, ho, hs, h0⟩ := hc i hi
    exact ⟨o, ho, hs, h0.of_block (hg.block b (by omega) (fun e => by have := hne b e.symm; omega))⟩⟩
theorem OwnOps.cut {w : World} {B g n cap k : Nat} {l : List LOp} (h : OwnOps w B (.slice (some ⟨g, 0, none⟩) n cap) l) (hn : n = l.length) (hk : k ≤ n) : OwnOps w B (.slice (some ⟨g, 0, none⟩) k cap) (l.take k) := by
  subst hn
  have hl : (l.take k).length = k := by simp; omega
  refine ⟨by rw [opCells_len], .inr ?_⟩
  rcases h.2 with ⟨h', _⟩ | ⟨g', cap', cur, h', hb, hg, hnc, hcm, hcs, htake⟩
  · simp at h'
  · simp only [Value.slice.injEq, Option.some.injEq, Addr.mk.injEq, and_true, true_and] at h'
    obtain ⟨rfl, rfl⟩ := h'
    refine ⟨g, cap, cur, by rw [hl], hb, hg, by omega, hcm, hcs, ?_⟩
    have e1 : opCells l = opCells (l.take k) ++ opCells (l.drop k) := by rw [← opCells_app, List.take_append_drop]
    have e2 : cur.toList.take (k * 7) = (cur.toList.take (l.length * 7)).take (k * 7) := by rw [List.take_take]; congr 1; omega
    rw [hl, e2, htake, e1, List.take_left' (by rw [opCells_len, hl])]
end Go.Proofs.YtnolbfijcnldjaaGreatDoor

/- Lists that are made shorter: the specification, what is moved on, again and again. -/
namespace Go.Proofs.YtnolbfijcnldjaaGreatDoor
open Go.RowKit

theorem OwnOps.form_ {w : World} {B : Nat} {v : Value} {l : List LOp} (h : OwnOps w B v l) (hn : 0 < l.length) : ∃ g cap, v = .slice (some ⟨g, 0, none⟩) l.length cap ∧ B ≤ g ∧ g < w.heap.size ∧ l.length ≤ cap := by
  rcases h.2 with ⟨_, h0⟩ | ⟨g, cap, cur, rfl, hb, hg, hnc, _⟩
  · omega
  · exact ⟨g, cap, rfl, hb, (Array.getElem?_eq_some_iff.1 hg).1, hnc⟩
end Go.Proofs.YtnolbfijcnldjaaGreatDoor

/- Lists that are made shorter: the specification, whole. -/
namespace Go.Proofs.YtnolbfijcnldjaaGreatDoor
open Go.RowKit

theorem OwnOps.base {w : World} {B B' : Nat} {v : Value} {l : List LOp} (h : OwnOps w B v l) (hB : B' ≤ B) : OwnOps w B' v l :=
  ⟨h.1, by
    rcases h.2 with h | ⟨g, cap, cu, h1, h2, h3⟩
    · exact .inl h
    · exact .inr ⟨g, cap, cu, h1, by omega, h3⟩⟩
theorem SlimEnd.later {w w1 w' : World} {r : List LOp} {e : Ending} (h : SlimEnd w1 r e w') (hb : Below w.heap.size w w1) : SlimEnd w r e w' := by
  obtain ⟨⟨v, rfl, ho⟩, hb'⟩ := h
  exact ⟨⟨v, rfl, ho.base hb.size⟩, hb.trans (hb'.mono hb.size)⟩

end Go.Proofs.YtnolbfijcnldjaaGreatDoor

/- Lists that are made shorter: the program: what is deleted. -/
namespace Go.Proofs.YtnolbfijcnldjaaGreatDoor
open Go.RowKit

end Go.Proofs.YtnolbfijcnldjaaGreatDoor

/- Lists that are made shorter: the program: texts. -/
namespace Go.Proofs.YtnolbfijcnldjaaGreatDoor
open Go.RowKit

set_option maxHeartbeats 1000000 in
theorem listOk_any (a : Option Addr) (n c : Nat) (ops : List LOp) (L U : Nat) (w : World) (hU : U ≤ w.heap.size) (H : OpsAt w L U a n ops) :
    Calls Tryz.prog 83 #[.slice a n c] w fun e w' => e = .returned (.bool (formsB ops)) ∧ Below w.heap.size w w' := by
  have hbd := H.bd
  have hlen : Hid (n = ops.length) := H.len
  unfold maxLen at hbd
  by_cases h60 : 60 < n
  · have h60' : (60 : Int) < (n : Int) := by omega
    go_enter Tryz.func83, Tryz.ntmps83
    go_wp2_with fail
    go_ret
    exact ⟨ret_bool (by have := hlen.out; simp [formsB]; omega), Below.refl _ _⟩
  · have h60' : ¬ (60 : Int) < (n : Int) := by omega
    go_enter Tryz.func83, Tryz.ntmps83
    go_wp2_with fail
    go_loopg [10] n (fun g k wr => ∃ j : Nat, j ≤ n ∧ Hid (g = n - j) ∧ k = .int .i64 j ∧ Hid (formsB ops = (ops.drop j).all opOk) ∧ Below w.heap.size w wr)
    case atStart => exact ⟨0, Nat.zero_le _, rfl, rfl, by show _ = _; have := hlen.out; simp [formsB]; omega, Below.refl _ _⟩
    case round =>
      obtain ⟨j, hj, hk, rfl, hq, hb⟩ := hrel
      by_cases hlt : j < n
      · obtain ⟨b, off, ha, hL, hbU, hc⟩ := H.at_ (by omega)
        subst ha
        obtain ⟨x, he, hsz, hat⟩ := hc j hlt
        obtain ⟨d0, d1, d2, d3, d4, d5, d6⟩ := hat.of_block (hb.block b (by omega))
        have hlt' : (j : Int) < (n : Int) := by omega
        have HQ : Hid (formsB ops = (opOk x && (ops.drop (j + 1)).all opOk)) := by show _ = _; rw [hq.out, drop_cons he, List.all_cons]
        have HOK := fun w => implOpOk x w hsz
        simp only [LOp.val] at HOK
        clear he hc hq hat H
        go_wp2_with fail
        refine (HOK _).mono ?_
        rintro e w1 ⟨rfl, hb1⟩
        have hbb : Below w.heap.size w w1 := (hb.alloc hb.size _).trans (hb1.mono (by have := hb.size; simp; omega))
        rcases hx : opOk x with _ | _
        · have HY : Hid (formsB ops = false) := by show _ = _; rw [HQ.out, hx]; rfl
          clear HOK HQ
          go_wp2_with fail
          go_ret
          exact ⟨ret_bool HY.out.symm, hbb⟩
        · have HY : Hid (formsB ops = (ops.drop (j + 1)).all opOk) := by show _ = _; rw [HQ.out, hx]; rfl
          clear HOK HQ
          go_wp2_with fail
          go_roundg (n - (j + 1))
          case measure => have := hk.out; omega
          case rel => exact ⟨j + 1, by omega, rfl, by go_num, HY.out, hbb⟩
      · have HN : Hid (formsB ops = true) := by
          show _ = _
          rw [hq.out, List.drop_of_length_le (by have := hlen.out; omega)]; rfl
        go_wp2_with fail
        go_ret
        exact ⟨ret_bool HN.out.symm, hb⟩

end Go.Proofs.YtnolbfijcnldjaaGreatDoor

/- Lists that are made shorter: the program: what goes again. -/
namespace Go.Proofs.YtnolbfijcnldjaaGreatDoor
open Go.RowKit

def GoEnd (g : Int) (e : Ending) : Prop := e = .returned (.tuple #[.int .i64 (if 0 ≤ g then g else 0), .bool (decide (0 ≤ g))])
theorem GoEnd.no {e : Ending} (h : e = .returned (.tuple #[.int .i64 0, .bool false])) : GoEnd (-1) e := by subst h; rfl
end Go.Proofs.YtnolbfijcnldjaaGreatDoor

/- Lists that are made shorter: the program: what goes again is taken out. -/
namespace Go.Proofs.YtnolbfijcnldjaaGreatDoor
open Go.RowKit

end Go.Proofs.YtnolbfijcnldjaaGreatDoor

/- Lists that are made shorter: the program: what goes again, one at a time. -/
namespace Go.Proofs.YtnolbfijcnldjaaGreatDoor
open Go.RowKit

end Go.Proofs.YtnolbfijcnldjaaGreatDoor

/- Lists that are made shorter: the program: a rule again and again; pairs. -/
namespace Go.Proofs.YtnolbfijcnldjaaGreatDoor
open Go.RowKit

end Go.Proofs.YtnolbfijcnldjaaGreatDoor

/- Lists that are made shorter: the program: where something is then. -/
namespace Go.Proofs.YtnolbfijcnldjaaGreatDoor
open Go.RowKit

end Go.Proofs.YtnolbfijcnldjaaGreatDoor

/- Lists that are made shorter: the program: what moves on. -/
namespace Go.Proofs.YtnolbfijcnldjaaGreatDoor
open Go.RowKit

structure BoxAt (w : World) (q : Nat) (o : LOp) : Prop where
  c0 : w.cell? ⟨q, 0, none⟩ = some (.int .i64 o.kind)
  c1 : w.cell? ⟨q, 1, none⟩ = some (.int .i64 o.dir)
  c2 : w.cell? ⟨q, 2, none⟩ = some (.string o.name)
  c3 : w.cell? ⟨q, 3, none⟩ = some (.int .i64 o.dir2)
  c4 : w.cell? ⟨q, 4, none⟩ = some (.string o.name2)
  c5 : w.cell? ⟨q, 5, none⟩ = some (.int .i64 o.id)
  c6 : w.cell? ⟨q, 6, none⟩ = some (.string o.text)
theorem BoxAt.of {w w' : World} {q : Nat} {o : LOp} (h : BoxAt w q o) (e : w'.heap[q]? = w.heap[q]?) : BoxAt w' q o := by
  have hc : ∀ j, w'.cell? ⟨q, j, none⟩ = w.cell? ⟨q, j, none⟩ := fun j => World.cell?_of_block (w := w) e
  exact ⟨by rw [hc]; exact h.c0, by rw [hc]; exact h.c1, by rw [hc]; exact h.c2, by rw [hc]; exact h.c3, by rw [hc]; exact h.c4, by rw [hc]; exact h.c5, by rw [hc]; exact h.c6⟩
end Go.Proofs.YtnolbfijcnldjaaGreatDoor

/- Lists that are made shorter: the program: what moves on from where it was put. -/
namespace Go.Proofs.YtnolbfijcnldjaaGreatDoor
open Go.RowKit

/-- Taken first, the frame and the list of what came up written out. -/
theorem takeH {P : Program} {md : Region.Mode} {ops : Array Oper} {Q : Exit → Act → World → Prop} {S : World → Prop} {i : Nat} {oi : Oper} {v : Value} {fuel : Nat} {listed : Array Bool} {a : Act} {w : World} (d : Nat) (l2 : Array Bool) (hi : ops[i]? = some oi)
    (hs : Region.noSelect ops = true) (hf : Region.free md ops listed i = true) (hr : (Region.ready md ops listed).contains i = true)
    (hd : oi.dst = some d) (hl : listed.setIfInBounds i true = l2) (hQ : ∀ c a w, Q (.panic c) (a.put oi.dst v) w → Q (.panic c) a w) (hy : YieldsIf P ops S oi v a) (hS : S w)
    (h : wpAnyH P md ops Q S fuel l2 (a.put (some d) v) w) : wpAnyH P md ops Q S (fuel + 1) listed a w :=
  wpAnyH_take hi hs hf hr hQ hy hS (by rw [hl, hd]; exact h)
theorem listH {P : Program} {md : Region.Mode} {ops : Array Oper} {Q : Exit → Act → World → Prop} {S : World → Prop} {fuel : Nat} {listed l2 : Array Bool} {a : Act} {w : World} (hl : listed = l2) (h : wpAnyH P md ops Q S fuel l2 a w) : wpAnyH P md ops Q S fuel listed a w := by
  rw [hl]; exact h

end Go.Proofs.YtnolbfijcnldjaaGreatDoor

/- Lists that are made shorter: the program: what moves on, whole; lists with one put anew. -/
namespace Go.Proofs.YtnolbfijcnldjaaGreatDoor
open Go.RowKit

/-! A row of what is done, read and written. -/
/-! What is left when one goes, or both. -/
end Go.Proofs.YtnolbfijcnldjaaGreatDoor

/- Lists that are made shorter: the program: steps of a region that make and fill boxes. -/
namespace Go.Proofs.YtnolbfijcnldjaaGreatDoor
open Go.RowKit

def zrow (z : Array Value) (i : Nat) : Value := z[i]?.getD default
theorem zrow_new (W : World) (z : Array Value) (t : TypeId) : (W.alloc (.cells z t)).rowIs W.heap.size t z.size (zrow z) := World.rowIs_alloc W z t (zrow z) (fun i hi => by unfold zrow; rw [Array.getElem?_eq_getElem hi]; rfl)
section
variable {ops : Array Oper} {ac : Act} {K : Act → World → Prop} {Q : Exit → Act → World → Prop} {E : Prop} {ty : TypeId} {ps : String} {af : Array Edge}
theorem st_alloc30 (W : World) (d : Nat)
    (h : ∀ q W', q = W.heap.size → Below W.heap.size W W' → W'.rowIs q 27 7 (zrow #[.int .i64 0, .int .i64 0, .string ⟨#[]⟩, .int .i64 0, .string ⟨#[]⟩, .int .i64 0, .string ⟨#[]⟩]) → K (ac.put (some d) (.pointer (some ⟨q, 0, none⟩))) W') :
    if Region.wanted { dst := some d, op := .alloc 27, type := ty, pos := ps, after := af, guard := none } (yielded ops ac.tmps) = true then Oper.wp Tryz.prog { dst := some d, op := .alloc 27, type := ty, pos := ps, after := af, guard := none } ac W K Q else E := by
  rw [if_pos (by simp [Region.wanted])]
  have := h W.heap.size (W.alloc (.cells #[.int .i64 0, .int .i64 0, .string ⟨#[]⟩, .int .i64 0, .string ⟨#[]⟩, .int .i64 0, .string ⟨#[]⟩] 27)) rfl ((Below.refl _ _).alloc (Nat.le_refl _) _) (zrow_new W _ 27)
  unfold Oper.wp
  go_simp
  exact this
theorem st_store30 (W : World) (tp tv : Nat) (q k : Nat) (x : LOp) (nn : Nat) (f : Nat → Value) (hp : ac.tmps[tp]?.getD undef = .pointer (some ⟨q, k, none⟩)) (hv : ac.tmps[tv]?.getD undef = .agg x.val) (hr : W.rowIs q 27 nn f) (hk : k + 7 ≤ nn)
    (hold : ∃ o : LOp, f k = .int .i64 o.kind ∧ f (k + 1) = .int .i64 o.dir ∧ f (k + 2) = .string o.name ∧ f (k + 3) = .int .i64 o.dir2 ∧ f (k + 4) = .string o.name2 ∧ f (k + 5) = .int .i64 o.id ∧ f (k + 6) = .string o.text)
    (h : ∀ W', But q W W' → W'.rowIs q 27 nn (fun i => if i = k + 6 then .string x.text else if i = k + 5 then .int .i64 x.id else if i = k + 4 then .string x.name2 else if i = k + 3 then .int .i64 x.dir2 else if i = k + 2 then .string x.name else if i = k + 1 then .int .i64 x.dir else if i = k then .int .i64 x.kind else f i) → K ac W') :
    if Region.wanted { dst := none, op := .store 27 (.tmp tp) (.tmp tv), type := ty, pos := ps, after := af, guard := none } (yielded ops ac.tmps) = true then Oper.wp Tryz.prog { dst := none, op := .store 27 (.tmp tp) (.tmp tv), type := ty, pos := ps, after := af, guard := none } ac W K Q else E := by
  rw [if_pos (by simp [Region.wanted])]
  obtain ⟨o, o0, o1, o2, o3, o4, o5, o6⟩ := hold
  have c0 : W.cell? ⟨q, k, none⟩ = some (.int .i64 o.kind) := by rw [hr.cell (by omega), o0]
  have c1 : W.cell? ⟨q, k + 1, none⟩ = some (.int .i64 o.dir) := by rw [hr.cell (by omega), o1]
  have c2 : W.cell? ⟨q, k + 2, none⟩ = some (.string o.name) := by rw [hr.cell (by omega), o2]
  have c3 : W.cell? ⟨q, k + 3, none⟩ = some (.int .i64 o.dir2) := by rw [hr.cell (by omega), o3]
  have c4 : W.cell? ⟨q, k + 4, none⟩ = some (.string o.name2) := by rw [hr.cell (by omega), o4]
  have c5 : W.cell? ⟨q, k + 5, none⟩ = some (.int .i64 o.id) := by rw [hr.cell (by omega), o5]
  have c6 : W.cell? ⟨q, k + 6, none⟩ = some (.string o.text) := by rw [hr.cell (by omega), o6]
  have z0 : W.frozen? ⟨q, k, none⟩ = false := hr.frozen _
  have z1 : W.frozen? ⟨q, k + 1, none⟩ = false := hr.frozen _
  have z2 : W.frozen? ⟨q, k + 2, none⟩ = false := hr.frozen _
  have z3 : W.frozen? ⟨q, k + 3, none⟩ = false := hr.frozen _
  have z4 : W.frozen? ⟨q, k + 4, none⟩ = false := hr.frozen _
  have z5 : W.frozen? ⟨q, k + 5, none⟩ = false := hr.frozen _
  have z6 : W.frozen? ⟨q, k + 6, none⟩ = false := hr.frozen _
  have := h (((((((W.setCell ⟨q, k, none⟩ (.int .i64 x.kind)).setCell ⟨q, k + 1, none⟩ (.int .i64 x.dir)).setCell ⟨q, k + 2, none⟩ (.string x.name)).setCell ⟨q, k + 3, none⟩ (.int .i64 x.dir2)).setCell ⟨q, k + 4, none⟩ (.string x.name2)).setCell ⟨q, k + 5, none⟩ (.int .i64 x.id)).setCell ⟨q, k + 6, none⟩ (.string x.text))
    (((((((But.refl q W).set _ _).set _ _).set _ _).set _ _).set _ _).set _ _ |>.set _ _)
    (((((((hr.set k _).set (k + 1) _).set (k + 2) _).set (k + 3) _).set (k + 4) _).set (k + 5) _).set (k + 6) _)
  clear h hr o0 o1 o2 o3 o4 o5 o6
  simp only [LOp.val] at hv
  unfold Oper.wp
  go_simp
  exact this
end
end Go.Proofs.YtnolbfijcnldjaaGreatDoor

/- Lists of what is done: compared. -/
namespace Go.Proofs.YtnolbfijcnldjaaGreatDoor
open Go.RowKit

end Go.Proofs.YtnolbfijcnldjaaGreatDoor

/- Lists of what is done as answers: marked, held. -/
namespace Go.Proofs.YtnolbfijcnldjaaGreatDoor
open Go.RowKit

/-- A list of what is done in a row of its own. -/
def OpRow (w : World) (B : Nat) (a : Option Addr) (n g cap : Nat) (f : Nat → Value) : Prop := n ≠ 0 → a = some ⟨g, 0, none⟩ ∧ B ≤ g ∧ n ≤ cap ∧ w.rowIs g 27 (cap * 7) f
def OpCell (f : Nat → Value) (i : Nat) : Prop := ∃ o : LOp, opF f i o
theorem OwnOps.row {w : World} {B : Nat} {v : Value} {l : List LOp} (h : OwnOps w B v l) : ∃ a c g cap f, v = .slice a l.length c ∧ B ≤ g ∧ OpRow w B a l.length g cap f ∧ ∀ i, i < l.length → OpCell f i := by
  rcases h.2 with ⟨rfl, h0⟩ | ⟨g, cap, cur, rfl, hb, hg, hnc, hcm, hcs, htake⟩
  · exact ⟨none, 0, B, 0, fun _ => default, by rw [h0], Nat.le_refl _, fun hn => absurd h0 hn, fun i hi => by omega⟩
  · refine ⟨_, cap, g, cap, fun i => cur[i]?.getD default, rfl, hb, fun _ => ⟨rfl, hb, hnc, ⟨cur, hg, by omega, fun i hi => by simp [Array.getElem?_eq_getElem (show i < cur.size by omega)]⟩⟩, fun i hi => ⟨l[i], ?_⟩⟩
    have hq : ∀ t u, t < 7 → (l[i]).val[t]? = some u → cur[i * 7 + t]?.getD default = u := fun t u ht hu => by
      have h1 := opCells_at l i l[i] (by simp [hi]) t u hu
      rw [← htake, List.getElem?_take_of_lt (by omega)] at h1
      simp at h1
      simp [h1]
    exact ⟨by simpa using hq 0 _ (by omega) (by simp [LOp.val]), hq 1 _ (by omega) (by simp [LOp.val]), hq 2 _ (by omega) (by simp [LOp.val]), hq 3 _ (by omega) (by simp [LOp.val]), hq 4 _ (by omega) (by simp [LOp.val]), hq 5 _ (by omega) (by simp [LOp.val]), hq 6 _ (by omega) (by simp [LOp.val])⟩
theorem OpRow.at_ {w : World} {B : Nat} {a : Option Addr} {n g cap : Nat} {f : Nat → Value} (H : OpRow w B a n g cap f) {i : Nat} (hi : i < n) {o : LOp} (h : opF f i o) : a = some ⟨g, 0, none⟩ ∧ g < w.heap.size ∧ OpAt w g (i * 7) o := by
  obtain ⟨h1, _, h3, h4⟩ := H (by omega)
  obtain ⟨q0, q1, q2, q3, q4, q5, q6⟩ := h
  exact ⟨h1, h4.lt, by rw [h4.cell (by omega), q0], by rw [h4.cell (by omega), q1], by rw [h4.cell (by omega), q2], by rw [h4.cell (by omega), q3], by rw [h4.cell (by omega), q4], by rw [h4.cell (by omega), q5], by rw [h4.cell (by omega), q6]⟩
end Go.Proofs.YtnolbfijcnldjaaGreatDoor

/- Lists of what is done as answers: what the exact laws ask. -/
namespace Go.Proofs.YtnolbfijcnldjaaGreatDoor
open Go.RowKit

theorem OpsAt.but {w w' : World} {L U b : Nat} {a : Option Addr} {n : Nat} {ops : List LOp} (H : OpsAt w L U a n ops) (hb : But b w w') (hU : U ≤ w.heap.size) (hne : b < L ∨ U ≤ b) : OpsAt w' L U a n ops :=
  ⟨H.len, H.bd, fun hn => by
    obtain ⟨g, off, ha, hL, hbU, hc⟩ := H.at_ hn
    refine ⟨g, off, ha, hL, hbU, fun i hi => ?_⟩
    obtain ⟨o, ho, hs, h0⟩ := hc i hi
    exact ⟨o, ho, hs, h0.of_block (hb.block g (by omega) (by omega))⟩⟩
theorem OwnOps.but {w w' : World} {B b : Nat} {v : Value} {l : List LOp} (h : OwnOps w B v l) (hb : But b w w') (hlt : b < B) : OwnOps w' B v l := by
  refine ⟨h.1, ?_⟩
  rcases h.2 with hn | ⟨g, cap, cur, rfl, hB, hgg, rest⟩
  · exact .inl hn
  · refine .inr ⟨g, cap, cur, rfl, hB, ?_, rest⟩
    rw [hb.block g (by omega) (Array.getElem?_eq_some_iff.1 hgg).1]
    exact hgg
theorem OpRow.next {w w' : World} {B : Nat} {a : Option Addr} {n g cap : Nat} {f : Nat → Value} (h : OpRow w B a n g cap f) (hb : Below w.heap.size w w') : OpRow w' B a n g cap f := fun hn => by
  obtain ⟨h1, h2, h3, h4⟩ := h hn
  exact ⟨h1, h2, h3, h4.of_block (hb.block g h4.lt)⟩
theorem But.under {B b : Nat} {w0 w w' : World} (h : Below B w0 w) (hb : But b w w') (hB : B ≤ b) : Below B w0 w' := h.trans (hb.below.mono hB)

end Go.Proofs.YtnolbfijcnldjaaGreatDoor

/- A long list as it is drawn: what holds in the midst of it. -/
namespace Go.Proofs.YtnolbfijcnldjaaGreatDoor
open Go.RowKit

/-- In the midst of drawing: the reader, the boxes, the tree, what was done. -/
structure LS (w W : World) (rb P q2 q4 q5 b c K : Nat) (u : Value) (os : List LObj) (vs : Nat → Value) (out : List LOp) : Prop where
  lo : rb < w.heap.size
  but : But rb w W
  rd : RdTo W rb P
  r2 : ∃ f, W.rowIs q2 25 1 f
  r4 : ∃ a n c, W.rowIs q4 25 1 (fun _ => .slice a n c)
  r5 : W.rowIs q5 25 1 (fun _ => .slice (some ⟨b, 0, none⟩) 32 c)
  l2 : w.heap.size ≤ q2
  l4 : w.heap.size ≤ q4
  l5 : w.heap.size ≤ q5
  n25 : q2 ≠ q5
  n45 : q4 ≠ q5
  tree : OwnT W w.heap.size b c os vs
  len : os.length = 32
  sm : Sm os K
  list : OwnOps W w.heap.size u out
  lsm : ∀ o ∈ out, DoneOp o
section
variable {w W W' : World} {rb P P' q2 q4 q5 b c K : Nat} {u v : Value} {os : List LObj} {vs : Nat → Value} {out news : List LOp}
theorem LS.next (h : LS w W rb P q2 q4 q5 b c K u os vs out) (hb : But rb W W') (hr : RdTo W' rb P') : LS w W' rb P' q2 q4 q5 b c K u os vs out := by
  obtain ⟨f2, h2⟩ := h.r2
  obtain ⟨a4', n4, c4, h4⟩ := h.r4
  have hlo := h.lo
  have a2 := h.l2
  have a4 := h.l4
  have a5 := h.l5
  exact ⟨h.lo, h.but.trans hb, hr, ⟨f2, h2.of_block (hb.block _ (by omega) h2.lt)⟩, ⟨a4', n4, c4, h4.of_block (hb.block _ (by omega) h4.lt)⟩, h.r5.of_block (hb.block _ (by omega) h.r5.lt), h.l2, h.l4, h.l5, h.n25, h.n45, h.tree.but hb h.lo, h.len, h.sm,
    World.ownsRow.kept h.list hb.grown (.inr fun e => by have := (h.list.lt rb e).1; omega), h.lsm⟩
theorem LS.on (h : LS w W rb P q2 q4 q5 b c K u os vs out) {K' : Nat} (hP : P ≤ P') (hK : K ≤ K') : LS w W rb P' q2 q4 q5 b c K' u os vs out := by
  obtain ⟨q, hq, R⟩ := h.rd
  exact ⟨h.lo, h.but, ⟨q, by omega, R⟩, h.r2, h.r4, h.r5, h.l2, h.l4, h.l5, h.n25, h.n45, h.tree, h.len, h.sm.mono hK, h.list, h.lsm⟩
theorem LS.size (h : LS w W rb P q2 q4 q5 b c K u os vs out) : w.heap.size < W.heap.size := by have := h.r5.lt; have := h.l5; omega
theorem LS.store {b' c' K' : Nat} {os' : List LObj} {vs' : Nat → Value} (h : LS w W rb P q2 q4 q5 b c K u os vs out) (hT : OwnT W w.heap.size b' c' os' vs') (hl : os'.length = 32) (hs : Sm os' K') : LS w (W.setCell ⟨q5, 0, none⟩ (.slice (some ⟨b', 0, none⟩) 32 c')) rb P q2 q4 q5 b' c' K' u os' vs' out := by
  obtain ⟨f2, h2⟩ := h.r2
  obtain ⟨a4', n4, c4, h4⟩ := h.r4
  obtain ⟨q, hq, R⟩ := h.rd
  have a5 := h.l5
  have hlo := h.lo
  have hg : W.grownBy (W.setCell ⟨q5, 0, none⟩ (.slice (some ⟨b', 0, none⟩) 32 c')) (some q5) := ⟨rfl, rfl, rfl, by simp, fun i _ hi => Below.heap_setCell W ⟨q5, 0, none⟩ _ i (by intro e; exact hi (by simp [e]))⟩
  have hA0 : Below w.heap.size W (W.setCell ⟨q5, 0, none⟩ (.slice (some ⟨b', 0, none⟩) 32 c')) := (Below.refl _ _).setCell (by simpa using h.l5) _
  have hneq : u.ownBlock ≠ some q5 := fun e => by
    rcases h.list.2 with ⟨hn, _⟩ | ⟨g, cap, cur, hn, _, hgg, _⟩
    · rw [hn] at e; simp [Value.ownBlock] at e
    · rw [hn] at e
      simp [Value.ownBlock] at e
      subst e
      obtain ⟨cs, h1, _⟩ := h.r5
      rw [hgg] at h1
      simp at h1
  refine ⟨h.lo, ⟨h.but.below.trans (hA0.mono (by omega)), fun k hk hlt => (hA0.block k hlt).trans (h.but.block k hk hlt)⟩, ⟨q, hq, R.below hA0 h.lo⟩, ⟨f2, h2.of_block (Below.heap_setCell W ⟨q5, 0, none⟩ _ _ (by simpa using h.n25))⟩, ⟨a4', n4, c4, h4.of_block (Below.heap_setCell W ⟨q5, 0, none⟩ _ _ (by simpa using h.n45))⟩, ?_, h.l2, h.l4, h.l5, h.n25, h.n45, hT.setBox ⟨_, h.r5⟩ 0 _, hl, hs, World.ownsRow.kept h.list hg (.inr hneq), h.lsm⟩
  refine (h.r5.set 0 _).congr fun i hi => ?_
  have : i = 0 := by omega
  subst this
  rfl
end
section
variable {ops : Array Oper} {ac : Act} {K : Act → World → Prop} {Q : Exit → Act → World → Prop} {E : Prop} {ty : TypeId} {ps : String} {af : Array Edge}
theorem st_alloc53 (W : World) (d : Nat)
    (h : ∀ q W', q = W.heap.size → Below W.heap.size W W' → W'.rowIs q 25 1 (zrow #[.slice none 0 0]) → K (ac.put (some d) (.pointer (some ⟨q, 0, none⟩))) W') :
    if Region.wanted { dst := some d, op := .alloc 25, type := ty, pos := ps, after := af, guard := none } (yielded ops ac.tmps) = true then Oper.wp Tryz.prog { dst := some d, op := .alloc 25, type := ty, pos := ps, after := af, guard := none } ac W K Q else E := by
  rw [if_pos (by simp [Region.wanted])]
  have := h W.heap.size (W.alloc (.cells #[.slice none 0 0] 25)) rfl ((Below.refl _ _).alloc (Nat.le_refl _) _) (zrow_new W _ 25)
  unfold Oper.wp
  go_simp
  exact this
theorem st_store53 (W : World) (tp tv : Nat) (q : Nat) (x : Value) (f : Nat → Value) (hp : ac.tmps[tp]?.getD undef = .pointer (some ⟨q, 0, none⟩)) (a : Option Addr) (n c : Nat) (hx : x = .slice a n c) (hv : ac.tmps[tv]?.getD undef = .agg #[x]) (hr : W.rowIs q 25 1 f)
    (h : ∀ W', But q W W' → W' = W.setCell ⟨q, 0, none⟩ x → W'.cell? ⟨q, 0, none⟩ = some x → K ac W') :
    if Region.wanted { dst := none, op := .store 25 (.tmp tp) (.tmp tv), type := ty, pos := ps, after := af, guard := none } (yielded ops ac.tmps) = true then Oper.wp Tryz.prog { dst := none, op := .store 25 (.tmp tp) (.tmp tv), type := ty, pos := ps, after := af, guard := none } ac W K Q else E := by
  rw [if_pos (by simp [Region.wanted])]
  subst hx
  have c0 := hr.cell (i := 0) (by omega)
  have z0 := hr.frozen 0
  have r2 := hr.set 0 (.slice a n c)
  have := h (W.setCell ⟨q, 0, none⟩ (.slice a n c)) ((But.refl q W).set _ _) rfl (by rw [r2.cell (by omega)]; rfl)
  clear h hr r2
  unfold Oper.wp
  go_simp
  exact this
end
end Go.Proofs.YtnolbfijcnldjaaGreatDoor


/- A long list as it is drawn: more steps. -/
namespace Go.Proofs.YtnolbfijcnldjaaGreatDoor
open Go.RowKit

section
variable {ops : Array Oper} {ac : Act} {K : Act → World → Prop} {Q : Exit → Act → World → Prop} {E : Prop} {ty : TypeId} {ps : String} {af : Array Edge}
end
theorem BoxAt.next {W W' : World} {q : Nat} {o : LOp} (h : BoxAt W q o) (hq : q < W.heap.size) (hb : Below W.heap.size W W') : BoxAt W' q o := h.of (hb.block q hq)

theorem RdTo.set {V : World} {rb P q : Nat} (h : RdTo V rb P) (hq : rb < q) (x : Value) : RdTo (V.setCell ⟨q, 0, none⟩ x) rb P := by
  obtain ⟨p, hp, R⟩ := h
  exact ⟨p, hp, R.below ((Below.refl q V).setCell (by simp) x) hq⟩
theorem OwnOps.setBox {V : World} {B q : Nat} {l : Value} {ops : List LOp} {f : Nat → Value} (h : OwnOps V B l ops) (hr : V.rowIs q 25 1 f) (x : Value) : OwnOps (V.setCell ⟨q, 0, none⟩ x) B l ops := by
  have hg : V.grownBy (V.setCell ⟨q, 0, none⟩ x) (some q) := ⟨rfl, rfl, rfl, by simp, fun i _ hi => Below.heap_setCell V ⟨q, 0, none⟩ _ i (by intro e; exact hi (by simp [e]))⟩
  refine World.ownsRow.kept h hg (.inr fun e => ?_)
  rcases h.2 with ⟨hn, _⟩ | ⟨g, cap, cur, hn, _, hgg, _⟩
  · rw [hn] at e; simp [Value.ownBlock] at e
  · rw [hn] at e
    simp [Value.ownBlock] at e
    subst e
    obtain ⟨cs, h1, _⟩ := hr
    rw [hgg] at h1
    simp at h1
theorem But.setNew {V0 V : World} {rb q : Nat} (h : But rb V0 V) (hq : V0.heap.size ≤ q) (hr : rb < q) (x : Value) : But rb V0 (V.setCell ⟨q, 0, none⟩ x) :=
  ⟨h.below.trans ((Below.refl _ _).setCell (by show rb ≤ q; omega) x), fun k hk hlt => ((Below.heap_setCell V ⟨q, 0, none⟩ _ k (by show k ≠ q; omega))).trans (h.block k hk hlt)⟩
end Go.Proofs.YtnolbfijcnldjaaGreatDoor


/- A long list as it is drawn. -/
namespace Go.Proofs.YtnolbfijcnldjaaGreatDoor
open Go.RowKit

theorem But.setOther {X W W' : World} {rb q : Nat} (h : But rb X W) (hq : X.heap.size ≤ q) (hr : rb < q) (k : But q W W') : But rb X W' :=
  ⟨h.below.trans (k.below.mono (by omega)), fun i hi hlt => (k.block i (by omega) (by have := h.below.size; omega)).trans (h.block i hi hlt)⟩
theorem RdTo.setOther {W W' : World} {rb P q : Nat} (h : RdTo W rb P) (hr : rb < q) (k : But q W W') : RdTo W' rb P := by
  obtain ⟨p, hp, R⟩ := h
  exact ⟨p, hp, R.below k.below hr⟩

end Go.Proofs.YtnolbfijcnldjaaGreatDoor

/- A list as it is drawn for the laws of shorter lists. -/
namespace Go.Proofs.YtnolbfijcnldjaaGreatDoor
open Go.RowKit

end Go.Proofs.YtnolbfijcnldjaaGreatDoor

/- A code that came in as an argument, opened. -/
namespace Go.Proofs.YtnolbfijcnldjaaGreatDoor
open Go.ChangeShapes Go.WideShapes Go.ChangeAt Go.RowKit
section
variable {H : Type} {enc : TypeId × Value → H} {w : World} {spare : Nat → Bool} {held : Bool}
set_option maxRecDepth 100000 in
theorem open_bytes {r : Reach} {b0 : Nat} {v : Value} {d : DataW H} {p : List MemPlace} (hv : Value.okWide Tryz.prog w r b0 22 v) (h : DataW.Trod enc Tryz.prog w 0 spare held 22 v d p) :
    ∃ a n c zs, v = .slice a n c ∧ n ≤ c ∧ n ≤ maxLen ∧ BytesAt w w.heap.size a n zs := by
  obtain ⟨a0, len0, cap0, rfl⟩ := okWide_slice Tryz.underlying22 hv
  obtain ⟨fuel, hf⟩ := h
  rcases open_ints Tryz.underlying22 Tryz.underlying5 (by kernel_rfl) hf with ⟨hcs, _⟩ | ⟨x, l, c, z0, hcs, _, hl, hm, hz, _, hcell, hwz⟩
  · simp [Value.cells] at hcs
    obtain ⟨rfl, rfl, rfl⟩ := hcs
    exact ⟨none, 0, 0, [], rfl, Nat.le_refl _, Nat.zero_le _, rfl, fun h => absurd rfl h⟩
  · simp [Value.cells] at hcs
    obtain ⟨rfl, rfl, rfl⟩ := hcs
    have hz' : len0 ≤ z0.length := by rw [hz]; split <;> omega
    refine ⟨some x, len0, cap0, z0.take len0, rfl, hl, by omega, by simp; omega, fun hn => ?_⟩
    obtain ⟨b, off, spot⟩ := x
    have hc0 := hcell 0 (by omega)
    have hspot : spot = none := by simpa [Addr.add] using World.cell?_spot hc0
    subst hspot
    refine ⟨b, off, rfl, by have := cell_lt hc0; simpa [Addr.add] using this, fun i hi => ?_⟩
    have hlt : i < z0.length := by omega
    refine ⟨z0[i], by rw [List.getElem?_take_of_lt hi]; exact List.getElem?_eq_getElem hlt, ?_, ?_, ?_⟩
    · have := hwz z0[i] (List.getElem_mem hlt); simp [Lit.wf, IntKind.min, IntKind.max, IntKind.signed, IntKind.bits] at this; omega
    · have := hwz z0[i] (List.getElem_mem hlt); simp [Lit.wf, IntKind.min, IntKind.max, IntKind.signed, IntKind.bits] at this; omega
    · have := hcell i hlt
      rw [addr_add] at this
      rw [this]
      simp [hlt]
end
end Go.Proofs.YtnolbfijcnldjaaGreatDoor


/- Lists that are made shorter: plain facts: once more is the same; what is left. -/
namespace Go.Proofs.YtnolbfijcnldjaaGreatDoor
open Go.RowKit

/-! Texts. -/
end Go.Proofs.YtnolbfijcnldjaaGreatDoor

/- What the laws of drawn lists ask. -/
namespace Go.Proofs.YtnolbfijcnldjaaGreatDoor
open Go.RowKit

theorem OwnOps.cap {w : World} {B : Nat} {a : Option Addr} {n c : Nat} {l : List LOp} (h : OwnOps w B (.slice a n c) l) : n ≤ c := by
  rcases h.2 with ⟨e, h0⟩ | ⟨g, cap, cur, e, _, _, h2, _⟩
  · cases e; omega
  · cases e; exact h2
end Go.Proofs.YtnolbfijcnldjaaGreatDoor

/- Logs: on what they lean, in memory; contracts of the law's szLog, toLog, eqLog. -/
namespace Go.Proofs.YtnolbfijcnldjaaGreatDoor
open Go.RowKit Go.ChangeShapes Go.WideShapes

structure LBase where
  id : Int
  ver : Int
/-- What a slice of bases is. -/
structure BasesAt (w : World) (L U : Nat) (a : Option Addr) (n : Nat) (bs : List LBase) : Prop where
  len : n = bs.length
  bd : n ≤ maxLen
  at_ : n ≠ 0 → ∃ b off, a = some ⟨b, off, none⟩ ∧ L ≤ b ∧ b < U ∧ ∀ i, i < n → ∃ e, bs[i]? = some e ∧ w.cell? ⟨b, off + i * 2, none⟩ = some (.int .i64 e.id) ∧ w.cell? ⟨b, off + i * 2 + 1, none⟩ = some (.int .i64 e.ver)
theorem BasesAt.below {w w' : World} {L U B : Nat} {a : Option Addr} {n : Nat} {es : List LBase} (h : BasesAt w L U a n es) (hb : Below B w w') (hU : U ≤ B) : BasesAt w' L U a n es :=
  ⟨h.len, h.bd, fun hn => by
    obtain ⟨b, off, ha, hL, hbU, hc⟩ := h.at_ hn
    refine ⟨b, off, ha, hL, hbU, fun i hi => ?_⟩
    obtain ⟨e, he, h0, h1⟩ := hc i hi
    exact ⟨e, he, by rw [hb.cell (by simp; omega)]; exact h0, by rw [hb.cell (by simp; omega)]; exact h1⟩⟩
theorem BasesAt.wide {w : World} {L U L' U' : Nat} {a : Option Addr} {n : Nat} {es : List LBase} (h : BasesAt w L U a n es) (hL' : L' ≤ L) (hU : U ≤ U') : BasesAt w L' U' a n es :=
  ⟨h.len, h.bd, fun hn => by
    obtain ⟨b, off, ha, hL, hbU, hc⟩ := h.at_ hn
    exact ⟨b, off, ha, by omega, by omega, hc⟩⟩
theorem BasesAt.blocks {w w' : World} {L U : Nat} {a : Option Addr} {n : Nat} {es : List LBase} (h : BasesAt w L U a n es) (hb : ∀ b, L ≤ b → b < U → w'.heap[b]? = w.heap[b]?) : BasesAt w' L U a n es :=
  ⟨h.len, h.bd, fun hn => by
    obtain ⟨b, off, ha, hL, hbU, hc⟩ := h.at_ hn
    refine ⟨b, off, ha, hL, hbU, fun i hi => ?_⟩
    obtain ⟨e, he, h0, h1⟩ := hc i hi
    have hk := hb b hL hbU
    exact ⟨e, he, by rw [World.cell?_of_block (w := w) hk]; exact h0, by rw [World.cell?_of_block (w := w) hk]; exact h1⟩⟩
theorem OpsAt.blocks {w w' : World} {L U : Nat} {a : Option Addr} {n : Nat} {ops : List LOp} (h : OpsAt w L U a n ops) (hb : ∀ b, L ≤ b → b < U → w'.heap[b]? = w.heap[b]?) : OpsAt w' L U a n ops :=
  ⟨h.len, h.bd, fun hn => by
    obtain ⟨b, off, ha, hL, hbU, hc⟩ := h.at_ hn
    refine ⟨b, off, ha, hL, hbU, fun i hi => ?_⟩
    obtain ⟨o, ho, hs, h0⟩ := hc i hi
    exact ⟨o, ho, hs, h0.of_block (hb b hL hbU)⟩⟩

structure LLog where
  who : Int
  seq : Int
  bases : List LBase
  list : List LOp
/-- What a log is. -/
structure LogAt (w : World) (L U : Nat) (q s : Int) (a : Option Addr) (n : Nat) (a' : Option Addr) (n' : Nat) (l : LLog) : Prop where
  q : q = l.who
  s : s = l.seq
  b : BasesAt w L U a n l.bases
  o : OpsAt w L U a' n' l.list
theorem LogAt.below {w w' : World} {L U B : Nat} {q s : Int} {a a' : Option Addr} {n n' : Nat} {l : LLog} (h : LogAt w L U q s a n a' n' l) (hb : Below B w w') (hU : U ≤ B) : LogAt w' L U q s a n a' n' l := ⟨h.q, h.s, h.b.below hb hU, h.o.below hb hU⟩
theorem LogAt.wide {w : World} {L U L' U' : Nat} {q s : Int} {a a' : Option Addr} {n n' : Nat} {l : LLog} (h : LogAt w L U q s a n a' n' l) (hL : L' ≤ L) (hU : U ≤ U') : LogAt w L' U' q s a n a' n' l := ⟨h.q, h.s, h.b.wide hL hU, h.o.wide hL hU⟩

section
variable {H : Type} {enc : TypeId × Value → H} {w : World} {spare : Nat → Bool} {held : Bool}
end

/-- Bases in a row of one's own, from its first cell on. -/
def BaseRow (w : World) (B : Nat) (a : Option Addr) (n g cap : Nat) (f : Nat → Value) : Prop := n ≠ 0 → a = some ⟨g, 0, none⟩ ∧ B ≤ g ∧ n * 2 ≤ cap ∧ w.rowIs g 121 cap f
def baseF (f : Nat → Value) (es : List LBase) : Prop := ∀ i e, es[i]? = some e → f (i * 2) = .int .i64 e.id ∧ f (i * 2 + 1) = .int .i64 e.ver
theorem BaseRow.at_ {w : World} {B : Nat} {a : Option Addr} {n g cap : Nat} {f : Nat → Value} {es : List LBase} (h : BaseRow w B a n g cap f) (hf : baseF f es) (hn : n = es.length) (hbd : n ≤ maxLen) : BasesAt w B w.heap.size a n es :=
  ⟨hn, hbd, fun h0 => by
    obtain ⟨h1, h2, h3, h4⟩ := h h0
    refine ⟨g, 0, h1, h2, h4.lt, fun i hi => ?_⟩
    have hl : es[i]? = some (es[i]'(by omega)) := by simp [show i < es.length by omega]
    obtain ⟨q0, q1⟩ := hf i _ hl
    exact ⟨_, hl, by rw [Nat.zero_add, h4.cell (by omega), q0], by rw [Nat.zero_add, h4.cell (by omega), q1]⟩⟩
theorem BaseRow.kept {w w' : World} {B : Nat} {a : Option Addr} {n g cap : Nat} {f : Nat → Value} (h : BaseRow w B a n g cap f) (hb : ∀ k, k = g → k < w.heap.size → w'.heap[k]? = w.heap[k]?) : BaseRow w' B a n g cap f := fun hn => by
  obtain ⟨h1, h2, h3, h4⟩ := h hn
  exact ⟨h1, h2, h3, h4.of_block (hb g rfl h4.lt)⟩

end Go.Proofs.YtnolbfijcnldjaaGreatDoor

/- Logs: compared, by the program and by the specification. -/
namespace Go.Proofs.YtnolbfijcnldjaaGreatDoor
open Go.RowKit

/-! A box for a log, made and filled in a region that draws. -/
structure LogBox (W : World) (q : Nat) (x y : Int) (a : Option Addr) (n c : Nat) (a' : Option Addr) (n' c' : Nat) : Prop where
  c0 : W.cell? ⟨q, 0, none⟩ = some (.int .i64 x)
  c1 : W.cell? ⟨q, 1, none⟩ = some (.int .i64 y)
  c2 : W.cell? ⟨q, 2, none⟩ = some (.slice a n c)
  c3 : W.cell? ⟨q, 3, none⟩ = some (.slice a' n' c')
theorem LogBox.of {W W' : World} {q : Nat} {x y : Int} {a : Option Addr} {n c : Nat} {a' : Option Addr} {n' c' : Nat} (h : LogBox W q x y a n c a' n' c') (e : W'.heap[q]? = W.heap[q]?) : LogBox W' q x y a n c a' n' c' := by
  have hc : ∀ j, W'.cell? ⟨q, j, none⟩ = W.cell? ⟨q, j, none⟩ := fun j => World.cell?_of_block (w := W) e
  exact ⟨by rw [hc]; exact h.c0, by rw [hc]; exact h.c1, by rw [hc]; exact h.c2, by rw [hc]; exact h.c3⟩
section
variable {ops : Array Oper} {ac : Act} {K : Act → World → Prop} {Q : Exit → Act → World → Prop} {E : Prop} {ty : TypeId} {ps : String} {af : Array Edge}
end

end Go.Proofs.YtnolbfijcnldjaaGreatDoor
