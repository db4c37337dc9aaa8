import Derived.Test.YtkllejaamnojpaaSlimF
import Derived.Deep.QuietTactic
import Derived.BigQuiet
/- Lists that are made shorter: the specification. -/
namespace Go.Proofs.Ytkllejaamnojpaa
open Go.RowKit

theorem opCells_at : ∀ (l : List LOp) (i : Nat) (o : LOp), l[i]? = some o → ∀ t u, o.val[t]? = some u → (opCells l)[i * 7 + t]? = some u
  | [], i, o, h, _, _, _ => by simp at h
  | x :: r, 0, o, h, t, u, hu => by
    simp at h
    subst h
    have ht : t < x.val.toList.length := by
      have := (Array.getElem?_eq_some_iff.1 hu).1
      simpa using this
    simp only [opCells, List.flatMap_cons]
    rw [List.getElem?_append_left (by omega)]
    simpa using hu
  | x :: r, i + 1, o, h, t, u, hu => by
    have ih := opCells_at r i o (by simpa using h) t u hu
    simp only [opCells, List.flatMap_cons]
    have h7 : x.val.toList.length = 7 := by simp [LOp.val]
    rw [List.getElem?_append_right (by omega), h7]
    have e : (i + 1) * 7 + t - 7 = i * 7 + t := by omega
    rw [e]
    exact ih
theorem OwnOps.at_ {w : World} {B : Nat} {v : Value} {l : List LOp} (h : OwnOps w B v l) (hn : ∀ o ∈ l, OpSz o) : ∃ a c, v = .slice a l.length c ∧ OpsAt w B w.heap.size a l.length l := by
  by_cases h0 : l.length = 0
  · obtain rfl : l = [] := List.eq_nil_of_length_eq_zero h0
    rcases h.2 with ⟨rfl, _⟩ | ⟨g, cap, cur, rfl, _⟩
    · exact ⟨_, _, rfl, rfl, by simp [maxLen], fun hn => absurd rfl hn⟩
    · exact ⟨_, _, rfl, rfl, by simp [maxLen], fun hn => absurd rfl hn⟩
  · obtain ⟨g, c, rfl, hb, hlt⟩ := World.ownsRow.form h (by omega)
    have hbd : l.length ≤ maxLen := by
      rcases h.2 with ⟨h', _⟩ | ⟨g', cap', cur, h', _, _, hnc, hcm, _⟩
      · simp at h'
      · omega
    have hc : ∀ i (hi : i < l.length) t u, t < 7 → (l[i]).val[t]? = some u → w.cell? ⟨g, 0 + i * 7 + t, none⟩ = some u := fun i hi t u ht hu => by
      have := World.ownsRow.cellAt h (i * 7 + t) (by omega)
      rw [Nat.zero_add, this]
      exact opCells_at l i l[i] (by simp [hi]) t u hu
    exact ⟨_, _, rfl, rfl, hbd, fun _ => ⟨g, 0, rfl, hb, hlt, fun i hi => ⟨l[i], by simp [hi], hn _ (List.getElem_mem hi), hc i hi 0 _ (by omega) (by simp [LOp.val]), hc i hi 1 _ (by omega) (by simp [LOp.val]), hc i hi 2 _ (by omega) (by simp [LOp.val]), hc i hi 3 _ (by omega) (by simp [LOp.val]), hc i hi 4 _ (by omega) (by simp [LOp.val]), hc i hi 5 _ (by omega) (by simp [LOp.val]), hc i hi 6 _ (by omega) (by simp [LOp.val])⟩⟩⟩
theorem OpsAt.sz {w : World} {L U : Nat} {a : Option Addr} {n : Nat} {ops : List LOp} (h : OpsAt w L U a n ops) : ∀ o ∈ ops, OpSz o := fun o ho => by
  obtain ⟨i, hi, rfl⟩ := List.getElem_of_mem ho
  have hl := h.len
  obtain ⟨b, off, _, _, _, hc⟩ := h.at_ (by omega)
  obtain ⟨o', ho', hs, _⟩ := hc i (by omega)
  rw [List.getElem?_eq_getElem hi] at ho'
  cases ho'
  exact hs
theorem seven_cells {w : World} {o : LOp} {j : Nat} {u : Value} {q : Nat} (h : (opCells [o])[j]? = some u) (hq : q = w.heap.size) : (w.alloc (Obj.cells o.val 30)).cell? ((⟨q, 0, none⟩ : Addr).add j) = some u := by
  subst hq
  have hadd : (⟨w.heap.size, 0, none⟩ : Addr).add j = ⟨w.heap.size, j, none⟩ := by unfold Addr.add; split <;> simp_all
  rw [hadd]
  have h1 : o.val[j]? = some u := by simpa [opCells] using h
  simp [go_sem, h1]
theorem AppOEnd.below {w0 wr w1 : World} {B : Nat} {u v : Value} {l r : List LOp} {o1 : Obj} (hE : AppOEnd (wr.alloc o1) w1 B u v r) (hown : OwnOps wr B u l) (hb : Below B w0 wr) (hsz : B ≤ wr.heap.size) : Below B w0 w1 := by
  have hr : ∀ k, u.ownBlock = some k → B ≤ k := fun k e => (hown.lt k e).1
  exact hb.trans (below_grown ((Below.refl _ _).alloc (by omega) _) hE.grown hr (by simp; omega))
theorem OwnOps.empty (w : World) (B : Nat) (hB : B ≤ w.heap.size) : OwnOps (w.alloc (Obj.cells #[] 30)) B (.slice (some ⟨w.heap.size, 0, none⟩) 0 0) [] := by
  simpa [OwnOps, opCells] using World.ownsRow_lit (base := B) (e := 30) (size := 7) w #[] 0 hB (by simp [maxLen]) rfl

theorem any_drop {f : LOp → Bool} {l : List LOp} {k : Nat} {x : LOp} (h : l[k]? = some x) : (l.drop k).any f = (f x || (l.drop (k + 1)).any f) := by
  rw [drop_cons h, List.any_cons]
set_option maxHeartbeats 1000000 in
theorem void_any (a : Option Addr) (n c : Nat) (ops : List LOp) (L U i : Nat) (w : World) (hi : i < n) (H : OpsAt w L U a n ops) :
    Calls Try.prog 115 #[.slice a n c, .int .i64 i] w fun e w' => e = .returned (.bool (voidB ops i)) ∧ ∃ m, w' = w.drewN m := by
  have hbd := H.bd
  have hlen : Hid (n = ops.length) := H.len
  unfold maxLen at hbd
  obtain ⟨b, off, ha, hL, hbU, hc⟩ := H.at_ (by omega)
  subst ha
  obtain ⟨o, he, _, hat⟩ := hc i hi
  have hid := hat.c5
  have HV : Hid (voidB ops i = (ops.drop (i + 1)).any (voids o.id)) := by show _ = _; simp [voidB, he]
  have hiI : (i : Int) < (n : Int) := by omega
  clear hat he H
  go_enter Try.func115, Try.ntmps115
  go_wp2_with fail
  go_loopg [5] (n - (i + 1)) (fun g k wr => ∃ j : Nat, j ≤ n ∧ i < j ∧ Hid (g = n - j) ∧ k = .int .i64 j ∧ Hid (voidB ops i = (ops.drop j).any (voids o.id)) ∧ Hid (∃ m, wr = w.drewN m))
  case atStart => exact ⟨i + 1, by omega, by omega, rfl, by go_num, HV.out, ⟨0, rfl⟩⟩
  case round =>
    obtain ⟨j, hj, hij, hk, rfl, hq, hb⟩ := hrel
    obtain ⟨m, rfl⟩ := hb.out
    by_cases hlt : j < n
    · obtain ⟨x, he, _, d0, d1, d2, d3, d4, d5, d6⟩ := hc j hlt
      have hlt' : (j : Int) < (n : Int) := by omega
      have HQ : Hid (voidB ops i = (voids o.id x || (ops.drop (j + 1)).any (voids o.id))) := by show _ = _; rw [hq.out, any_drop he]
      clear he d1 d2 d3 d4 d6 hc hq HV
      have hcase : ((x.id == o.id) = true ∧ (x.kind == 5) = true) ∨ ((x.id == o.id) = true ∧ (x.kind == 5) = false ∧ (x.kind == 3) = true) ∨ ((x.id == o.id) = true ∧ (x.kind == 5) = false ∧ (x.kind == 3) = false) ∨ (x.id == o.id) = false := by
        cases (x.id == o.id) <;> cases (x.kind == 5) <;> cases (x.kind == 3) <;> simp
      rcases hcase with ⟨t0, t1⟩ | ⟨t0, t1, t2⟩ | ⟨t0, t1, t2⟩ | t0
      · have HY : Hid (voidB ops i = true) := by show _ = _; rw [HQ.out]; simp only [voids, t0, t1]; rfl
        go_wp2_with fail
        go_quiet (fail)
        go_wp2_with fail
        go_ret
        exact ⟨ret_bool HY.out.symm, m + nq, by rw [World.drewN_drewN]⟩
      · have HY : Hid (voidB ops i = true) := by show _ = _; rw [HQ.out]; simp only [voids, t0, t1, t2]; rfl
        go_wp2_with fail
        go_quiet (fail)
        go_wp2_with fail
        go_ret
        exact ⟨ret_bool HY.out.symm, m + nq, by rw [World.drewN_drewN]⟩
      all_goals
        have HY : Hid (voidB ops i = (ops.drop (j + 1)).any (voids o.id)) := by show _ = _; rw [HQ.out]; simp only [voids, *, Bool.or_false, Bool.and_false, Bool.false_and, Bool.false_or]
        go_wp2_with fail
        go_quiet (fail)
        go_wp2_with fail
        go_roundg (n - (j + 1))
        case measure => have := hk.out; omega
        case rel => exact ⟨j + 1, by omega, by omega, rfl, by go_num, HY.out, ⟨m + nq, rfl⟩⟩
    · have HN : Hid (voidB ops i = false) := by
        show _ = _
        rw [hq.out, List.drop_of_length_le (by have := hlen.out; omega)]; rfl
      go_wp2_with fail
      go_ret
      exact ⟨ret_bool HN.out.symm, m, rfl⟩

theorem below_drewN {w w' : World} (h : Below w.heap.size w w') (m : Nat) : Below w.heap.size w (w'.drewN m) := h.trans ((Below.drewN _ _).mono h.size)
theorem OwnOps.next {w w' : World} {B : Nat} {v : Value} {l : List LOp} (h : OwnOps w B v l) (hb : Below w.heap.size w w') : OwnOps w' B v l := by
  refine ⟨h.1, ?_⟩
  rcases h.2 with hn | ⟨g, cap, cur, rfl, hB, hgg, rest⟩
  · exact .inl hn
  · refine .inr ⟨g, cap, cur, rfl, hB, ?_, rest⟩
    rw [hb.block g (Array.getElem?_eq_some_iff.1 hgg).1]
    exact hgg
/-- What a rule leaves: a list of its own, and all else as it was. -/
def SlimEnd (w : World) (r : List LOp) (e : Ending) (w' : World) : Prop := (∃ v, e = .returned v ∧ OwnOps w' w.heap.size v r) ∧ Below w.heap.size w w'

set_option maxHeartbeats 1000000 in
theorem forms_any (a : Option Addr) (n c : Nat) (ops : List LOp) (L U : Nat) (w : World) (hU : U ≤ w.heap.size) (H : OpsAt w L U a n ops) :
    Calls Try.prog 62 #[.slice a n c] w fun e w' => e = .returned (.bool (formsB ops)) ∧ Below w.heap.size w w' := by
  have hbd := H.bd
  have hlen : Hid (n = ops.length) := H.len
  unfold maxLen at hbd
  by_cases h60 : 60 < n
  · have h60' : (60 : Int) < (n : Int) := by omega
    go_enter Try.func62, Try.ntmps62
    go_wp2_with fail
    go_ret
    exact ⟨ret_bool (by have := hlen.out; simp [formsB]; omega), Below.refl _ _⟩
  · have h60' : ¬ (60 : Int) < (n : Int) := by omega
    go_enter Try.func62, Try.ntmps62
    go_wp2_with fail
    go_loopg [3] n (fun g k wr => ∃ j : Nat, j ≤ n ∧ Hid (g = n - j) ∧ k = .int .i64 j ∧ Hid (formsB ops = (ops.drop j).all opOk) ∧ Below w.heap.size w wr)
    case atStart => exact ⟨0, Nat.zero_le _, rfl, rfl, by show _ = _; have := hlen.out; simp [formsB]; omega, Below.refl _ _⟩
    case round =>
      obtain ⟨j, hj, hk, rfl, hq, hb⟩ := hrel
      by_cases hlt : j < n
      · obtain ⟨b, off, ha, hL, hbU, hc⟩ := H.at_ (by omega)
        subst ha
        obtain ⟨x, he, hsz, hat⟩ := hc j hlt
        obtain ⟨d0, d1, d2, d3, d4, d5, d6⟩ := hat.of_block (hb.block b (by omega))
        have hlt' : (j : Int) < (n : Int) := by omega
        have HQ : Hid (formsB ops = (opOk x && (ops.drop (j + 1)).all opOk)) := by show _ = _; rw [hq.out, drop_cons he, List.all_cons]
        have HOK := fun w => opOk_any x w hsz.name hsz.name2 hsz.text
        simp only [LOp.val] at HOK
        clear he hc hq hat H
        go_wp2_with fail
        refine (HOK _).mono ?_
        rintro e w1 ⟨rfl, rfl⟩
        rcases hx : opOk x with _ | _
        · have HY : Hid (formsB ops = false) := by show _ = _; rw [HQ.out, hx]; rfl
          clear HOK HQ
          go_wp2_with fail
          go_ret
          exact ⟨ret_bool HY.out.symm, hb.alloc hb.size _⟩
        · have HY : Hid (formsB ops = (ops.drop (j + 1)).all opOk) := by show _ = _; rw [HQ.out, hx]; rfl
          clear HOK HQ
          go_wp2_with fail
          go_roundg (n - (j + 1))
          case measure => have := hk.out; omega
          case rel => exact ⟨j + 1, by omega, rfl, by go_num, HY.out, hb.alloc hb.size _⟩
      · have HN : Hid (formsB ops = true) := by
          show _ = _
          rw [hq.out, List.drop_of_length_le (by have := hlen.out; omega)]; rfl
        go_wp2_with fail
        go_ret
        exact ⟨ret_bool HN.out.symm, hb⟩

set_option maxHeartbeats 1000000 in
theorem texts_any (a : Option Addr) (n c : Nat) (ops : List LOp) (L U : Nat) (w : World) (hn : n ≤ 1000) (hU : U ≤ w.heap.size) (H : OpsAt w L U a n ops) :
    Calls Try.prog 68 #[.slice a n c] w (SlimEnd w (textsL ops)) := by
  go_enter Try.func68, Try.ntmps68
  go_wp2_with fail
  go_loopg [3, 4] n (fun g v k wr => ∃ j : Nat, j ≤ n ∧ Hid (g = n - j) ∧ k = .int .i64 j ∧ Hid (OwnOps wr w.heap.size v (keepTo (textKeep ops) ops j)) ∧ Below w.heap.size w wr)
  case atStart => exact ⟨0, Nat.zero_le _, rfl, rfl, OwnOps.empty w _ (Nat.le_refl _), (Below.refl _ _).alloc (Nat.le_refl _) _⟩
  case round =>
    obtain ⟨j, hj, hk, rfl, hown, hb⟩ := hrel
    have hsz := hb.size
    by_cases hlt : j < n
    · have HA : Hid (OpsAt wr L U a n ops) := H.below hb hU
      have HVD := void_any a n c ops L U j wr hlt HA.out
      obtain ⟨b, off, ha, hL, hbU, hc⟩ := H.at_ (by omega)
      subst ha
      obtain ⟨x, he, hsx, hat⟩ := hc j hlt
      have HAT : Hid (OpAt wr b (off + j * 7) x) := hat.of_block (hb.block b (by omega))
      have d0 := HAT.out.c0
      have hlt' : (j : Int) < (n : Int) := by omega
      have HE : Hid (ops[j]? = some x) := he
      have hle := keepTo_len (textKeep ops) ops j
      have HT : Hid (textKeep ops j = ((x.kind != 5) || !voidB ops j)) := by show _ = _; simp [textKeep, he]
      clear he hc hat H
      go_upto_region 5 with fail
      go_cut [23] (fun s wx => s = .bool (textKeep ops j) ∧ ∃ m, wx = wr.drewN m)
      case first =>
        by_cases h5 : x.kind = 5
        · have t0 : (x.kind != 5) = false := by simp [h5]
          have HT' : Hid (textKeep ops j = !voidB ops j) := by show _ = _; rw [HT.out, t0]; rfl
          clear h5 HT
          go_wp2_with fail
          refine HVD.mono ?_
          rintro e w1 ⟨rfl, m, rfl⟩
          go_wp2_with fail
          go_meet
          exact ⟨by rw [HT'.out], m, rfl⟩
        · have t0 : (x.kind != 5) = true := by simpa using h5
          have HT' : Hid (textKeep ops j = true) := by show _ = _; rw [HT.out, t0]; rfl
          clear h5 HT HVD
          go_wp2_with fail
          go_meet
          exact ⟨by rw [HT'.out], 0, rfl⟩
      obtain ⟨rfl, m, rfl⟩ := hcut
      have HO : Hid (OwnOps (wr.drewN m) w.heap.size _ (keepTo (textKeep ops) ops j)) := hown.out.next (Below.drewN _ _)
      have hbc := below_drewN hb m
      have hsc := hbc.size
      obtain ⟨e0, e1, e2, e3, e4, e5, e6⟩ := HAT.out.of_block ((Below.drewN wr m).block b (by omega))
      clear HVD hown HT HAT d0
      generalize wr.drewN m = wc at *
      rcases hp : (textKeep ops) j with _ | _
      · have HK : Hid (keepTo (textKeep ops) ops (j + 1) = keepTo (textKeep ops) ops j) := keepTo_no hp
        clear hp 
        go_wp2_with fail
        go_roundg (n - (j + 1))
        case measure => have := hk.out; omega
        case rel => exact ⟨j + 1, by omega, rfl, by go_num, by show OwnOps _ _ _ _; rw [HK.out]; exact HO.out, hbc⟩
      · have HK : Hid (keepTo (textKeep ops) ops (j + 1) = keepTo (textKeep ops) ops j ++ [x]) := keepTo_yes HE.out hp
        clear hp 
        go_wp2_with (first
          | (at_builtin; refine wpList_app_ops _ rfl (.tmp 24) (.tmp 29) rfl w.heap.size _ (keepTo (textKeep ops) ops j) [x] (HO.out.alloc _) ⟨wc.heap.size, 0, none⟩ 1 1 rfl rfl rfl ?c1 ?c2 ?c3 ?_)
          | go_in)
        case c1 => intro i u hi; exact seven_cells hi (by simp)
        case c2 => omega
        case c3 => simp; omega
        intro v' w6 hE
        go_wp2_with fail
        go_roundg (n - (j + 1))
        case measure => have := hk.out; omega
        case rel => exact ⟨j + 1, by omega, rfl, by go_num, by show OwnOps _ _ _ _; rw [HK.out]; exact hE.own, hE.below HO.out hbc hsc⟩
    · obtain rfl : j = n := by omega
      have hown' := hown.out
      rw [H.len] at hown'
      go_wp2_with fail
      go_ret
      exact ⟨⟨_, rfl, hown'⟩, hb⟩

theorem goesL_at {ops : List LOp} {i : Nat} {o : LOp} (h : ops[i]? = some o) : goesL ops i = if makesB o then goesAt o.id (ops.drop (i + 1)) (i + 1) else -1 := by
  unfold goesL; rw [h]
theorem goesAt_step {id : Int} {ops : List LOp} {j : Nat} {x : LOp} (h : ops[j]? = some x) : goesAt id (ops.drop j) j = if leansB x id then -1 else if (x.kind == 3) && (x.id == id) then (j : Int) else goesAt id (ops.drop (j + 1)) (j + 1) := by
  rw [drop_cons h]; rfl

set_option maxHeartbeats 1000000 in
theorem goes_any (a : Option Addr) (n c : Nat) (ops : List LOp) (L U i : Nat) (w : World) (hi : i < n) (hU : U ≤ w.heap.size) (H : OpsAt w L U a n ops) :
    Calls Try.prog 119 #[.slice a n c, .int .i64 i] w fun e w' => e = .returned (.int .i64 (goesL ops i)) ∧ Below w.heap.size w w' := by
  have hbd := H.bd
  have hlen : Hid (n = ops.length) := H.len
  unfold maxLen at hbd
  obtain ⟨b, off, ha, hL, hbU, hc⟩ := H.at_ (by omega)
  subst ha
  obtain ⟨o, he, _, hat⟩ := hc i hi
  have hiI : (i : Int) < (n : Int) := by omega
  have HG : Hid (goesL ops i = if makesB o then goesAt o.id (ops.drop (i + 1)) (i + 1) else -1) := goesL_at he
  have k0 := hat.c0
  clear H he
  go_enter Try.func119, Try.ntmps119
  go_upto_region 1 with fail
  go_cut [20] (fun s wx => s = .bool (!makesB o) ∧ w = wx)
  case first =>
    rcases t1 : (o.kind == 1) with _ | _
    · rcases t2 : (o.kind == 2) with _ | _
      · have u1 : (o.kind != 1) = true := by simpa using t1
        have u2 : (o.kind != 2) = true := by simpa using t2
        have HM : Hid (makesB o = false) := by show _ = _; unfold makesB; rw [t1, t2]; rfl
        clear t1 t2
        go_wp2_with fail
        go_meet
        exact ⟨by rw [HM.out]; rfl, rfl⟩
      · have u1 : (o.kind != 1) = true := by simpa using t1
        have u2 : (o.kind != 2) = false := by simpa using t2
        have HM : Hid (makesB o = true) := by show _ = _; unfold makesB; rw [t1, t2]; rfl
        clear t1 t2
        go_wp2_with fail
        go_meet
        exact ⟨by rw [HM.out]; rfl, rfl⟩
    · have u1 : (o.kind != 1) = false := by simpa using t1
      have HM : Hid (makesB o = true) := by show _ = _; unfold makesB; rw [t1]; rfl
      clear t1
      go_wp2_with fail
      go_meet
      exact ⟨by rw [HM.out]; rfl, rfl⟩
  obtain ⟨rfl, rfl⟩ := hcut
  rcases hm : makesB o with _ | _
  · have HR : Hid (goesL ops i = -1) := by show _ = _; rw [HG.out, hm]; rfl
    clear HG hm
    go_wp2_with fail
    go_ret
    exact ⟨by rw [HR.out]; rfl, Below.refl _ _⟩
  have HR : Hid (goesL ops i = goesAt o.id (ops.drop (i + 1)) (i + 1)) := by show _ = _; rw [HG.out, hm]; rfl
  clear HG hm k0
  go_wp2_with fail
  go_loopg [5] (n - (i + 1)) (fun g k wr => ∃ j : Nat, j ≤ n ∧ i < j ∧ Hid (g = n - j) ∧ k = .int .i64 j ∧ Hid (goesL ops i = goesAt o.id (ops.drop j) j) ∧ Below w.heap.size w wr)
  case atStart => exact ⟨i + 1, by omega, by omega, rfl, by go_num, HR.out, Below.refl _ _⟩
  case round =>
    obtain ⟨j, hj, hij, hk, rfl, hq, hb⟩ := hrel
    by_cases hlt : j < n
    · obtain ⟨x, he, _, hatx⟩ := hc j hlt
      have hlt' : (j : Int) < (n : Int) := by omega
      have HQ : Hid (goesL ops i = if leansB x o.id then -1 else if (x.kind == 3) && (x.id == o.id) then (j : Int) else goesAt o.id (ops.drop (j + 1)) (j + 1)) := by show _ = _; rw [hq.out, goesAt_step he]
      have HI : Hid (OpAt wr b (off + i * 7) o) := hat.of_block (hb.block b (by omega))
      obtain ⟨d0, d1, d2, d3, d4, d5, d6⟩ := hatx.of_block (hb.block b (by omega))
      clear he hatx hc hq HR
      go_upto_region 6 with fail
      go_cut [6] (fun s wx => ∃ q, s = .pointer (some ⟨q, 0, none⟩) ∧ Hid (OpAt wx q 0 x) ∧ Below wr.heap.size wr wx)
      case first =>
        go_wp2_with fail
        go_meet
        exact ⟨_, rfl, ⟨by simp [go_sem], by simp [go_sem], by simp [go_sem], by simp [go_sem], by simp [go_sem], by simp [go_sem], by simp [go_sem]⟩, (Below.refl _ _).alloc (Nat.le_refl _) _⟩
      obtain ⟨q, rfl, HX, hb1⟩ := hcut
      have HI1 : Hid (OpAt wc b (off + i * 7) o) := HI.out.of_block (hb1.block b (by have := hb.size; omega))
      have hb2 : Below w.heap.size w wc := hb.trans (hb1.mono hb.size)
      clear HI d0 d1 d2 d3 d4 d5 d6
      have e5 := HI1.out.c5
      obtain ⟨x0, x1, x2, x3, x4, x5, x6⟩ := HX.out
      go_upto_region 7 with fail
      go_cut [60] (fun s wx => s = .bool (leansB x o.id) ∧ ∃ m, wx = wc.drewN m)
      case first =>
        have hcase : ((x.kind != 5) = false ∧ (x.kind == 4) = false) ∨ ((x.kind != 5) = true ∧ (x.dir == o.id) = true) ∨ ((x.kind != 5) = true ∧ (x.dir == o.id) = false ∧ (x.kind == 4) = true ∧ (x.dir2 == o.id) = true) ∨ ((x.kind != 5) = true ∧ (x.dir == o.id) = false ∧ (x.kind == 4) = true ∧ (x.dir2 == o.id) = false) ∨ ((x.kind != 5) = true ∧ (x.dir == o.id) = false ∧ (x.kind == 4) = false) := by
          by_cases h5 : x.kind = 5
          · left; simp [h5]
          · have : (x.kind != 5) = true := by simpa using h5
            rw [this]
            cases (x.dir == o.id) <;> cases (x.kind == 4) <;> cases (x.dir2 == o.id) <;> simp
        rcases hcase with ⟨t0, t1⟩ | ⟨t0, t1⟩ | ⟨t0, t1, t2, t3⟩ | ⟨t0, t1, t2, t3⟩ | ⟨t0, t1, t2⟩
        all_goals
          go_quiet (fail)
          go_wp2_with fail
          go_meet
          exact ⟨by unfold leansB; simp only [*]; rfl, nq, rfl⟩
      obtain ⟨rfl, m, rfl⟩ := hcut
      rcases hl : leansB x o.id with _ | _
      · have HQ2 : Hid (goesL ops i = if (x.kind == 3) && (x.id == o.id) then (j : Int) else goesAt o.id (ops.drop (j + 1)) (j + 1)) := by show _ = _; rw [HQ.out, hl]; rfl
        clear hl HQ
        go_upto_region 9 with fail
        go_cut [73] (fun s wx => s = .bool ((x.kind == 3) && (x.id == o.id)) ∧ ∃ m, wx = wc.drewN m)
        case first =>
          rcases t0 : (x.kind == 3) with _ | _
          · go_quiet (fail)
            go_wp2_with fail
            go_meet
            exact ⟨by simp only [*]; rfl, m + nq, by rw [World.drewN_drewN]⟩
          · rcases t1 : (x.id == o.id) with _ | _
            all_goals
              go_quiet (fail)
              go_wp2_with fail
              go_meet
              exact ⟨by simp only [*]; rfl, m + nq, by rw [World.drewN_drewN]⟩
        obtain ⟨rfl, m', rfl⟩ := hcut
        rcases hg : (x.kind == 3) && (x.id == o.id) with _ | _
        · have HY : Hid (goesL ops i = goesAt o.id (ops.drop (j + 1)) (j + 1)) := by show _ = _; rw [HQ2.out, hg]; rfl
          clear hg HQ2
          go_wp2_with fail
          go_roundg (n - (j + 1))
          case measure => have := hk.out; omega
          case rel => exact ⟨j + 1, by omega, by omega, rfl, by go_num, HY.out, below_drewN hb2 _⟩
        · have HY : Hid (goesL ops i = (j : Int)) := by show _ = _; rw [HQ2.out, hg]; rfl
          clear hg HQ2
          go_wp2_with fail
          go_ret
          exact ⟨by rw [HY.out]; rfl, below_drewN hb2 _⟩
      · have HY : Hid (goesL ops i = -1) := by show _ = _; rw [HQ.out, hl]; rfl
        clear hl HQ
        go_wp2_with fail
        go_ret
        exact ⟨by rw [HY.out]; rfl, below_drewN hb2 _⟩
    · have HN : Hid (goesL ops i = -1) := by
        show _ = _
        rw [hq.out, List.drop_of_length_le (by have := hlen.out; omega)]; rfl
      go_wp2_with fail
      go_ret
      exact ⟨by rw [HN.out]; rfl, hb⟩
end Go.Proofs.Ytkllejaamnojpaa
