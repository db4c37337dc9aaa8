import Derived.Test.YtkllejaamnojpaaSlimS
import Derived.Deep.Upon
/- Lists that are made shorter: the specification, what goes again. -/
namespace Go.Proofs.Ytkllejaamnojpaa
open Go.RowKit

def outB (ops : List LOp) (id : Int) (i k j : Nat) : Bool := (decide (j < i) || decide (k < j)) || (idAt ops j != id)
set_option maxHeartbeats 1000000 in
theorem without_any (a : Option Addr) (n c : Nat) (ops : List LOp) (L U i k : Nat) (id : Int) (w : World) (hn : n ≤ 1000) (hU : U ≤ w.heap.size) (H : OpsAt w L U a n ops) :
    Calls Try.prog 120 #[.slice a n c, .int .i64 id, .int .i64 i, .int .i64 k] w (SlimEnd w (without ops id i k)) := by
  go_enter Try.func120, Try.ntmps120
  go_wp2_with fail
  go_loopg [9, 10] n (fun g v q wr => ∃ j : Nat, j ≤ n ∧ Hid (g = n - j) ∧ q = .int .i64 j ∧ Hid (OwnOps wr w.heap.size v (keepTo (outB ops id i k) ops j)) ∧ Below w.heap.size w wr)
  case atStart => exact ⟨0, Nat.zero_le _, rfl, rfl, OwnOps.empty w _ (Nat.le_refl _), (Below.refl _ _).alloc (Nat.le_refl _) _⟩
  case round =>
    obtain ⟨j, hj, hk, rfl, hown, hb⟩ := hrel
    have hsz := hb.size
    by_cases hlt : j < n
    · obtain ⟨b, off, ha, hL, hbU, hc⟩ := H.at_ (by omega)
      subst ha
      obtain ⟨x, he, hsx, hat⟩ := hc j hlt
      have HAT : Hid (OpAt wr b (off + j * 7) x) := hat.of_block (hb.block b (by omega))
      have d5 := HAT.out.c5
      have hlt' : (j : Int) < (n : Int) := by omega
      have HE : Hid (ops[j]? = some x) := he
      have hle := keepTo_len (outB ops id i k) ops j
      have HT : Hid (outB ops id i k j = ((decide (j < i) || decide (k < j)) || (x.id != id))) := by show _ = _; unfold outB; rw [idAt_of he]
      clear he hc hat H
      go_upto_region 5 with fail
      go_cut [34] (fun s wx => s = .bool (outB ops id i k j) ∧ wr = wx)
      case first =>
        by_cases h1 : j < i
        · have h1' : (j : Int) < (i : Int) := by omega
          have HT' : Hid (outB ops id i k j = true) := by show _ = _; rw [HT.out]; simp [h1]
          clear HT
          go_wp2_with fail
          go_meet
          exact ⟨by rw [HT'.out], rfl⟩
        · have h1' : ¬ (j : Int) < (i : Int) := by omega
          by_cases h2 : k < j
          · have h2' : (k : Int) < (j : Int) := by omega
            have HT' : Hid (outB ops id i k j = true) := by show _ = _; rw [HT.out]; simp [h2]
            clear HT
            go_wp2_with fail
            go_meet
            exact ⟨by rw [HT'.out], rfl⟩
          · have h2' : ¬ (k : Int) < (j : Int) := by omega
            have HT' : Hid (outB ops id i k j = (x.id != id)) := by show _ = _; rw [HT.out]; simp [h1, h2]
            clear HT
            go_wp2_with fail
            go_meet
            exact ⟨by rw [HT'.out], rfl⟩
      obtain ⟨rfl, rfl⟩ := hcut
      have HO := hown
      have hbc := hb
      have hsc := hbc.size
      obtain ⟨e0, e1, e2, e3, e4, e5, e6⟩ := HAT.out
      clear hown HT HAT d5
      rcases hp : (outB ops id i k) j with _ | _
      · have HK : Hid (keepTo (outB ops id i k) ops (j + 1) = keepTo (outB ops id i k) ops j) := keepTo_no hp
        clear hp 
        go_wp2_with fail
        go_roundg (n - (j + 1))
        case measure => have := hk.out; omega
        case rel => exact ⟨j + 1, by omega, rfl, by go_num, by show OwnOps _ _ _ _; rw [HK.out]; exact HO.out, hbc⟩
      · have HK : Hid (keepTo (outB ops id i k) ops (j + 1) = keepTo (outB ops id i k) ops j ++ [x]) := keepTo_yes HE.out hp
        clear hp 
        go_wp2_with (first
          | (at_builtin; refine wpList_app_ops _ rfl (.tmp 35) (.tmp 40) rfl w.heap.size _ (keepTo (outB ops id i k) ops j) [x] (HO.out.alloc _) ⟨wr.heap.size, 0, none⟩ 1 1 rfl rfl rfl ?c1 ?c2 ?c3 ?_)
          | go_in)
        case c1 => intro i u hi; exact seven_cells hi (by simp)
        case c2 => omega
        case c3 => simp; omega
        intro v' w6 hE
        go_wp2_with fail
        go_roundg (n - (j + 1))
        case measure => have := hk.out; omega
        case rel => exact ⟨j + 1, by omega, rfl, by go_num, by show OwnOps _ _ _ _; rw [HK.out]; exact hE.own, hE.below HO.out hbc hsc⟩
    · obtain rfl : j = n := by omega
      have hown' := hown.out
      rw [H.len] at hown'
      go_wp2_with fail
      go_ret
      exact ⟨⟨_, rfl, hown'⟩, hb⟩

/-! append of a whole list. -/
theorem OpsAt.cells {w : World} {L U b off n : Nat} {ops : List LOp} (H : OpsAt w L U (some ⟨b, off, none⟩) n ops) : ∀ j u, (opCells ops)[j]? = some u → w.cell? ((⟨b, off, none⟩ : Addr).add j) = some u := by
  intro j u hu
  have hadd : (⟨b, off, none⟩ : Addr).add j = ⟨b, off + j, none⟩ := by unfold Addr.add; split <;> simp_all
  rw [hadd]
  have hj := (List.getElem?_eq_some_iff.1 hu).1
  rw [opCells_len] at hj
  have hl := H.len
  obtain ⟨b', off', ha, _, _, hc⟩ := H.at_ (by omega)
  simp only [Option.some.injEq, Addr.mk.injEq, and_true] at ha
  obtain ⟨rfl, rfl⟩ := ha
  obtain ⟨o, ho, _, hat⟩ := hc (j / 7) (by omega)
  have hv : ∀ t v, t < 7 → j = j / 7 * 7 + t → o.val[t]? = some v → u = v := fun t v ht e hv => by
    have := opCells_at ops (j / 7) o ho t v hv
    rw [← e, hu] at this
    exact Option.some.inj this
  have e7 : j = j / 7 * 7 + j % 7 := by omega
  have hm : j % 7 < 7 := Nat.mod_lt _ (by omega)
  generalize j % 7 = t at e7 hm
  match t, hm with
  | 0, _ => rw [hv 0 _ (by omega) e7 (by simp [LOp.val]; rfl), e7, ← Nat.add_assoc]; exact hat.c0
  | 1, _ => rw [hv 1 _ (by omega) e7 (by simp [LOp.val]; rfl), e7, ← Nat.add_assoc]; exact hat.c1
  | 2, _ => rw [hv 2 _ (by omega) e7 (by simp [LOp.val]; rfl), e7, ← Nat.add_assoc]; exact hat.c2
  | 3, _ => rw [hv 3 _ (by omega) e7 (by simp [LOp.val]; rfl), e7, ← Nat.add_assoc]; exact hat.c3
  | 4, _ => rw [hv 4 _ (by omega) e7 (by simp [LOp.val]; rfl), e7, ← Nat.add_assoc]; exact hat.c4
  | 5, _ => rw [hv 5 _ (by omega) e7 (by simp [LOp.val]; rfl), e7, ← Nat.add_assoc]; exact hat.c5
  | 6, _ => rw [hv 6 _ (by omega) e7 (by simp [LOp.val]; rfl), e7, ← Nat.add_assoc]; exact hat.c6
theorem run_app_all (w : World) (B : Nat) (u : Value) (l news : List LOp) (ty : TypeId) (hown : OwnOps w B u l) (a : Option Addr) (m c L U : Nat) (H : OpsAt w L U a m news) (hbd : l.length + m ≤ 1000000) (hB : B ≤ w.heap.size) :
    ∃ v' w', (Builtin.append_ #[23, 23] ty #[u, .slice a m c]).run Try.prog w = .ok v' w' ∧ AppOEnd w w' B u v' (l ++ news) := by
  obtain ⟨i0, hi, hz0, hz1, hz2⟩ := info_parts infoO
  by_cases hm : m = 0
  · subst hm
    obtain rfl : news = [] := List.eq_nil_of_length_eq_zero H.len.symm
    have hsrc : Src Try.prog i0.size 23 (.slice a 0 c) 0 [] w := by
      cases a with
      | none => exact Src.ofNil w Try.underlying23 c
      | some ad => exact Src.ofSlice w Try.underlying23 ad 0 c [] (by simp) (fun j u hu => by simp at hu) (fun u hu => by simp at hu)
    obtain ⟨ua, un, uc, rfl, hle⟩ : ∃ ua un uc, u = .slice ua un uc ∧ un ≤ uc := by
      rcases hown.2 with ⟨h', _⟩ | ⟨g', cap', cur, h', _, _, hnc, _⟩
      · exact ⟨_, _, _, h', Nat.le_refl _⟩
      · exact ⟨_, _, _, h', hnc⟩
    refine ⟨_, _, run_append_nothing (P := Try.prog) w 23 23 ty 30 i0 Try.underlying23 hi ua un uc hle _ hsrc, ⟨by simpa using hown, World.grownBy.refl w _, fun g hg => .inl hg⟩⟩
  · obtain ⟨b, off, rfl, _⟩ := H.at_ hm
    have hl := H.len
    subst hl
    obtain ⟨v', w', hr, h2, h3, h4, h5⟩ := run_append_own_at (P := Try.prog) w B 23 ty 30 i0 _ 7 80 Try.underlying23 hi hz0 hz1 hz2 rfl (by decide) _ _ _ hown ⟨b, off, none⟩ news.length c (opCells news) (opCells_len _) H.cells (opCells_one _) (by unfold maxLen; omega) (by omega) hB
    refine ⟨v', w', hr, ⟨?_, h3, ?_⟩⟩
    · unfold OwnOps; rw [opCells_app, List.length_append]; exact h2
    · intro g hg
      rcases h5 with h5 | h5
      · left; rw [← h5]; exact hg
      · right; rw [hg] at h5; simpa using h5
theorem wp_app_all (w : World) {o : Oper} {ac : Act} {K : Act → World → Prop} {Q : Exit → Act → World → Prop} (s x : Operand)
    (ho : o.op = .call { callee := .builtin .append, args := #[s, x], argTypes := #[23, 23] }) (B : Nat) (u : Value) (l news : List LOp) (hown : OwnOps w B u l) (a : Option Addr) (m c L U : Nat) (H : OpsAt w L U a m news)
    (hs : ac.eval s = u) (hx : ac.eval x = .slice a m c) (hbd : l.length + m ≤ 1000000) (hB : B ≤ w.heap.size)
    (h : ∀ v w', AppOEnd w w' B u v (l ++ news) → K (ac.put o.dst v) w') : o.wp Try.prog ac w K Q := by
  obtain ⟨v', w', hr, h2⟩ := run_app_all w B u l news o.type hown a m c L U H hbd hB
  unfold Oper.wp execOp
  simp only [ho, resolve, invoke, builtin, Sem.run_bind, Sem.run_pure, Result.andThen_ok, List.map_toArray, List.map_cons, List.map_nil, hs, hx, hr]
  exact h v' w' h2
theorem wpList_app_all (w : World) {ops : Array Oper} {rest : List Oper} {o : Oper} {ac : Act} {Q : Exit → Act → World → Prop} (hgd : o.guard = none) (s x : Operand)
    (ho : o.op = .call { callee := .builtin .append, args := #[s, x], argTypes := #[23, 23] }) (B : Nat) (u : Value) (l news : List LOp) (hown : OwnOps w B u l) (a : Option Addr) (m c L U : Nat) (H : OpsAt w L U a m news)
    (hs : ac.eval s = u) (hx : ac.eval x = .slice a m c) (hbd : l.length + m ≤ 1000000) (hB : B ≤ w.heap.size)
    (h : ∀ v w', AppOEnd w w' B u v (l ++ news) → wpList Try.prog ops Q rest (ac.put o.dst v) w') : wpList Try.prog ops Q (o :: rest) ac w :=
  wpList_plain hgd fun _ hK => wp_app_all w s x ho B u l news hown a m c L U H hs hx hbd hB fun v w' h2 => hK _ _ (h v w' h2)

theorem AppOEnd.belowW {w0 W w1 : World} {B : Nat} {u v : Value} {l r : List LOp} (hE : AppOEnd W w1 B u v r) (hown : OwnOps W B u l) (hb : Below B w0 W) (hsz : B ≤ W.heap.size) : Below B w0 w1 :=
  below_grown hb hE.grown (fun k e => (hown.lt k e).1) hsz
theorem fix_pair {cur : List LOp} {i k : Nat} (hi : i < cur.length) (hk : goesL cur i = (k : Int)) (hl : ∀ t, t < i → goesL cur t < 0) : pairStep cur = some (without cur (idAt cur i) i k) := by
  unfold pairStep
  rw [firstPair_some hi (by omega) hl, Option.map_some, hk]
  rfl
theorem fix_nopair {cur : List LOp} (hl : ∀ t, t < cur.length → goesL cur t < 0) : pairStep cur = none := by
  unfold pairStep
  rw [firstPair_none hl]; rfl

set_option maxHeartbeats 1000000 in
theorem pairs_any (a : Option Addr) (n c : Nat) (ops : List LOp) (L U : Nat) (w : World) (hn : n ≤ 1000) (hU : U ≤ w.heap.size) (H : OpsAt w L U a n ops) :
    Calls Try.prog 71 #[.slice a n c] w (SlimEnd w (pairsL ops)) := by
  have hlen : Hid (n = ops.length) := H.len
  have HSZ := H.sz
  go_enter Try.func71, Try.ntmps71
  go_wp2_with (first
    | (at_builtin; refine wpList_app_all _ rfl (.tmp 6) (.tmp 7) rfl w.heap.size _ [] ops (OwnOps.empty w _ (Nat.le_refl _)) a n c L U (H.below ((Below.refl _ _).alloc (Nat.le_refl _) _) hU) rfl rfl ?c2 ?c3 ?_)
    | go_in)
  case c2 => simp; omega
  case c3 => simp
  intro v1 w1 hE1
  have hown1 : OwnOps w1 w.heap.size v1 ops := by simpa using hE1.own
  have hb1 : Below w.heap.size w w1 := hE1.belowW (OwnOps.empty w _ (Nat.le_refl _)) ((Below.refl _ _).alloc (Nat.le_refl _) _) (by simp)
  clear hE1
  go_wp2_with fail
  go_loopg [3, 4] (n * (n + 1) + n) (fun g v q wr => ∃ (j : Nat) (cur : List LOp), q = .int .i64 j ∧ j ≤ cur.length ∧ cur.length ≤ n ∧ Hid (g = cur.length * (n + 1) + (cur.length - j)) ∧ Hid (OwnOps wr w.heap.size v cur) ∧ Hid (pairsL cur = pairsL ops) ∧ Hid (∀ t, t < j → goesL cur t < 0) ∧ Hid (∀ o ∈ cur, OpSz o) ∧ Below w.heap.size w wr)
  case atStart => exact ⟨0, ops, rfl, Nat.zero_le _, by have := hlen.out; omega, by show _ = _; rw [← hlen.out]; rfl, hown1, rfl, fun t ht => by omega, HSZ, hb1⟩
  case round =>
    obtain ⟨j, cur, rfl, hj, hcn, hk, hown, hfx, hno, hsz, hb⟩ := hrel
    obtain ⟨va, vc, rfl, HA⟩ := hown.out.at_ hsz.out
    by_cases hlt : j < cur.length
    · have hlt' : (j : Int) < (cur.length : Int) := by omega
      go_wp2_with fail
      refine (goes_any va cur.length vc cur _ _ j _ hlt (Nat.le_refl _) HA).mono ?_
      rintro e w2 ⟨rfl, hb2⟩
      have HA2 := HA.below hb2 (Nat.le_refl _)
      have hbb := hb.trans (hb2.mono hb.size)
      by_cases hg : goesL cur j < 0
      · have HG : Hid (∀ t, t < j + 1 → goesL cur t < 0) := fun t ht => by
          by_cases e : t = j
          · subst e; exact hg
          · exact hno.out t (by omega)
        have hg' : ¬ (0 : Int) ≤ goesL cur j := by omega
        have HO2 : Hid (OwnOps w2 w.heap.size _ cur) := hown.out.next hb2
        clear hg HA2 hown hno
        go_wp2_with fail
        go_roundg (cur.length * (n + 1) + (cur.length - (j + 1)))
        case measure => have := hk.out; omega
        case rel => exact ⟨j + 1, cur, by go_num, by omega, hcn, rfl, HO2.out, hfx.out, HG.out, hsz.out, hbb⟩
      · obtain ⟨k, hkk⟩ : ∃ k : Nat, goesL cur j = (k : Int) := ⟨(goesL cur j).toNat, by omega⟩
        have HST : Hid (pairStep cur = some (without cur (idAt cur j) j k)) := fix_pair hlt hkk hno.out
        obtain ⟨b, off, hva, _, hbU, hc⟩ := HA2.at_ (by omega)
        subst hva
        obtain ⟨x, he, _, hat⟩ := hc j hlt
        have d5 := hat.c5
        have hid : Hid (idAt cur j = x.id) := idAt_of he
        rw [hkk]
        clear hg hkk hc hat he
        go_wp2_with fail
        refine (without_any _ cur.length vc cur _ _ j k x.id _ (by omega) hb2.size HA2).mono ?_
        rintro e w3 ⟨⟨v3, rfl, hown3⟩, hb3⟩
        have hlt2 := pairs_shrink _ _ HST.out
        rw [hid.out] at hlt2
        have HF : Hid (pairsL (without cur x.id j k) = pairsL ops) := by
          show _ = _
          rw [← hfx.out, ← hid.out]
          exact (fixL_some pairs_shrink HST.out).symm
        have HZ : Hid (∀ o ∈ without cur x.id j k, OpSz o) := fun o ho => hsz.out o (keepTo_mem ho)
        have HO3 : Hid (OwnOps w3 w.heap.size v3 (without cur x.id j k)) := ⟨hown3.1, by
          rcases hown3.2 with h | ⟨g, cap, cu, h1, h2, h3⟩
          · exact .inl h
          · exact .inr ⟨g, cap, cu, h1, by have := hbb.size; omega, h3⟩⟩
        have hbc := hbb.trans (hb3.mono hbb.size)
        generalize without cur x.id j k = nx at *
        clear hown3 hown HA HA2 HST hfx hno hsz
        go_wp2_with fail
        go_roundg (nx.length * (n + 1) + (nx.length - 0))
        case measure =>
          have := hk.out
          have h1 : (nx.length + 1) * (n + 1) ≤ cur.length * (n + 1) := Nat.mul_le_mul_right _ hlt2
          rw [Nat.add_mul] at h1
          omega
        case rel => exact ⟨0, nx, by go_num, Nat.zero_le _, by omega, rfl, HO3.out, HF.out, fun t ht => by omega, HZ.out, hbc⟩
    · have hown' := hown.out
      have : pairStep cur = none := fix_nopair fun t ht => hno.out t (by omega)
      have HR : Hid (pairsL ops = cur) := by show _ = _; rw [← hfx.out]; exact fixL_none this
      obtain rfl : j = cur.length := by omega
      go_wp2_with fail
      go_ret
      exact ⟨⟨_, rfl, by rw [HR.out]; exact hown'⟩, hb⟩
end Go.Proofs.Ytkllejaamnojpaa
