/- Logs: made, by the program and by the specification. -/
import Derived.Test.YtdjffkiiglilnaaLogF
import Derived.Test.YtdjffkiiglilnaaSlimAll
namespace Go.Proofs.Ytdjffkiiglilnaa
open Go.RowKit

/-! Rows of bases, of one's own, that grow. -/
def baseCells (l : List LBase) : List Value := l.flatMap fun e => [Value.int .i64 e.id, Value.int .i64 e.ver]
theorem baseCells_len (l : List LBase) : (baseCells l).length = l.length * 2 := by
  induction l with
  | nil => rfl
  | cons o r ih => simp only [baseCells, List.flatMap_cons, List.length_append, List.length_cons] at ih ⊢; rw [ih]; simp; omega
theorem baseCells_app (l r : List LBase) : baseCells (l ++ r) = baseCells l ++ baseCells r := by simp [baseCells]
theorem baseCells_one (l : List LBase) : ∀ u ∈ baseCells l, u.oneCell' = true := by
  intro u hu
  simp only [baseCells, List.mem_flatMap] at hu
  obtain ⟨e, _, h⟩ := hu
  simp at h
  rcases h with rfl | rfl <;> rfl
theorem baseCells_at : ∀ (l : List LBase) (i : Nat) (e : LBase), l[i]? = some e → (baseCells l)[i * 2]? = some (.int .i64 e.id) ∧ (baseCells l)[i * 2 + 1]? = some (.int .i64 e.ver)
  | [], _, _, h => by simp at h
  | x :: l, 0, e, h => by simp at h; subst h; simp [baseCells]
  | x :: l, i + 1, e, h => by
    have := baseCells_at l i e (by simpa using h)
    have e1 : (i + 1) * 2 = i * 2 + 1 + 1 := by omega
    rw [e1]
    simpa [baseCells] using this
def OwnBases (w : World) (B : Nat) (v : Value) (l : List LBase) : Prop := w.ownsRow B 40 2 v l.length (baseCells l)
theorem OwnBases.bare (w : World) (B : Nat) : OwnBases w B (.slice none 0 0) [] := ⟨rfl, .inl ⟨rfl, rfl⟩⟩
theorem OwnBases.base {w : World} {B B' : Nat} {v : Value} {l : List LBase} (h : OwnBases w B v l) (hB : B' ≤ B) : OwnBases w B' v l := by
  rcases h with ⟨h0, h2⟩
  refine ⟨h0, ?_⟩
  rcases h2 with h2 | ⟨g', cap', cur, e, h3, h4⟩
  · exact .inl h2
  · exact .inr ⟨g', cap', cur, e, by omega, h4⟩
theorem infoBs : (Try.prog.info? 40).map (fun i => (i.zero, i.size, i.bytes)) = some (some (.agg #[.int .i64 0, .int .i64 0]), 2, 16) := by kernel_rfl
structure AppBEnd (w w' : World) (B : Nat) (u v : Value) (l : List LBase) : Prop where
  own : OwnBases w' B v l
  grown : w.grownBy w' u.ownBlock
theorem run_app_base (w : World) (ty : TypeId) (B : Nat) (u : Value) (l : List LBase) (e : LBase) (hown : OwnBases w B u l) (ad : Addr)
    (hnews : ∀ j u, (baseCells [e])[j]? = some u → w.cell? (ad.add j) = some u) (hbd : l.length + 1 ≤ 1000000) (hB : B ≤ w.heap.size) :
    ∃ v w', (Builtin.append_ #[26, 26] ty #[u, .slice (some ad) 1 1]).run Try.prog w = .ok v w' ∧ AppBEnd w w' B u v (l ++ [e]) := by
  obtain ⟨i0, hi, hz0, hz1, hz2⟩ := info_parts infoBs
  obtain ⟨v', w', hr, h2, h3, h4, h5⟩ := run_append_own_at (P := Try.prog) w B 26 ty 40 i0 _ 2 16 Try.underlying26 hi hz0 hz1 hz2 rfl (by decide) _ _ _ hown ad 1 1 (baseCells [e]) (baseCells_len _) hnews (baseCells_one _) (by unfold maxLen; omega) (by omega) hB
  exact ⟨v', w', hr, by unfold OwnBases; rw [baseCells_app, List.length_append]; exact h2, h3⟩
theorem wpList_app_base (w : World) {ops : Array Oper} {rest : List Oper} {o : Oper} {a : Act} {Q : Exit → Act → World → Prop} (hgd : o.guard = none) (s x : Operand)
    (ho : o.op = .call { callee := .builtin .append, args := #[s, x], argTypes := #[26, 26] }) (B : Nat) (u : Value) (l : List LBase) (e : LBase) (hown : OwnBases w B u l) (ad : Addr)
    (hs : a.eval s = u) (hx : a.eval x = .slice (some ad) 1 1)
    (hnews : ∀ j u, (baseCells [e])[j]? = some u → w.cell? (ad.add j) = some u) (hbd : l.length + 1 ≤ 1000000) (hB : B ≤ w.heap.size)
    (h : ∀ v w', AppBEnd w w' B u v (l ++ [e]) → wpList Try.prog ops Q rest (a.put o.dst v) w') : wpList Try.prog ops Q (o :: rest) a w := by
  obtain ⟨v', w', hr, h2⟩ := run_app_base w o.type B u l e hown ad hnews hbd hB
  refine wpList_plain hgd fun K hK => ?_
  unfold Oper.wp execOp
  simp only [ho, resolve, invoke, builtin, Sem.run_bind, Sem.run_pure, Result.andThen_ok, List.map_toArray, List.map_cons, List.map_nil, hs, hx, hr]
  exact hK _ _ (h v' w' h2)
theorem base_at {w : World} {e : LBase} {j : Nat} {u : Value} {q : Nat} (h : (baseCells [e])[j]? = some u) (hq : q = w.heap.size) : (w.alloc (Obj.cells #[.int .i64 e.id, .int .i64 e.ver] 40)).cell? ((⟨q, 0, none⟩ : Addr).add j) = some u := by
  subst hq
  have hadd : (⟨w.heap.size, 0, none⟩ : Addr).add j = ⟨w.heap.size, j, none⟩ := by unfold Addr.add; split <;> simp_all
  rw [hadd]
  have h1 : (#[Value.int .i64 e.id, Value.int .i64 e.ver] : Array Value)[j]? = some u := by simpa [baseCells] using h
  simp [go_sem, h1]

/-! The plain functions. -/
def basesL (os : List LObj) (ids : List Nat) : List LBase := ids.map fun (i : Nat) => ⟨(i : Int), verAt os (i : Int)⟩
def logMake (os : List LObj) (q s : Int) (ops : List LOp) : LLog := if specOk os && formsB ops then ⟨q, s, basesL os (logIds ops), ops⟩ else ⟨0, 0, [], []⟩
theorem basesL_snoc {os : List LObj} {ids : List Nat} {j i : Nat} (h : ids[j]? = some i) : basesL os (ids.take (j + 1)) = basesL os (ids.take j) ++ [⟨(i : Int), verAt os i⟩] := by
  rw [take_snocX h]; simp [basesL]
theorem basesL_len (os : List LObj) (ids : List Nat) : (basesL os ids).length = ids.length := by simp [basesL]

set_option maxHeartbeats 1000000 in
set_option maxRecDepth 20000 in
theorem basesIn_any (ta : Option Addr) (tc : Nat) (os : List LObj) (TL TU : Nat) (a : Option Addr) (n c : Nat) (ops : List LOp) (L U : Nat) (w : World) (hT : TU ≤ w.heap.size) (hU : U ≤ w.heap.size) (hnc : n ≤ c) (hcm : c ≤ maxLen) (HT : ObjsAt w TL TU ta 32 os) (H : OpsAt w L U a n ops) :
    Calls Try.prog 64 #[.agg #[.slice ta 32 tc], .slice a n c] w fun e w' => (∃ v, e = .returned v ∧ Hid (OwnBases w' w.heap.size v (basesL os (logIds ops)))) ∧ Below w.heap.size w w' := by
  have hA : Below w.heap.size w (w.alloc (Obj.cells #[.slice ta 32 tc] 25)) := (Below.refl _ _).alloc (Nat.le_refl _) _
  go_enter Try.func64, Try.ntmps64
  go_wp2_with fail
  refine (implLogIds _ _ _ ops L U _ (by simp; omega) hnc hcm (H.below hA hU)).mono ?_
  rintro e W2 ⟨⟨v2, rfl, hv2⟩, hb2⟩
  obtain ⟨ai, ci, rfl, hI⟩ := hv2.out.at_
  have hB2 : Below w.heap.size w W2 := hA.trans (hb2.mono (by simp))
  have t0 : W2.cell? ⟨w.heap.size, 0, none⟩ = some (.slice ta 32 tc) := by rw [hb2.cell (by simp)]; simp [go_sem]
  have hz2 : w.heap.size < W2.heap.size := by have := hb2.size; simp at this; omega
  have hle := logIds_le ops
  have hbd32 := logIds_bd ops
  obtain ⟨ids, hids⟩ : ∃ ids, ids = logIds ops := ⟨_, rfl⟩
  rw [← hids] at hI hle hbd32 ⊢
  have HBD : Hid (∀ i ∈ ids, i < 32) := hbd32
  have HI : Hid (IntsAt W2 (w.alloc (Obj.cells #[.slice ta 32 tc] 25)).heap.size W2.heap.size ai ids.length ids) := hI
  have HIDS : Hid (ids = logIds ops) := hids
  clear hv2 hb2 hA hI hids hbd32
  obtain ⟨tb, toff, rfl, hTL, hTU, htc⟩ := HT.at_ (by omega)
  go_wp2_with fail
  go_loopg [5, 11] ids.length (fun g v i wr => ∃ j : Nat, j ≤ ids.length ∧ Hid (g = ids.length - j) ∧ i = .int .i64 j ∧ Hid (OwnBases wr W2.heap.size v (basesL os (ids.take j))) ∧ Below W2.heap.size W2 wr)
  case atStart => exact ⟨0, Nat.zero_le _, rfl, rfl, OwnBases.bare _ _, Below.refl _ _⟩
  case round =>
    obtain ⟨j, hj, hk, rfl, hown, hb⟩ := hrel
    have hzr := hb.size
    by_cases hlt : j < ids.length
    · obtain ⟨g, x, rfl, hg1, hg2, hx, cx⟩ := HI.out.2 j hlt
      have hx32 : x < 32 := HBD.out x (List.mem_of_getElem? hx)
      obtain ⟨o, ka, kn, kc, hoi, _, _, g1, _⟩ := htc x (by omega)
      have HV : Hid (basesL os (ids.take (j + 1)) = basesL os (ids.take j) ++ [⟨(x : Int), o.ver⟩]) := by
        show _ = _
        rw [basesL_snoc hx]
        simp [verAt, hoi]
      rw [← hB2.cell (by simp; omega), ← hb.cell (by simp; omega)] at g1
      rw [← hb.cell (by simpa using hg2)] at cx
      have t1 : wr.cell? ⟨w.heap.size, 0, none⟩ = some (.slice (some ⟨tb, toff, none⟩) 32 tc) := by rw [hb.cell (by simp; omega)]; exact t0
      have hlt' : (j : Int) < (ids.length : Int) := by omega
      have hx32' : (x : Int) < 32 := by omega
      have hlen : (basesL os (ids.take j)).length ≤ 32 := by rw [basesL_len]; simp; omega
      clear hx hoi
      go_wp2_with (first
        | (at_builtin; refine wpList_app_base _ rfl (.tmp 15) (.tmp 24) rfl W2.heap.size _ (basesL os (ids.take j)) ⟨(x : Int), o.ver⟩ (World.ownsRow.alloc hown.out _) ⟨wr.heap.size, 0, none⟩ rfl rfl ?c1 ?c2 ?c3 ?_)
        | go_in)
      case c1 => intro i u hi; exact base_at hi rfl
      case c2 => omega
      case c3 => simp; omega
      intro v3 w3 hE
      have HO3 : Hid (OwnBases w3 W2.heap.size v3 (basesL os (ids.take (j + 1)))) := by show OwnBases _ _ _ _; rw [HV.out]; exact hE.own
      have hb3 : Below W2.heap.size W2 w3 := below_grown (hb.alloc hb.size _) hE.grown (fun k e => ((World.ownsRow.alloc hown.out (Obj.cells #[.int .i64 (x : Int), .int .i64 o.ver] 40)).lt k e).1) (by simp; omega)
      clear hE hown
      go_wp2_with fail
      go_roundg (ids.length - (j + 1))
      case measure => have := hk.out; omega
      case rel => exact ⟨j + 1, by omega, rfl, by go_num, HO3.out, hb3⟩
    · have hlt' : ¬ (j : Int) < (ids.length : Int) := by omega
      have HE : Hid (ids.take j = ids) := by show _ = _; rw [List.take_of_length_le (by omega)]
      go_wp2_with fail
      go_ret
      refine ⟨⟨_, rfl, ?_⟩, hB2.trans (hb.mono hB2.size)⟩
      show OwnBases _ _ _ _
      have h1 := hown.out
      rw [HE.out] at h1
      rw [← HIDS.out]
      exact h1.base (by omega)

theorem OwnBases.form {w : World} {B : Nat} {v : Value} {l : List LBase} (h : OwnBases w B v l) : ∃ a c, v = .slice a l.length c := by
  rcases h.2 with ⟨e, h0⟩ | ⟨g, cap, cur, e, _⟩
  · exact ⟨none, 0, by rw [e, h0]⟩
  · exact ⟨_, _, e⟩
theorem OwnOps.formS {w : World} {B : Nat} {v : Value} {l : List LOp} (h : OwnOps w B v l) : ∃ a c, v = .slice a l.length c := by
  rcases h.2 with ⟨e, h0⟩ | ⟨g, cap, cur, e, _⟩
  · exact ⟨none, 0, by rw [e, h0]⟩
  · exact ⟨_, _, e⟩
theorem OwnBases.next {w w' : World} {B : Nat} {v : Value} {l : List LBase} (h : OwnBases w B v l) (hb : Below w.heap.size w w') : OwnBases w' B v l := by
  rcases h with ⟨h0, h2⟩
  refine ⟨h0, ?_⟩
  rcases h2 with h2 | ⟨g', cap', cur, e, h3, h4, h5⟩
  · exact .inl h2
  · exact .inr ⟨g', cap', cur, e, h3, by rw [hb.block g' (Array.getElem?_eq_some_iff.1 h4).1]; exact h4, h5⟩
theorem OwnBases.setLow {w : World} {B : Nat} {v : Value} {l : List LBase} (h : OwnBases w B v l) (p : Addr) (x : Value) (hp : p.block < B) : OwnBases (w.setCell p x) B v l := by
  rcases h with ⟨h0, h2⟩
  refine ⟨h0, ?_⟩
  rcases h2 with h2 | ⟨g', cap', cur, e, h3, h4, h5⟩
  · exact .inl h2
  · exact .inr ⟨g', cap', cur, e, h3, by rw [Below.heap_setCell w p x g' (by omega)]; exact h4, h5⟩
theorem OwnOps.setLow {w : World} {B : Nat} {v : Value} {l : List LOp} (h : OwnOps w B v l) (p : Addr) (x : Value) (hp : p.block < B) : OwnOps (w.setCell p x) B v l := by
  rcases h with ⟨h0, h2⟩
  refine ⟨h0, ?_⟩
  rcases h2 with h2 | ⟨g', cap', cur, e, h3, h4, h5⟩
  · exact .inl h2
  · exact .inr ⟨g', cap', cur, e, h3, by rw [Below.heap_setCell w p x g' (by omega)]; exact h4, h5⟩
/-- What a made log leaves. -/
def MakeEnd (w : World) (l : LLog) (e : Ending) (w' : World) : Prop := (∃ v1 v2, e = .returned (.agg #[.int .i64 l.who, .int .i64 l.seq, v1, v2]) ∧ OwnBases w' w.heap.size v1 l.bases ∧ OwnOps w' w.heap.size v2 l.list) ∧ Below w.heap.size w w'
theorem logOf_any (q s : Int) (a : Option Addr) (n c : Nat) (a' : Option Addr) (n' c' : Nat) (w : World) :
    Calls Try.prog 66 #[.agg #[.int .i64 q, .int .i64 s, .slice a n c, .slice a' n' c']] w fun e w' => e = .returned (.agg #[.int .i64 q, .int .i64 s, .slice a n c, .slice a' n' c']) ∧ Below w.heap.size w w' := by
  go_enter Try.func66, Try.ntmps66
  go_wp2
  exact bodyPost_ret (v := .agg #[.int .i64 q, .int .i64 s, .slice a n c, .slice a' n' c']) (by simp [results, Try.results66, go_sem]) rfl ⟨rfl, by
    repeat (first | exact Below.refl _ _ | refine Below.setCell ?_ (by simp <;> omega) _ | refine Below.alloc ?_ (by simp <;> omega) _)⟩

set_option maxHeartbeats 1000000 in
set_option maxRecDepth 20000 in
theorem implLogMake (ta : Option Addr) (tn tc : Nat) (os : List LObj) (TL TU : Nat) (q s : Int) (a : Option Addr) (n c : Nat) (ops : List LOp) (L U : Nat) (w : World) (hT : TU ≤ w.heap.size) (hU : U ≤ w.heap.size) (hnc : n ≤ c) (hcm : c ≤ maxLen) (HT : ObjsAt w TL TU ta tn os) (H : OpsAt w L U a n ops) :
    Calls Try.prog 24 #[.agg #[.slice ta tn tc], .int .i64 q, .int .i64 s, .slice a n c] w (MakeEnd w (logMake os q s ops)) := by
  obtain ⟨w0, hw0⟩ : ∃ W : World, W = (w.alloc (Obj.cells #[.slice ta tn tc] 25)).alloc (Obj.cells #[.int .i64 0, .int .i64 0, .slice none 0 0, .slice none 0 0] 29) := ⟨_, rfl⟩
  have hA : Below w.heap.size w w0 := by rw [hw0]; exact ((Below.refl _ _).alloc (Nat.le_refl _) _).alloc (by simp) _
  have t0 : w0.cell? ⟨w.heap.size, 0, none⟩ = some (.slice ta tn tc) := by rw [hw0]; simp [go_sem]
  have HX : Hid (w0.rowIs (w.heap.size + 1) 29 4 (zrow #[.int .i64 0, .int .i64 0, .slice none 0 0, .slice none 0 0])) := by
    have := zrow_new (w.alloc (Obj.cells #[.slice ta tn tc] 25)) #[.int .i64 0, .int .i64 0, .slice none 0 0, .slice none 0 0] 29
    show World.rowIs _ _ _ _ _
    rw [hw0]
    simpa using this
  have hz0 : w0.heap.size = w.heap.size + 2 := by rw [hw0]; simp
  have hcells : ∀ W : World, Below w0.heap.size w0 W → (W.cell? ⟨w.heap.size + 1, 0, none⟩ = some (.int .i64 0) ∧ W.cell? ⟨w.heap.size + 1, 1, none⟩ = some (.int .i64 0) ∧ W.cell? ⟨w.heap.size + 1, 2, none⟩ = some (.slice none 0 0) ∧ W.cell? ⟨w.heap.size + 1, 3, none⟩ = some (.slice none 0 0)) ∧ ∀ o, W.frozen? ⟨w.heap.size + 1, o, none⟩ = false := fun W hb => by
    have hr := HX.out.of_block (hb.block _ (by omega))
    exact ⟨⟨by rw [hr.cell (by omega)]; rfl, by rw [hr.cell (by omega)]; rfl, by rw [hr.cell (by omega)]; rfl, by rw [hr.cell (by omega)]; rfl⟩, fun o => hr.frozen o⟩
  have HCL : Hid (∀ W : World, Below w0.heap.size w0 W → (W.cell? ⟨w.heap.size + 1, 0, none⟩ = some (.int .i64 0) ∧ W.cell? ⟨w.heap.size + 1, 1, none⟩ = some (.int .i64 0) ∧ W.cell? ⟨w.heap.size + 1, 2, none⟩ = some (.slice none 0 0) ∧ W.cell? ⟨w.heap.size + 1, 3, none⟩ = some (.slice none 0 0)) ∧ ∀ o, W.frozen? ⟨w.heap.size + 1, o, none⟩ = false) := hcells
  clear hcells HX
  go_enter Try.func24, Try.ntmps24
  go_upto_region 1 with fail
  rw [← hw0]
  clear hw0
  go_wp2_with fail
  refine (implTreeOk _ _ _ os TL TU _ (by omega) (HT.below hA hT)).mono ?_
  rintro e w1 ⟨rfl, hb1⟩
  have hz1 := hb1.size
  have hB1 : Below w.heap.size w w1 := hA.trans (hb1.mono hA.size)
  rcases ho : specOk os with _ | _
  · have HV : Hid (logMake os q s ops = ⟨0, 0, [], []⟩) := by show _ = _; simp [logMake, ho]
    obtain ⟨⟨e0, e1, e2, e3⟩, f1⟩ := HCL.out w1 hb1
    clear HCL
    go_wp2_with fail
    refine bodyPost_ret (v := .agg #[.int .i64 0, .int .i64 0, .slice none 0 0, .slice none 0 0]) (by simp [results, Try.results24, go_sem, e0, e1, e2, e3]) rfl ?_
    rw [HV.out]
    exact ⟨⟨_, _, rfl, OwnBases.bare _ _, OwnOps.nil_ _ _⟩, by repeat (first | exact hB1 | refine Below.setCell ?_ (by simp <;> omega) _)⟩
  go_wp2_with fail
  refine (listOk_any _ _ _ ops L U _ (by omega) (H.below hB1 hU)).mono ?_
  rintro e w2 ⟨rfl, hb2⟩
  have hz2 := hb2.size
  have hB2 : Below w.heap.size w w2 := hB1.trans (hb2.mono hB1.size)
  have hb02 : Below w0.heap.size w0 w2 := hb1.trans (hb2.mono hz1)
  rcases hf : formsB ops with _ | _
  · have HV : Hid (logMake os q s ops = ⟨0, 0, [], []⟩) := by show _ = _; simp [logMake, hf]
    obtain ⟨⟨e0, e1, e2, e3⟩, f1⟩ := HCL.out w2 hb02
    clear HCL
    go_wp2_with fail
    refine bodyPost_ret (v := .agg #[.int .i64 0, .int .i64 0, .slice none 0 0, .slice none 0 0]) (by simp [results, Try.results24, go_sem, e0, e1, e2, e3]) rfl ?_
    rw [HV.out]
    exact ⟨⟨_, _, rfl, OwnBases.bare _ _, OwnOps.nil_ _ _⟩, by repeat (first | exact hB2 | refine Below.setCell ?_ (by simp <;> omega) _)⟩
  have HV : Hid (logMake os q s ops = ⟨q, s, basesL os (logIds ops), ops⟩) := by show _ = _; simp [logMake, ho, hf]
  have hn60 : n ≤ 60 := by rw [H.len]; exact formsB_len hf
  have h32 : tn = 32 := by rw [HT.len, specOk_32 ho]
  have t2 : w2.cell? ⟨w.heap.size, 0, none⟩ = some (.slice ta tn tc) := by rw [hb2.cell (by simp; omega), hb1.cell (by simp; omega)]; exact t0
  have HSZ : Hid (∀ o ∈ ops, OpSz o) := H.sz
  clear hb1 hb2 ho hf t0 hB1
  subst h32
  go_wp2_with fail
  refine (basesIn_any _ _ os TL TU _ _ _ ops L U _ (by omega) (by omega) hnc hcm (HT.below hB2 hT) (H.below hB2 hU)).mono ?_
  rintro e w3 ⟨⟨v3, rfl, hv3⟩, hb3⟩
  obtain ⟨a3, c3, rfl⟩ := hv3.out.form
  have hB3 : Below w.heap.size w w3 := hB2.trans (hb3.mono hB2.size)
  have hz3 := hb3.size
  have hb03 : Below w0.heap.size w0 w3 := hb02.trans (hb3.mono (by omega))
  go_wp2_with fail
  refine (copy_list _ _ _ ops L U _ (by omega) (H.below hB3 hU)).mono ?_
  rintro e w4 ⟨⟨v4, rfl, ho4⟩, hb4⟩
  obtain ⟨a4, c4, rfl⟩ := OwnOps.formS ho4
  have hv4 := hv3.out.next hb4
  have hz4 := hb4.size
  have hB4 : Below w.heap.size w w4 := hB3.trans (hb4.mono hB3.size)
  have hb04 : Below w0.heap.size w0 w4 := hb03.trans (hb4.mono (by omega))
  have HO4 : Hid (OwnOps w4 w3.heap.size (.slice a4 ops.length c4) ops) := ho4
  have HV4 : Hid (OwnBases w4 w2.heap.size (.slice a3 (basesL os (logIds ops)).length c3) (basesL os (logIds ops))) := hv4
  clear hb3 hb4 hb03 hb02 hv3 ho4 hv4 hB3 hB2
  have hal : Below w4.heap.size w4 (w4.alloc (Obj.cells #[.int .i64 q, .int .i64 s, .slice a3 (basesL os (logIds ops)).length c3, .slice a4 ops.length c4] 85)) := (Below.refl _ _).alloc (Nat.le_refl _) _
  generalize hbl : (basesL os (logIds ops)).length = bl at *
  go_wp2_with fail
  refine (logOf_any _ _ _ _ _ _ _ _ _).mono ?_
  rintro e w5 ⟨rfl, hb5⟩
  have hb45 : Below w4.heap.size w4 w5 := hal.trans (hb5.mono (by simp))
  have hb05 : Below w0.heap.size w0 w5 := hb04.trans (hb45.mono (by omega))
  obtain ⟨⟨e0, e1, e2, e3⟩, f1⟩ := HCL.out w5 hb05
  have hB5 : Below w.heap.size w w5 := hB4.trans (hb45.mono hB4.size)
  have hO5 : OwnOps w5 w3.heap.size (.slice a4 ops.length c4) ops := HO4.out.next hb45
  have hV5 := HV4.out.next hb45
  clear HCL hb5 hb45 hal hb05 hb04
  go_wp2_with fail
  refine bodyPost_ret (v := .agg #[.int .i64 q, .int .i64 s, .slice a3 bl c3, .slice a4 ops.length c4]) (by simp [results, Try.results24, go_sem, e0, e1, e2, e3]) rfl ?_
  rw [HV.out]
  refine ⟨⟨_, _, rfl, OwnBases.base (B := w2.heap.size) ?_ (by omega), OwnOps.base (B := w3.heap.size) ?_ (by omega)⟩, ?_⟩
  · repeat (first | (rw [hbl] at hV5; exact hV5) | exact hV5 | refine OwnBases.setLow ?_ _ _ (by simp <;> omega))
  · repeat (first | exact hO5 | refine OwnOps.setLow ?_ _ _ (by simp <;> omega))
  · repeat (first | exact hB5 | refine Below.setCell ?_ (by simp <;> omega) _)
end Go.Proofs.Ytdjffkiiglilnaa
