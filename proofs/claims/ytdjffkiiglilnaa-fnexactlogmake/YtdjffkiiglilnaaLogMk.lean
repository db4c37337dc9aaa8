import Derived.Test.YtdjffkiiglilnaaLogF
import Derived.Test.YtdjffkiiglilnaaSlimS2
import Derived.Test.YtdjffkiiglilnaaSlimI11
import Derived.Test.YtdjffkiiglilnaaSlimI4
import Derived.Deep.CutBlock
import Derived.Test.YtdjffkiiglilnaaSlimS5
import Derived.Test.YtdjffkiiglilnaaOpSame
/- Logs: made, by the program and by the specification. -/
namespace Go.Proofs.Ytdjffkiiglilnaa
open Go.RowKit

/-! Rows of bases, of one's own, that grow. -/
def baseCells (l : List LBase) : List Value := l.flatMap fun e => [Value.int .i64 e.id, Value.int .i64 e.ver]
theorem baseCells_len (l : List LBase) : (baseCells l).length = l.length * 2 := by
  induction l with
  | nil => rfl
  | cons o r ih => simp only [baseCells, List.flatMap_cons, List.length_append, List.length_cons] at ih ⊢; rw [ih]; simp; omega
theorem baseCells_app (l r : List LBase) : baseCells (l ++ r) = baseCells l ++ baseCells r := by simp [baseCells]
theorem baseCells_one (l : List LBase) : ∀ u ∈ baseCells l, u.oneCell' = true := by
  intro u hu
  simp only [baseCells, List.mem_flatMap] at hu
  obtain ⟨e, _, h⟩ := hu
  simp at h
  rcases h with rfl | rfl <;> rfl
theorem baseCells_at : ∀ (l : List LBase) (i : Nat) (e : LBase), l[i]? = some e → (baseCells l)[i * 2]? = some (.int .i64 e.id) ∧ (baseCells l)[i * 2 + 1]? = some (.int .i64 e.ver)
  | [], _, _, h => by simp at h
  | x :: l, 0, e, h => by simp at h; subst h; simp [baseCells]
  | x :: l, i + 1, e, h => by
    have := baseCells_at l i e (by simpa using h)
    have e1 : (i + 1) * 2 = i * 2 + 1 + 1 := by omega
    rw [e1]
    simpa [baseCells] using this
def OwnBases (w : World) (B : Nat) (v : Value) (l : List LBase) : Prop := w.ownsRow B 40 2 v l.length (baseCells l)
theorem OwnBases.bare (w : World) (B : Nat) : OwnBases w B (.slice none 0 0) [] := ⟨rfl, .inl ⟨rfl, rfl⟩⟩
theorem OwnBases.base {w : World} {B B' : Nat} {v : Value} {l : List LBase} (h : OwnBases w B v l) (hB : B' ≤ B) : OwnBases w B' v l := by
  rcases h with ⟨h0, h2⟩
  refine ⟨h0, ?_⟩
  rcases h2 with h2 | ⟨g', cap', cur, e, h3, h4⟩
  · exact .inl h2
  · exact .inr ⟨g', cap', cur, e, by omega, h4⟩
theorem infoBs : (Try.prog.info? 40).map (fun i => (i.zero, i.size, i.bytes)) = some (some (.agg #[.int .i64 0, .int .i64 0]), 2, 16) := by kernel_rfl
structure AppBEnd (w w' : World) (B : Nat) (u v : Value) (l : List LBase) : Prop where
  own : OwnBases w' B v l
  grown : w.grownBy w' u.ownBlock
theorem run_app_base (w : World) (ty : TypeId) (B : Nat) (u : Value) (l : List LBase) (e : LBase) (hown : OwnBases w B u l) (ad : Addr)
    (hnews : ∀ j u, (baseCells [e])[j]? = some u → w.cell? (ad.add j) = some u) (hbd : l.length + 1 ≤ 1000000) (hB : B ≤ w.heap.size) :
    ∃ v w', (Builtin.append_ #[26, 26] ty #[u, .slice (some ad) 1 1]).run Try.prog w = .ok v w' ∧ AppBEnd w w' B u v (l ++ [e]) := by
  obtain ⟨i0, hi, hz0, hz1, hz2⟩ := info_parts infoBs
  obtain ⟨v', w', hr, h2, h3, h4, h5⟩ := run_append_own_at (P := Try.prog) w B 26 ty 40 i0 _ 2 16 Try.underlying26 hi hz0 hz1 hz2 rfl (by decide) _ _ _ hown ad 1 1 (baseCells [e]) (baseCells_len _) hnews (baseCells_one _) (by unfold maxLen; omega) (by omega) hB
  exact ⟨v', w', hr, by unfold OwnBases; rw [baseCells_app, List.length_append]; exact h2, h3⟩
theorem wpList_app_base (w : World) {ops : Array Oper} {rest : List Oper} {o : Oper} {a : Act} {Q : Exit → Act → World → Prop} (hgd : o.guard = none) (s x : Operand)
    (ho : o.op = .call { callee := .builtin .append, args := #[s, x], argTypes := #[26, 26] }) (B : Nat) (u : Value) (l : List LBase) (e : LBase) (hown : OwnBases w B u l) (ad : Addr)
    (hs : a.eval s = u) (hx : a.eval x = .slice (some ad) 1 1)
    (hnews : ∀ j u, (baseCells [e])[j]? = some u → w.cell? (ad.add j) = some u) (hbd : l.length + 1 ≤ 1000000) (hB : B ≤ w.heap.size)
    (h : ∀ v w', AppBEnd w w' B u v (l ++ [e]) → wpList Try.prog ops Q rest (a.put o.dst v) w') : wpList Try.prog ops Q (o :: rest) a w := by
  obtain ⟨v', w', hr, h2⟩ := run_app_base w o.type B u l e hown ad hnews hbd hB
  refine wpList_plain hgd fun K hK => ?_
  unfold Oper.wp execOp
  simp only [ho, resolve, invoke, builtin, Sem.run_bind, Sem.run_pure, Result.andThen_ok, List.map_toArray, List.map_cons, List.map_nil, hs, hx, hr]
  exact hK _ _ (h v' w' h2)
theorem base_at {w : World} {e : LBase} {j : Nat} {u : Value} {q : Nat} (h : (baseCells [e])[j]? = some u) (hq : q = w.heap.size) : (w.alloc (Obj.cells #[.int .i64 e.id, .int .i64 e.ver] 40)).cell? ((⟨q, 0, none⟩ : Addr).add j) = some u := by
  subst hq
  have hadd : (⟨w.heap.size, 0, none⟩ : Addr).add j = ⟨w.heap.size, j, none⟩ := by unfold Addr.add; split <;> simp_all
  rw [hadd]
  have h1 : (#[Value.int .i64 e.id, Value.int .i64 e.ver] : Array Value)[j]? = some u := by simpa [baseCells] using h
  simp [go_sem, h1]

/-! The plain functions. -/
def basesL (os : List LObj) (ids : List Nat) : List LBase := ids.map fun (i : Nat) => ⟨(i : Int), verAt os (i : Int)⟩
def logMake (os : List LObj) (q s : Int) (ops : List LOp) : LLog := if specOk os && formsB ops then ⟨q, s, basesL os (logIds ops), ops⟩ else ⟨0, 0, [], []⟩
theorem basesL_snoc {os : List LObj} {ids : List Nat} {j i : Nat} (h : ids[j]? = some i) : basesL os (ids.take (j + 1)) = basesL os (ids.take j) ++ [⟨(i : Int), verAt os i⟩] := by
  rw [take_snocX h]; simp [basesL]
theorem basesL_len (os : List LObj) (ids : List Nat) : (basesL os ids).length = ids.length := by simp [basesL]

set_option maxHeartbeats 1000000 in
set_option maxRecDepth 20000 in
theorem basesIn_any (ta : Option Addr) (tc : Nat) (os : List LObj) (TL TU : Nat) (a : Option Addr) (n c : Nat) (ops : List LOp) (L U : Nat) (w : World) (hT : TU ≤ w.heap.size) (hU : U ≤ w.heap.size) (hnc : n ≤ c) (hcm : c ≤ maxLen) (HT : ObjsAt w TL TU ta 32 os) (H : OpsAt w L U a n ops) :
    Calls Try.prog 64 #[.agg #[.slice ta 32 tc], .slice a n c] w fun e w' => (∃ v, e = .returned v ∧ Hid (OwnBases w' w.heap.size v (basesL os (logIds ops)))) ∧ Below w.heap.size w w' := by
  have hA : Below w.heap.size w (w.alloc (Obj.cells #[.slice ta 32 tc] 25)) := (Below.refl _ _).alloc (Nat.le_refl _) _
  go_enter Try.func64, Try.ntmps64
  go_wp2_with fail
  refine (implLogIds _ _ _ ops L U _ (by simp; omega) hnc hcm (H.below hA hU)).mono ?_
  rintro e W2 ⟨⟨v2, rfl, hv2⟩, hb2⟩
  obtain ⟨ai, ci, rfl, hI⟩ := hv2.out.at_
  have hB2 : Below w.heap.size w W2 := hA.trans (hb2.mono (by simp))
  have t0 : W2.cell? ⟨w.heap.size, 0, none⟩ = some (.slice ta 32 tc) := by rw [hb2.cell (by simp)]; simp [go_sem]
  have hz2 : w.heap.size < W2.heap.size := by have := hb2.size; simp at this; omega
  have hle := logIds_le ops
  have hbd32 := logIds_bd ops
  obtain ⟨ids, hids⟩ : ∃ ids, ids = logIds ops := ⟨_, rfl⟩
  rw [← hids] at hI hle hbd32 ⊢
  have HBD : Hid (∀ i ∈ ids, i < 32) := hbd32
  have HI : Hid (IntsAt W2 (w.alloc (Obj.cells #[.slice ta 32 tc] 25)).heap.size W2.heap.size ai ids.length ids) := hI
  have HIDS : Hid (ids = logIds ops) := hids
  clear hv2 hb2 hA hI hids hbd32
  obtain ⟨tb, toff, rfl, hTL, hTU, htc⟩ := HT.at_ (by omega)
  go_wp2_with fail
  go_loopg [5, 11] ids.length (fun g v i wr => ∃ j : Nat, j ≤ ids.length ∧ Hid (g = ids.length - j) ∧ i = .int .i64 j ∧ Hid (OwnBases wr W2.heap.size v (basesL os (ids.take j))) ∧ Below W2.heap.size W2 wr)
  case atStart => exact ⟨0, Nat.zero_le _, rfl, rfl, OwnBases.bare _ _, Below.refl _ _⟩
  case round =>
    obtain ⟨j, hj, hk, rfl, hown, hb⟩ := hrel
    have hzr := hb.size
    by_cases hlt : j < ids.length
    · obtain ⟨g, x, rfl, hg1, hg2, hx, cx⟩ := HI.out.2 j hlt
      have hx32 : x < 32 := HBD.out x (List.mem_of_getElem? hx)
      obtain ⟨o, ka, kn, kc, hoi, _, _, g1, _⟩ := htc x (by omega)
      have HV : Hid (basesL os (ids.take (j + 1)) = basesL os (ids.take j) ++ [⟨(x : Int), o.ver⟩]) := by
        show _ = _
        rw [basesL_snoc hx]
        simp [verAt, hoi]
      rw [← hB2.cell (by simp; omega), ← hb.cell (by simp; omega)] at g1
      rw [← hb.cell (by simpa using hg2)] at cx
      have t1 : wr.cell? ⟨w.heap.size, 0, none⟩ = some (.slice (some ⟨tb, toff, none⟩) 32 tc) := by rw [hb.cell (by simp; omega)]; exact t0
      have hlt' : (j : Int) < (ids.length : Int) := by omega
      have hx32' : (x : Int) < 32 := by omega
      have hlen : (basesL os (ids.take j)).length ≤ 32 := by rw [basesL_len]; simp; omega
      clear hx hoi
      go_wp2_with (first
        | (at_builtin; refine wpList_app_base _ rfl (.tmp 15) (.tmp 24) rfl W2.heap.size _ (basesL os (ids.take j)) ⟨(x : Int), o.ver⟩ (World.ownsRow.alloc hown.out _) ⟨wr.heap.size, 0, none⟩ rfl rfl ?c1 ?c2 ?c3 ?_)
        | go_in)
      case c1 => intro i u hi; exact base_at hi rfl
      case c2 => omega
      case c3 => simp; omega
      intro v3 w3 hE
      have HO3 : Hid (OwnBases w3 W2.heap.size v3 (basesL os (ids.take (j + 1)))) := by show OwnBases _ _ _ _; rw [HV.out]; exact hE.own
      have hb3 : Below W2.heap.size W2 w3 := below_grown (hb.alloc hb.size _) hE.grown (fun k e => ((World.ownsRow.alloc hown.out (Obj.cells #[.int .i64 (x : Int), .int .i64 o.ver] 40)).lt k e).1) (by simp; omega)
      clear hE hown
      go_wp2_with fail
      go_roundg (ids.length - (j + 1))
      case measure => have := hk.out; omega
      case rel => exact ⟨j + 1, by omega, rfl, by go_num, HO3.out, hb3⟩
    · have hlt' : ¬ (j : Int) < (ids.length : Int) := by omega
      have HE : Hid (ids.take j = ids) := by show _ = _; rw [List.take_of_length_le (by omega)]
      go_wp2_with fail
      go_ret
      refine ⟨⟨_, rfl, ?_⟩, hB2.trans (hb.mono hB2.size)⟩
      show OwnBases _ _ _ _
      have h1 := hown.out
      rw [HE.out] at h1
      rw [← HIDS.out]
      exact h1.base (by omega)

theorem OwnBases.form {w : World} {B : Nat} {v : Value} {l : List LBase} (h : OwnBases w B v l) : ∃ a c, v = .slice a l.length c := by
  rcases h.2 with ⟨e, h0⟩ | ⟨g, cap, cur, e, _⟩
  · exact ⟨none, 0, by rw [e, h0]⟩
  · exact ⟨_, _, e⟩
theorem OwnOps.formS {w : World} {B : Nat} {v : Value} {l : List LOp} (h : OwnOps w B v l) : ∃ a c, v = .slice a l.length c := by
  rcases h.2 with ⟨e, h0⟩ | ⟨g, cap, cur, e, _⟩
  · exact ⟨none, 0, by rw [e, h0]⟩
  · exact ⟨_, _, e⟩
theorem OwnBases.next {w w' : World} {B : Nat} {v : Value} {l : List LBase} (h : OwnBases w B v l) (hb : Below w.heap.size w w') : OwnBases w' B v l := by
  rcases h with ⟨h0, h2⟩
  refine ⟨h0, ?_⟩
  rcases h2 with h2 | ⟨g', cap', cur, e, h3, h4, h5⟩
  · exact .inl h2
  · exact .inr ⟨g', cap', cur, e, h3, by rw [hb.block g' (Array.getElem?_eq_some_iff.1 h4).1]; exact h4, h5⟩
theorem OwnBases.setLow {w : World} {B : Nat} {v : Value} {l : List LBase} (h : OwnBases w B v l) (p : Addr) (x : Value) (hp : p.block < B) : OwnBases (w.setCell p x) B v l := by
  rcases h with ⟨h0, h2⟩
  refine ⟨h0, ?_⟩
  rcases h2 with h2 | ⟨g', cap', cur, e, h3, h4, h5⟩
  · exact .inl h2
  · exact .inr ⟨g', cap', cur, e, h3, by rw [Below.heap_setCell w p x g' (by omega)]; exact h4, h5⟩
theorem OwnOps.setLow {w : World} {B : Nat} {v : Value} {l : List LOp} (h : OwnOps w B v l) (p : Addr) (x : Value) (hp : p.block < B) : OwnOps (w.setCell p x) B v l := by
  rcases h with ⟨h0, h2⟩
  refine ⟨h0, ?_⟩
  rcases h2 with h2 | ⟨g', cap', cur, e, h3, h4, h5⟩
  · exact .inl h2
  · exact .inr ⟨g', cap', cur, e, h3, by rw [Below.heap_setCell w p x g' (by omega)]; exact h4, h5⟩
/-- What a made log leaves. -/
def MakeEnd (w : World) (l : LLog) (e : Ending) (w' : World) : Prop := (∃ v1 v2, e = .returned (.agg #[.int .i64 l.who, .int .i64 l.seq, v1, v2]) ∧ OwnBases w' w.heap.size v1 l.bases ∧ OwnOps w' w.heap.size v2 l.list) ∧ Below w.heap.size w w'
theorem logOf_any (q s : Int) (a : Option Addr) (n c : Nat) (a' : Option Addr) (n' c' : Nat) (w : World) :
    Calls Try.prog 66 #[.agg #[.int .i64 q, .int .i64 s, .slice a n c, .slice a' n' c']] w fun e w' => e = .returned (.agg #[.int .i64 q, .int .i64 s, .slice a n c, .slice a' n' c']) ∧ Below w.heap.size w w' := by
  go_enter Try.func66, Try.ntmps66
  go_wp2
  exact bodyPost_ret (v := .agg #[.int .i64 q, .int .i64 s, .slice a n c, .slice a' n' c']) (by simp [results, Try.results66, go_sem]) rfl ⟨rfl, by
    repeat (first | exact Below.refl _ _ | refine Below.setCell ?_ (by simp <;> omega) _ | refine Below.alloc ?_ (by simp <;> omega) _)⟩

set_option maxHeartbeats 1000000 in
set_option maxRecDepth 20000 in
theorem implLogMake (ta : Option Addr) (tn tc : Nat) (os : List LObj) (TL TU : Nat) (q s : Int) (a : Option Addr) (n c : Nat) (ops : List LOp) (L U : Nat) (w : World) (hT : TU ≤ w.heap.size) (hU : U ≤ w.heap.size) (hnc : n ≤ c) (hcm : c ≤ maxLen) (HT : ObjsAt w TL TU ta tn os) (H : OpsAt w L U a n ops) :
    Calls Try.prog 24 #[.agg #[.slice ta tn tc], .int .i64 q, .int .i64 s, .slice a n c] w (MakeEnd w (logMake os q s ops)) := by
  obtain ⟨w0, hw0⟩ : ∃ W : World, W = (w.alloc (Obj.cells #[.slice ta tn tc] 25)).alloc (Obj.cells #[.int .i64 0, .int .i64 0, .slice none 0 0, .slice none 0 0] 29) := ⟨_, rfl⟩
  have hA : Below w.heap.size w w0 := by rw [hw0]; exact ((Below.refl _ _).alloc (Nat.le_refl _) _).alloc (by simp) _
  have t0 : w0.cell? ⟨w.heap.size, 0, none⟩ = some (.slice ta tn tc) := by rw [hw0]; simp [go_sem]
  have HX : Hid (w0.rowIs (w.heap.size + 1) 29 4 (zrow #[.int .i64 0, .int .i64 0, .slice none 0 0, .slice none 0 0])) := by
    have := zrow_new (w.alloc (Obj.cells #[.slice ta tn tc] 25)) #[.int .i64 0, .int .i64 0, .slice none 0 0, .slice none 0 0] 29
    show World.rowIs _ _ _ _ _
    rw [hw0]
    simpa using this
  have hz0 : w0.heap.size = w.heap.size + 2 := by rw [hw0]; simp
  have hcells : ∀ W : World, Below w0.heap.size w0 W → (W.cell? ⟨w.heap.size + 1, 0, none⟩ = some (.int .i64 0) ∧ W.cell? ⟨w.heap.size + 1, 1, none⟩ = some (.int .i64 0) ∧ W.cell? ⟨w.heap.size + 1, 2, none⟩ = some (.slice none 0 0) ∧ W.cell? ⟨w.heap.size + 1, 3, none⟩ = some (.slice none 0 0)) ∧ ∀ o, W.frozen? ⟨w.heap.size + 1, o, none⟩ = false := fun W hb => by
    have hr := HX.out.of_block (hb.block _ (by omega))
    exact ⟨⟨by rw [hr.cell (by omega)]; rfl, by rw [hr.cell (by omega)]; rfl, by rw [hr.cell (by omega)]; rfl, by rw [hr.cell (by omega)]; rfl⟩, fun o => hr.frozen o⟩
  have HCL : Hid (∀ W : World, Below w0.heap.size w0 W → (W.cell? ⟨w.heap.size + 1, 0, none⟩ = some (.int .i64 0) ∧ W.cell? ⟨w.heap.size + 1, 1, none⟩ = some (.int .i64 0) ∧ W.cell? ⟨w.heap.size + 1, 2, none⟩ = some (.slice none 0 0) ∧ W.cell? ⟨w.heap.size + 1, 3, none⟩ = some (.slice none 0 0)) ∧ ∀ o, W.frozen? ⟨w.heap.size + 1, o, none⟩ = false) := hcells
  clear hcells HX
  go_enter Try.func24, Try.ntmps24
  go_upto_region 1 with fail
  rw [← hw0]
  clear hw0
  go_wp2_with fail
  refine (implTreeOk _ _ _ os TL TU _ (by omega) (HT.below hA hT)).mono ?_
  rintro e w1 ⟨rfl, hb1⟩
  have hz1 := hb1.size
  have hB1 : Below w.heap.size w w1 := hA.trans (hb1.mono hA.size)
  rcases ho : specOk os with _ | _
  · have HV : Hid (logMake os q s ops = ⟨0, 0, [], []⟩) := by show _ = _; simp [logMake, ho]
    obtain ⟨⟨e0, e1, e2, e3⟩, f1⟩ := HCL.out w1 hb1
    clear HCL
    go_wp2_with fail
    refine bodyPost_ret (v := .agg #[.int .i64 0, .int .i64 0, .slice none 0 0, .slice none 0 0]) (by simp [results, Try.results24, go_sem, e0, e1, e2, e3]) rfl ?_
    rw [HV.out]
    exact ⟨⟨_, _, rfl, OwnBases.bare _ _, OwnOps.nil_ _ _⟩, by repeat (first | exact hB1 | refine Below.setCell ?_ (by simp <;> omega) _)⟩
  go_wp2_with fail
  refine (listOk_any _ _ _ ops L U _ (by omega) (H.below hB1 hU)).mono ?_
  rintro e w2 ⟨rfl, hb2⟩
  have hz2 := hb2.size
  have hB2 : Below w.heap.size w w2 := hB1.trans (hb2.mono hB1.size)
  have hb02 : Below w0.heap.size w0 w2 := hb1.trans (hb2.mono hz1)
  rcases hf : formsB ops with _ | _
  · have HV : Hid (logMake os q s ops = ⟨0, 0, [], []⟩) := by show _ = _; simp [logMake, hf]
    obtain ⟨⟨e0, e1, e2, e3⟩, f1⟩ := HCL.out w2 hb02
    clear HCL
    go_wp2_with fail
    refine bodyPost_ret (v := .agg #[.int .i64 0, .int .i64 0, .slice none 0 0, .slice none 0 0]) (by simp [results, Try.results24, go_sem, e0, e1, e2, e3]) rfl ?_
    rw [HV.out]
    exact ⟨⟨_, _, rfl, OwnBases.bare _ _, OwnOps.nil_ _ _⟩, by repeat (first | exact hB2 | refine Below.setCell ?_ (by simp <;> omega) _)⟩
  have HV : Hid (logMake os q s ops = ⟨q, s, basesL os (logIds ops), ops⟩) := by show _ = _; simp [logMake, ho, hf]
  have hn60 : n ≤ 60 := by rw [H.len]; exact formsB_len hf
  have h32 : tn = 32 := by rw [HT.len, specOk_32 ho]
  have t2 : w2.cell? ⟨w.heap.size, 0, none⟩ = some (.slice ta tn tc) := by rw [hb2.cell (by simp; omega), hb1.cell (by simp; omega)]; exact t0
  have HSZ : Hid (∀ o ∈ ops, OpSz o) := H.sz
  clear hb1 hb2 ho hf t0 hB1
  subst h32
  go_wp2_with fail
  refine (basesIn_any _ _ os TL TU _ _ _ ops L U _ (by omega) (by omega) hnc hcm (HT.below hB2 hT) (H.below hB2 hU)).mono ?_
  rintro e w3 ⟨⟨v3, rfl, hv3⟩, hb3⟩
  obtain ⟨a3, c3, rfl⟩ := hv3.out.form
  have hB3 : Below w.heap.size w w3 := hB2.trans (hb3.mono hB2.size)
  have hz3 := hb3.size
  have hb03 : Below w0.heap.size w0 w3 := hb02.trans (hb3.mono (by omega))
  go_wp2_with fail
  refine (copy_list _ _ _ ops L U _ (by omega) (H.below hB3 hU)).mono ?_
  rintro e w4 ⟨⟨v4, rfl, ho4⟩, hb4⟩
  obtain ⟨a4, c4, rfl⟩ := OwnOps.formS ho4
  have hv4 := hv3.out.next hb4
  have hz4 := hb4.size
  have hB4 : Below w.heap.size w w4 := hB3.trans (hb4.mono hB3.size)
  have hb04 : Below w0.heap.size w0 w4 := hb03.trans (hb4.mono (by omega))
  have HO4 : Hid (OwnOps w4 w3.heap.size (.slice a4 ops.length c4) ops) := ho4
  have HV4 : Hid (OwnBases w4 w2.heap.size (.slice a3 (basesL os (logIds ops)).length c3) (basesL os (logIds ops))) := hv4
  clear hb3 hb4 hb03 hb02 hv3 ho4 hv4 hB3 hB2
  have hal : Below w4.heap.size w4 (w4.alloc (Obj.cells #[.int .i64 q, .int .i64 s, .slice a3 (basesL os (logIds ops)).length c3, .slice a4 ops.length c4] 85)) := (Below.refl _ _).alloc (Nat.le_refl _) _
  generalize hbl : (basesL os (logIds ops)).length = bl at *
  go_wp2_with fail
  refine (logOf_any _ _ _ _ _ _ _ _ _).mono ?_
  rintro e w5 ⟨rfl, hb5⟩
  have hb45 : Below w4.heap.size w4 w5 := hal.trans (hb5.mono (by simp))
  have hb05 : Below w0.heap.size w0 w5 := hb04.trans (hb45.mono (by omega))
  obtain ⟨⟨e0, e1, e2, e3⟩, f1⟩ := HCL.out w5 hb05
  have hB5 : Below w.heap.size w w5 := hB4.trans (hb45.mono hB4.size)
  have hO5 : OwnOps w5 w3.heap.size (.slice a4 ops.length c4) ops := HO4.out.next hb45
  have hV5 := HV4.out.next hb45
  clear HCL hb5 hb45 hal hb05 hb04
  go_wp2_with fail
  refine bodyPost_ret (v := .agg #[.int .i64 q, .int .i64 s, .slice a3 bl c3, .slice a4 ops.length c4]) (by simp [results, Try.results24, go_sem, e0, e1, e2, e3]) rfl ?_
  rw [HV.out]
  refine ⟨⟨_, _, rfl, OwnBases.base (B := w2.heap.size) ?_ (by omega), OwnOps.base (B := w3.heap.size) ?_ (by omega)⟩, ?_⟩
  · repeat (first | (rw [hbl] at hV5; exact hV5) | exact hV5 | refine OwnBases.setLow ?_ _ _ (by simp <;> omega))
  · repeat (first | exact hO5 | refine OwnOps.setLow ?_ _ _ (by simp <;> omega))
  · repeat (first | exact hB5 | refine Below.setCell ?_ (by simp <;> omega) _)
end Go.Proofs.Ytdjffkiiglilnaa

/- Logs: made by the specification. -/
namespace Go.Proofs.Ytdjffkiiglilnaa
open Go.RowKit

theorem OwnOps.keepBut {w w' : World} {B b : Nat} {v : Value} {l : List LOp} (h : OwnOps w B v l) (hb : But b w w') (hlt : b < B) : OwnOps w' B v l := by
  refine ⟨h.1, ?_⟩
  rcases h.2 with hn | ⟨g, cap, cur, rfl, hB, hgg, rest⟩
  · exact .inl hn
  · refine .inr ⟨g, cap, cur, rfl, hB, ?_, rest⟩
    rw [hb.block g (by omega) (Array.getElem?_eq_some_iff.1 hgg).1]
    exact hgg
theorem But.andGrown {q : Nat} {W V V' : World} {row : Option Nat} (h : But q W V) (hg : V.grownBy V' row) (hr : ∀ k, row = some k → W.heap.size ≤ k) (hq : q < W.heap.size := by omega) : But q W V' :=
  ⟨h.below.trans (below_grown (Below.refl _ _) hg (fun k e => by have := hr k e; omega) (by have := h.below.size; omega)), fun i hi hlt => (hg.block i (by have := h.below.size; omega) (fun e => by have := hr i e.symm; omega)).trans (h.block i hi hlt)⟩
section
variable {ops : Array Oper} {ac : Act} {K : Act → World → Prop} {Q : Exit → Act → World → Prop} {E : Prop} {ty : TypeId} {ps : String} {af : Array Edge}
theorem st_buildB (W : World) (d t : Nat) (e : LBase) (hx : ac.tmps[t]?.getD undef = .agg #[.int .i64 e.id, .int .i64 e.ver])
    (h : ∀ q W', q = W.heap.size → Below W.heap.size W W' → (∀ j u, (baseCells [e])[j]? = some u → W'.cell? ((⟨q, 0, none⟩ : Addr).add j) = some u) → K (ac.put (some d) (.slice (some ⟨q, 0, none⟩) 1 1)) W') :
    if Region.wanted { dst := some d, op := .buildSlice 26 1 #[(0, .tmp t)], type := ty, pos := ps, after := af, guard := none } (yielded ops ac.tmps) = true then Oper.wp Try.prog { dst := some d, op := .buildSlice 26 1 #[(0, .tmp t)], type := ty, pos := ps, after := af, guard := none } ac W K Q else E := by
  rw [if_pos (by simp [Region.wanted])]
  have := h W.heap.size (W.alloc (.cells #[.int .i64 e.id, .int .i64 e.ver] 40)) rfl ((Below.refl _ _).alloc (Nat.le_refl _) _) (fun j u hj => base_at hj rfl)
  unfold Oper.wp
  go_simp
  exact this
theorem st_appB (W : World) (d ts tx B : Nat) (u : Value) (l : List LBase) (e : LBase) (hown : OwnBases W B u l) (ad : Addr) (hs' : ac.eval (.tmp ts) = u) (hx' : ac.eval (.tmp tx) = .slice (some ad) 1 1)
    (hnews : ∀ j u, (baseCells [e])[j]? = some u → W.cell? (ad.add j) = some u) (hbd : l.length + 1 ≤ 1000000) (hB : B ≤ W.heap.size)
    (h : ∀ v W', AppBEnd W W' B u v (l ++ [e]) → K (ac.put (some d) v) W') :
    if Region.wanted { dst := some d, op := .call { callee := .builtin .append, args := #[.tmp ts, .tmp tx], argTypes := #[26, 26] }, type := ty, pos := ps, after := af, guard := none } (yielded ops ac.tmps) = true then Oper.wp Try.prog { dst := some d, op := .call { callee := .builtin .append, args := #[.tmp ts, .tmp tx], argTypes := #[26, 26] }, type := ty, pos := ps, after := af, guard := none } ac W K Q else E := by
  rw [if_pos (by simp [Region.wanted])]
  obtain ⟨v', w', hr, h2⟩ := run_app_base W ty B u l e hown ad hnews hbd hB
  unfold Oper.wp execOp
  simp only [resolve, invoke, builtin, Sem.run_bind, Sem.run_pure, Result.andThen_ok, List.map_toArray, List.map_cons, List.map_nil, hs', hx', hr]
  exact h v' w' h2
end

set_option maxHeartbeats 2000000 in
set_option maxRecDepth 20000 in
theorem specLogMake (ta : Option Addr) (tn tc : Nat) (os : List LObj) (TL TU : Nat) (q s : Int) (a : Option Addr) (n c : Nat) (ops : List LOp) (L U : Nat) (w : World) (hT : TU ≤ w.heap.size) (hU : U ≤ w.heap.size) (hSz : Sizes os 1048576) (HT : ObjsAt w TL TU ta tn os) (H : OpsAt w L U a n ops) :
    Calls Try.prog 21 #[.agg #[.slice ta tn tc], .int .i64 q, .int .i64 s, .slice a n c] w (MakeEnd w (logMake os q s ops)) := by
  obtain ⟨w0, hw0⟩ : ∃ W : World, W = ((w.alloc (Obj.cells #[.slice ta tn tc] 25)).alloc (Obj.cells #[.int .i64 0, .int .i64 0, .slice none 0 0, .slice none 0 0] 29)).alloc (Obj.cells #[.int .i64 q, .int .i64 s, .slice none 0 0, .slice none 0 0] 29) := ⟨_, rfl⟩
  have hA : Below w.heap.size w w0 := by rw [hw0]; exact (((Below.refl _ _).alloc (Nat.le_refl _) _).alloc (by simp) _).alloc (by simp; omega) _
  have t0 : w0.cell? ⟨w.heap.size, 0, none⟩ = some (.slice ta tn tc) := by rw [hw0]; simp [go_sem]
  have HX : Hid (w0.rowIs (w.heap.size + 1) 29 4 (zrow #[.int .i64 0, .int .i64 0, .slice none 0 0, .slice none 0 0])) := by
    have := (zrow_new (w.alloc (Obj.cells #[.slice ta tn tc] 25)) #[.int .i64 0, .int .i64 0, .slice none 0 0, .slice none 0 0] 29).alloc (Obj.cells #[.int .i64 q, .int .i64 s, .slice none 0 0, .slice none 0 0] 29)
    show World.rowIs _ _ _ _ _
    rw [hw0]
    simpa using this
  have HY : Hid (w0.rowIs (w.heap.size + 2) 29 4 (zrow #[.int .i64 q, .int .i64 s, .slice none 0 0, .slice none 0 0])) := by
    have := zrow_new ((w.alloc (Obj.cells #[.slice ta tn tc] 25)).alloc (Obj.cells #[.int .i64 0, .int .i64 0, .slice none 0 0, .slice none 0 0] 29)) #[.int .i64 q, .int .i64 s, .slice none 0 0, .slice none 0 0] 29
    show World.rowIs _ _ _ _ _
    rw [hw0]
    simpa using this
  have hz0 : w0.heap.size = w.heap.size + 3 := by rw [hw0]; simp
  go_enter Try.func21, Try.ntmps21
  go_upto_region 2 with fail
  rw [← hw0]
  clear hw0
  go_wp2_with fail
  refine (specTreeOk _ _ _ os TL TU _ hSz (by omega) (HT.below hA hT)).mono ?_
  rintro e w1 ⟨rfl, hb1⟩
  have hz1 := hb1.size
  have hB1 : Below w.heap.size w w1 := hA.trans (hb1.mono hA.size)
  rcases ho : specOk os with _ | _
  · have HV : Hid (logMake os q s ops = ⟨0, 0, [], []⟩) := by show _ = _; simp [logMake, ho]
    have hr := HX.out.of_block (hb1.block _ (by omega))
    have e0 := hr.cell (i := 0) (by omega)
    have e1 := hr.cell (i := 1) (by omega)
    have e2 := hr.cell (i := 2) (by omega)
    have e3 := hr.cell (i := 3) (by omega)
    simp [zrow] at e0 e1 e2 e3
    have f1 : ∀ o, w1.frozen? ⟨w.heap.size + 1, o, none⟩ = false := fun o => hr.frozen o
    clear HX HY hr
    go_wp2_with fail
    refine bodyPost_ret (v := .agg #[.int .i64 0, .int .i64 0, .slice none 0 0, .slice none 0 0]) (by simp [results, Try.results21, go_sem, e0, e1, e2, e3]) rfl ?_
    rw [HV.out]
    exact ⟨⟨_, _, rfl, OwnBases.bare _ _, OwnOps.nil_ _ _⟩, by repeat (first | exact hB1 | refine Below.setCell ?_ (by simp <;> omega) _)⟩
  go_wp2_with fail
  refine (forms_any _ _ _ ops L U _ (by omega) (H.below hB1 hU)).mono ?_
  rintro e w2 ⟨rfl, hb2⟩
  have hz2 := hb2.size
  have hB2 : Below w.heap.size w w2 := hB1.trans (hb2.mono hB1.size)
  have hb02 : Below w0.heap.size w0 w2 := hb1.trans (hb2.mono hz1)
  rcases hf : formsB ops with _ | _
  · have HV : Hid (logMake os q s ops = ⟨0, 0, [], []⟩) := by show _ = _; simp [logMake, hf]
    have hr := HX.out.of_block (hb02.block _ (by omega))
    have e0 := hr.cell (i := 0) (by omega)
    have e1 := hr.cell (i := 1) (by omega)
    have e2 := hr.cell (i := 2) (by omega)
    have e3 := hr.cell (i := 3) (by omega)
    simp [zrow] at e0 e1 e2 e3
    have f1 : ∀ o, w2.frozen? ⟨w.heap.size + 1, o, none⟩ = false := fun o => hr.frozen o
    clear HX HY hr
    go_wp2_with fail
    refine bodyPost_ret (v := .agg #[.int .i64 0, .int .i64 0, .slice none 0 0, .slice none 0 0]) (by simp [results, Try.results21, go_sem, e0, e1, e2, e3]) rfl ?_
    rw [HV.out]
    exact ⟨⟨_, _, rfl, OwnBases.bare _ _, OwnOps.nil_ _ _⟩, by repeat (first | exact hB2 | refine Below.setCell ?_ (by simp <;> omega) _)⟩
  have HV0 : Hid (logMake os q s ops = ⟨q, s, basesL os (logIds ops), ops⟩) := by show _ = _; simp [logMake, ho, hf]
  have hn60 : n ≤ 60 := by rw [H.len]; exact formsB_len hf
  have h32 : tn = 32 := by rw [HT.len, specOk_32 ho]
  have t2 : w2.cell? ⟨w.heap.size, 0, none⟩ = some (.slice ta tn tc) := by rw [hb02.cell (by simp; omega)]; exact t0
  have HX2 : Hid (w2.rowIs (w.heap.size + 1) 29 4 (zrow #[.int .i64 0, .int .i64 0, .slice none 0 0, .slice none 0 0])) := HX.out.of_block (hb02.block _ (by omega))
  have HY2 : Hid (w2.rowIs (w.heap.size + 2) 29 4 (zrow #[.int .i64 q, .int .i64 s, .slice none 0 0, .slice none 0 0])) := HY.out.of_block (hb02.block _ (by omega))
  have e3 : w2.cell? ⟨w.heap.size + 2, 3, none⟩ = some (.slice none 0 0) := by rw [HY2.out.cell (by omega)]; rfl
  have f3 : w2.frozen? ⟨w.heap.size + 2, 3, none⟩ = false := HY2.out.frozen 3
  clear hb1 hb2 ho hf t0 hB1 HX HY hb02
  subst h32
  have hE0 : OwnOps (w2.alloc (Obj.cells #[] 99)) w2.heap.size (.slice (some ⟨w2.heap.size, 0, none⟩) 0 0) [] := OwnOps.empty w2 _ (Nat.le_refl _)
  have hA2 : Below w.heap.size w (w2.alloc (Obj.cells #[] 99)) := hB2.alloc hB2.size _
  go_wp2_with (first
    | (at_builtin; refine wpList_app_all _ rfl (.tmp 24) (.tmp 25) rfl w2.heap.size _ [] ops hE0 a n c L U (H.below hA2 hU) rfl rfl ?c2 ?c3 ?_)
    | go_in)
  case c2 => simp; omega
  case c3 => simp
  intro v3 w3 hE3
  obtain ⟨a3, c3, hv3⟩ := OwnOps.formS hE3.own
  subst hv3
  have hlt2 : w.heap.size + 2 < w2.heap.size := by omega
  have hgr : ∀ b, b < w2.heap.size → w3.heap[b]? = w2.heap[b]? := fun b hb => by
    rw [hE3.grown.block b (by simp; omega) (by simp [Value.ownBlock]; omega)]
    exact ((Below.refl w2.heap.size w2).alloc (Nat.le_refl _) _).block b hb
  have HX3 := HX2.out.of_block (hgr _ (by omega))
  have HY3 := HY2.out.of_block (hgr _ hlt2)
  have hB3 : Below w.heap.size w w3 := below_grown hA2 hE3.grown (fun k e => by simp [Value.ownBlock] at e; omega) (by simp; omega)
  have g3 : w3.cell? ⟨w.heap.size + 2, 3, none⟩ = some (.slice none 0 0) := by rw [HY3.cell (by omega)]; rfl
  have gf3 : w3.frozen? ⟨w.heap.size + 2, 3, none⟩ = false := HY3.frozen 3
  have hz3 : w2.heap.size ≤ w3.heap.size := by have h9 := hE3.grown.size; simp only [World.alloc] at h9; simp at h9; omega
  have HO3 : Hid (OwnOps w3 w2.heap.size (.slice a3 ops.length c3) ops) := hE3.own
  have t3 : w3.cell? ⟨w.heap.size, 0, none⟩ = some (.slice ta 32 tc) := by rw [World.cell?_of_block (w := w2) (hgr w.heap.size (by omega))]; exact t2
  obtain ⟨W4, hW4⟩ : ∃ W : World, W = w3.setCell ⟨w.heap.size + 2, 3, none⟩ (.slice a3 ops.length c3) := ⟨_, rfl⟩
  have HX4 : Hid (W4.rowIs (w.heap.size + 1) 29 4 (zrow #[.int .i64 0, .int .i64 0, .slice none 0 0, .slice none 0 0])) := by
    show World.rowIs _ _ _ _ _
    rw [hW4]
    exact HX3.of_block (Below.heap_setCell w3 _ _ _ (by simp))
  have HY4 : Hid (W4.rowIs (w.heap.size + 2) 29 4 (zrow #[.int .i64 q, .int .i64 s, .slice none 0 0, .slice a3 ops.length c3])) := by
    show World.rowIs _ _ _ _ _
    rw [hW4]
    exact (HY3.set 3 _).congr (fun i hi => by rcases i with _ | _ | _ | _ | i <;> first | rfl | omega)
  have HO4 : Hid (OwnOps W4 w2.heap.size (.slice a3 ops.length c3) ops) := by
    show OwnOps _ _ _ _
    rw [hW4]
    exact HO3.out.setLow _ _ (by simpa using hlt2)
  have hB4 : Below w.heap.size w W4 := by rw [hW4]; exact hB3.setCell (by simp) _
  have hz4 : W4.heap.size = w3.heap.size := by rw [hW4]; simp
  have t4 : W4.cell? ⟨w.heap.size, 0, none⟩ = some (.slice ta 32 tc) := by rw [hW4, World.cell?_of_block (w := w3) (Below.heap_setCell w3 _ _ _ (by simp))]; exact t3
  clear hE3 HX3 HY3 HO3 hgr hB3 hE0 hA2 HX2 HY2 t2 t3 e3 f3
  go_wp2_with fail
  rw [← hW4]
  clear hW4 g3 gf3
  refine (specLogIds _ _ _ ops L U _ (by omega) (H.below hB4 hU)).mono ?_
  rintro e W5 ⟨⟨v5, rfl, hv5⟩, hb5⟩
  obtain ⟨ai, ci, rfl, hI⟩ := hv5.out.at_
  have hle := logIds_le ops
  have hbd32 := logIds_bd ops
  obtain ⟨ids, hids⟩ : ∃ ids, ids = logIds ops := ⟨_, rfl⟩
  rw [← hids] at hI hle hbd32 ⊢
  have HBD : Hid (∀ i ∈ ids, i < 32) := hbd32
  have HI : Hid (IntsAt W5 W4.heap.size W5.heap.size ai ids.length ids) := hI
  have HIDS : Hid (ids = logIds ops) := hids
  have HX5 : Hid (W5.rowIs (w.heap.size + 1) 29 4 (zrow #[.int .i64 0, .int .i64 0, .slice none 0 0, .slice none 0 0])) := HX4.out.of_block (hb5.block _ (by omega))
  have HY5 : Hid (W5.rowIs (w.heap.size + 2) 29 4 (zrow #[.int .i64 q, .int .i64 s, .slice none 0 0, .slice a3 ops.length c3])) := HY4.out.of_block (hb5.block _ (by omega))
  have HO5 : Hid (OwnOps W5 w2.heap.size (.slice a3 ops.length c3) ops) := HO4.out.next hb5
  have t5 : W5.cell? ⟨w.heap.size, 0, none⟩ = some (.slice ta 32 tc) := by rw [hb5.cell (by simp; omega)]; exact t4
  have hB5 : Below w.heap.size w W5 := hB4.trans (hb5.mono hB4.size)
  have hz5 := hb5.size
  clear hv5 hb5 hI hids hbd32 HX4 HY4 HO4 t4 hB4
  obtain ⟨tb, toff, rfl, hTL, hTU, htc⟩ := HT.at_ (by omega)
  go_wp2_with fail
  go_loopg [11] ids.length (fun g i wr => ∃ j : Nat, j ≤ ids.length ∧ Hid (g = ids.length - j) ∧ i = .int .i64 j ∧ (∃ a1 n1 c1, Hid (wr.rowIs (w.heap.size + 2) 29 4 (zrow #[.int .i64 q, .int .i64 s, .slice a1 n1 c1, .slice a3 ops.length c3])) ∧ Hid (OwnBases wr W5.heap.size (.slice a1 n1 c1) (basesL os (ids.take j)))) ∧ But (w.heap.size + 2) W5 wr)
  case atStart => exact ⟨0, Nat.zero_le _, rfl, rfl, ⟨none, 0, 0, HY5.out, OwnBases.bare _ _⟩, But.refl _ _⟩
  case round =>
    obtain ⟨j, hj, hk, rfl, ⟨a1, n1, c1, hrow0, hown0⟩, hQ0⟩ := hrel
    have hzr := hQ0.below.size
    by_cases hlt : j < ids.length
    · obtain ⟨gi, x, rfl, hg1, hg2, hx, cx⟩ := HI.out.2 j hlt
      have hx32 : x < 32 := HBD.out x (List.mem_of_getElem? hx)
      obtain ⟨o, ka, kn, kc, hoi, _, _, g1, _⟩ := htc x (by omega)
      have HV : Hid (basesL os (ids.take (j + 1)) = basesL os (ids.take j) ++ [⟨(x : Int), o.ver⟩]) := by
        show _ = _
        rw [basesL_snoc hx]
        simp [verAt, hoi]
      rw [← hB5.cell (by simp; omega)] at g1
      have g5 := g1
      have cx5 := cx
      rw [← hQ0.cell (by simp; omega) (by simp; omega)] at g1
      rw [← hQ0.cell (by simp; omega) (by simpa using hg2)] at cx
      have t1 : wr.cell? ⟨w.heap.size, 0, none⟩ = some (.slice (some ⟨tb, toff, none⟩) 32 tc) := by rw [hQ0.cell (by simp) (by simp; omega)]; exact t5
      have hlt' : (j : Int) < (ids.length : Int) := by omega
      have hx32' : (x : Int) < 32 := by omega
      have hlen : (basesL os (ids.take j)).length ≤ 32 := by rw [basesL_len]; simp; omega
      obtain ⟨lst, hlst⟩ : ∃ v : Value, v = .slice a3 ops.length c3 := ⟨_, rfl⟩
      rw [← hlst] at hrow0
      clear hx hoi
      go_upto_block 1 with fail
      go_cut [] (fun wx => ∃ a1 n1 c1, wx.rowIs (w.heap.size + 2) 29 4 (zrow #[.int .i64 q, .int .i64 s, .slice a1 n1 c1, lst]) ∧ OwnBases wx W5.heap.size (.slice a1 n1 c1) (basesL os (ids.take (j + 1))) ∧ But (w.heap.size + 2) W5 wx)
      case first =>
        go_upto_region 9 with fail
        refine wp_region_held_drew (S := (fun W => W.cell? ⟨gi, j, none⟩ = some (.int .i64 (x : Int)) ∧ W.cell? ⟨w.heap.size, 0, none⟩ = some (.slice (some ⟨tb, toff, none⟩) 32 tc) ∧ W.cell? ⟨tb, toff + x * 4 + 1, none⟩ = some (.int .i64 o.ver))) (by kernel_rfl) ?_ (fun hHeld => ?_)
        · exact ⟨cx, t1, g1⟩
        refine listH (l2 := #[false, false, false, false, false, false, false, false, false, false, false, false, false, false, false, false, false, false, false, false]) (by kernel_rfl) ?_
        have hQ : But (w.heap.size + 2) W5 wr.drew := hQ0.next (by have := hQ0.below.size; omega) (Below.refl _ _).drew
        have hrow : wr.drew.rowIs (w.heap.size + 2) 29 4 (zrow #[.int .i64 q, .int .i64 s, .slice a1 n1 c1, lst]) := hrow0.out
        have hown : OwnBases wr.drew W5.heap.size (.slice a1 n1 c1) (basesL os (ids.take j)) := hown0.out
        refine takeH (i := 0) (oi := _) (v := ?vk1) 36 #[true, false, false, false, false, false, false, false, false, false, false, false, false, false, false, false, false, false, false, false] rfl (by kernel_rfl) (by kernel_rfl) (by kernel_rfl) rfl (by kernel_rfl) (fun _ _ _ h => h) (Or.inl ⟨by rfl, ?yk1⟩) (by assumption) ?rk1
        case yk1 => (intro w' hSw; obtain ⟨cx, tx, g1⟩ := hSw; go_simp; try with_reducible rfl)
        simp only [Act.put, List.setIfInBounds_toArray, List.set_cons_succ, List.set_cons_zero]
        refine takeH (i := 2) (oi := _) (v := ?vk2) 38 #[true, false, true, false, false, false, false, false, false, false, false, false, false, false, false, false, false, false, false, false] rfl (by kernel_rfl) (by kernel_rfl) (by kernel_rfl) rfl (by kernel_rfl) (fun _ _ _ h => h) (Or.inl ⟨by rfl, ?yk2⟩) (by assumption) ?rk2
        case yk2 => (intro w' hSw; obtain ⟨cx, tx, g1⟩ := hSw; go_simp; try with_reducible rfl)
        simp only [Act.put, List.setIfInBounds_toArray, List.set_cons_succ, List.set_cons_zero]
        refine takeH (i := 3) (oi := _) (v := ?vk3) 39 #[true, false, true, true, false, false, false, false, false, false, false, false, false, false, false, false, false, false, false, false] rfl (by kernel_rfl) (by kernel_rfl) (by kernel_rfl) rfl (by kernel_rfl) (fun _ _ _ h => h) (Or.inl ⟨by rfl, ?yk3⟩) (by assumption) ?rk3
        case yk3 => (intro w' hSw; obtain ⟨cx, tx, g1⟩ := hSw; go_simp; try with_reducible rfl)
        simp only [Act.put, List.setIfInBounds_toArray, List.set_cons_succ, List.set_cons_zero]
        refine takeH (i := 4) (oi := _) (v := ?vk4) 40 #[true, false, true, true, true, false, false, false, false, false, false, false, false, false, false, false, false, false, false, false] rfl (by kernel_rfl) (by kernel_rfl) (by kernel_rfl) rfl (by kernel_rfl) (fun _ _ _ h => h) (Or.inl ⟨by rfl, ?yk4⟩) (by assumption) ?rk4
        case yk4 => (intro w' hSw; obtain ⟨cx, tx, g1⟩ := hSw; go_simp; try with_reducible rfl)
        simp only [Act.put, List.setIfInBounds_toArray, List.set_cons_succ, List.set_cons_zero]
        refine takeH (i := 5) (oi := _) (v := ?vk5) 41 #[true, false, true, true, true, true, false, false, false, false, false, false, false, false, false, false, false, false, false, false] rfl (by kernel_rfl) (by kernel_rfl) (by kernel_rfl) rfl (by kernel_rfl) (fun _ _ _ h => h) (Or.inl ⟨by rfl, ?yk5⟩) (by assumption) ?rk5
        case yk5 => (intro w' hSw; obtain ⟨cx, tx, g1⟩ := hSw; go_simp; try with_reducible rfl)
        simp only [Act.put, List.setIfInBounds_toArray, List.set_cons_succ, List.set_cons_zero]
        refine takeH (i := 6) (oi := _) (v := ?vk6) 42 #[true, false, true, true, true, true, true, false, false, false, false, false, false, false, false, false, false, false, false, false] rfl (by kernel_rfl) (by kernel_rfl) (by kernel_rfl) rfl (by kernel_rfl) (fun _ _ _ h => h) (Or.inl ⟨by rfl, ?yk6⟩) (by assumption) ?rk6
        case yk6 => (intro w' hSw; obtain ⟨cx, tx, g1⟩ := hSw; go_simp; try with_reducible rfl)
        simp only [Act.put, List.setIfInBounds_toArray, List.set_cons_succ, List.set_cons_zero]
        refine takeH (i := 7) (oi := _) (v := ?vk7) 43 #[true, false, true, true, true, true, true, true, false, false, false, false, false, false, false, false, false, false, false, false] rfl (by kernel_rfl) (by kernel_rfl) (by kernel_rfl) rfl (by kernel_rfl) (fun _ _ _ h => h) (Or.inl ⟨by rfl, ?yk7⟩) (by assumption) ?rk7
        case yk7 => (intro w' hSw; obtain ⟨cx, tx, g1⟩ := hSw; go_simp; try with_reducible rfl)
        simp only [Act.put, List.setIfInBounds_toArray, List.set_cons_succ, List.set_cons_zero]
        refine takeH (i := 8) (oi := _) (v := ?vk8) 44 #[true, false, true, true, true, true, true, true, true, false, false, false, false, false, false, false, false, false, false, false] rfl (by kernel_rfl) (by kernel_rfl) (by kernel_rfl) rfl (by kernel_rfl) (fun _ _ _ h => h) (Or.inl ⟨by rfl, ?yk8⟩) (by assumption) ?rk8
        case yk8 => (intro w' hSw; obtain ⟨cx, tx, g1⟩ := hSw; go_simp; try with_reducible rfl)
        simp only [Act.put, List.setIfInBounds_toArray, List.set_cons_succ, List.set_cons_zero]
        refine takeH (i := 9) (oi := _) (v := ?vk9) 45 #[true, false, true, true, true, true, true, true, true, true, false, false, false, false, false, false, false, false, false, false] rfl (by kernel_rfl) (by kernel_rfl) (by kernel_rfl) rfl (by kernel_rfl) (fun _ _ _ h => h) (Or.inl ⟨by rfl, ?yk9⟩) (by assumption) ?rk9
        case yk9 => (intro w' hSw; obtain ⟨cx, tx, g1⟩ := hSw; go_simp; try with_reducible rfl)
        simp only [Act.put, List.setIfInBounds_toArray, List.set_cons_succ, List.set_cons_zero]
        refine takeH (i := 10) (oi := _) (v := ?vk10) 46 #[true, false, true, true, true, true, true, true, true, true, true, false, false, false, false, false, false, false, false, false] rfl (by kernel_rfl) (by kernel_rfl) (by kernel_rfl) rfl (by kernel_rfl) (fun _ _ _ h => h) (Or.inl ⟨by rfl, ?yk10⟩) (by assumption) ?rk10
        case yk10 => (intro w' hSw; obtain ⟨cx, tx, g1⟩ := hSw; go_simp; try with_reducible rfl)
        simp only [Act.put, List.setIfInBounds_toArray, List.set_cons_succ, List.set_cons_zero]
        refine takeH (i := 11) (oi := _) (v := ?vk11) 47 #[true, false, true, true, true, true, true, true, true, true, true, true, false, false, false, false, false, false, false, false] rfl (by kernel_rfl) (by kernel_rfl) (by kernel_rfl) rfl (by kernel_rfl) (fun _ _ _ h => h) (Or.inl ⟨by rfl, ?yk11⟩) (by assumption) ?rk11
        case yk11 => (intro w' hSw; obtain ⟨cx, tx, g1⟩ := hSw; go_simp; try with_reducible rfl)
        simp only [Act.put, List.setIfInBounds_toArray, List.set_cons_succ, List.set_cons_zero]
        refine takeH (i := 12) (oi := _) (v := ?vk12) 48 #[true, false, true, true, true, true, true, true, true, true, true, true, true, false, false, false, false, false, false, false] rfl (by kernel_rfl) (by kernel_rfl) (by kernel_rfl) rfl (by kernel_rfl) (fun _ _ _ h => h) (Or.inl ⟨by rfl, ?yk12⟩) (by assumption) ?rk12
        case yk12 => (intro w' hSw; obtain ⟨cx, tx, g1⟩ := hSw; go_simp; try with_reducible rfl)
        simp only [Act.put, List.setIfInBounds_toArray, List.set_cons_succ, List.set_cons_zero]
        refine takeH (i := 13) (oi := _) (v := ?vk13) 49 #[true, false, true, true, true, true, true, true, true, true, true, true, true, true, false, false, false, false, false, false] rfl (by kernel_rfl) (by kernel_rfl) (by kernel_rfl) rfl (by kernel_rfl) (fun _ _ _ h => h) (Or.inl ⟨by rfl, ?yk13⟩) (by assumption) ?rk13
        case yk13 => (intro w' hSw; obtain ⟨cx, tx, g1⟩ := hSw; go_simp; try with_reducible rfl)
        simp only [Act.put, List.setIfInBounds_toArray, List.set_cons_succ, List.set_cons_zero]
        refine takeH (i := 14) (oi := _) (v := ?vk14) 50 #[true, false, true, true, true, true, true, true, true, true, true, true, true, true, true, false, false, false, false, false] rfl (by kernel_rfl) (by kernel_rfl) (by kernel_rfl) rfl (by kernel_rfl) (fun _ _ _ h => h) (Or.inl ⟨by rfl, ?yk14⟩) (by assumption) ?rk14
        case yk14 => (intro w' hSw; obtain ⟨cx, tx, g1⟩ := hSw; go_simp; try with_reducible rfl)
        simp only [Act.put, List.setIfInBounds_toArray, List.set_cons_succ, List.set_cons_zero]
        refine takeH (i := 15) (oi := _) (v := ?vk15) 51 #[true, false, true, true, true, true, true, true, true, true, true, true, true, true, true, true, false, false, false, false] rfl (by kernel_rfl) (by kernel_rfl) (by kernel_rfl) rfl (by kernel_rfl) (fun _ _ _ h => h) (Or.inl ⟨by rfl, ?yk15⟩) (by assumption) ?rk15
        case yk15 => (intro w' hSw; obtain ⟨cx, tx, g1⟩ := hSw; go_simp; try with_reducible rfl)
        simp only [Act.put, List.setIfInBounds_toArray, List.set_cons_succ, List.set_cons_zero]
        refine wpAnyH_ready (rs := [1, 16]) (by kernel_rfl) (by simp) ?_
        refine AllReadyH.cons (o := _) rfl (fun K hK => ?_) (AllReadyH.cons (o := _) rfl (fun K hK => ?_) AllReadyH.nil)
        · have c2 := hrow.cell (i := 2) (by omega)
          simp only [zrow] at c2
          go_simp
          refine hK.out _ _ (⟨by rw [hQ.cell (by simp <;> omega) (by simp <;> omega)]; exact cx5, by rw [hQ.cell (by simp <;> omega) (by simp <;> omega)]; exact t5, by rw [hQ.cell (by simp <;> omega) (by simp <;> omega)]; exact g5⟩) (fun hHeld => ?_)
          clear hK K
          simp only [List.setIfInBounds_toArray, List.set_cons_succ, List.set_cons_zero]
          refine listH (l2 := #[true, true, true, true, true, true, true, true, true, true, true, true, true, true, true, true, false, false, false, false]) (by kernel_rfl) ?_
          refine wpAnyH_ready (rs := [16]) (by kernel_rfl) (by simp) ?_
          refine AllReadyH.cons (o := _) rfl (fun K hK => ?_) AllReadyH.nil
          refine st_buildB _ 52 51 ⟨(x : Int), o.ver⟩ rfl ?_
          intro q16 V16 hq16 hb16 hnw
          clear hq16
          have hQ := hQ.next (by have := hQ.below.size; omega) hb16
          have hrow := hrow.of_block (hb16.block _ hrow.lt)
          have hown := hown.next hb16
          refine hK.out _ _ (⟨by rw [hQ.cell (by simp <;> omega) (by simp <;> omega)]; exact cx5, by rw [hQ.cell (by simp <;> omega) (by simp <;> omega)]; exact t5, by rw [hQ.cell (by simp <;> omega) (by simp <;> omega)]; exact g5⟩) (fun hHeld => ?_)
          clear hK K
          simp only [Act.put, List.setIfInBounds_toArray, List.set_cons_succ, List.set_cons_zero]
          refine listH (l2 := #[true, true, true, true, true, true, true, true, true, true, true, true, true, true, true, true, true, false, false, false]) (by kernel_rfl) ?_
          refine wpAnyH_ready (rs := [17]) (by kernel_rfl) (by simp) ?_
          refine AllReadyH.cons (o := _) rfl (fun K hK => ?_) AllReadyH.nil
          refine st_appB _ 53 37 52 W5.heap.size _ (basesL os (ids.take j)) ⟨(x : Int), o.ver⟩ hown ⟨q16, 0, none⟩ rfl rfl hnw (by omega) (by have := hQ.below.size; omega) ?_
          intro v17 V17 hE
          have hrow := hrow.of_block (hE.grown.block _ hrow.lt (fun e => by have := (hown.lt _ e.symm).1; omega))
          have hQ : But (w.heap.size + 2) W5 V17 := hQ.andGrown hE.grown (fun k e => (hown.lt k e).1)
          have hown : OwnBases V17 W5.heap.size v17 (basesL os (ids.take (j + 1))) := by rw [HV.out]; exact hE.own
          obtain ⟨a17, c17, hv17⟩ := hown.form
          subst hv17
          clear hE hnw
          refine hK.out _ _ (⟨by rw [hQ.cell (by simp <;> omega) (by simp <;> omega)]; exact cx5, by rw [hQ.cell (by simp <;> omega) (by simp <;> omega)]; exact t5, by rw [hQ.cell (by simp <;> omega) (by simp <;> omega)]; exact g5⟩) (fun hHeld => ?_)
          clear hK K
          simp only [Act.put, List.setIfInBounds_toArray, List.set_cons_succ, List.set_cons_zero]
          refine listH (l2 := #[true, true, true, true, true, true, true, true, true, true, true, true, true, true, true, true, true, true, false, false]) (by kernel_rfl) ?_
          refine takeH (i := 18) (oi := _) (v := ?vk16) 54 #[true, true, true, true, true, true, true, true, true, true, true, true, true, true, true, true, true, true, true, false] rfl (by kernel_rfl) (by kernel_rfl) (by kernel_rfl) rfl (by kernel_rfl) (fun _ _ _ h => h) (Or.inl ⟨by rfl, ?yk16⟩) (by assumption) ?rk16
          case yk16 => (intro w' hSw; obtain ⟨cx, tx, g1⟩ := hSw; go_simp; try with_reducible rfl)
          simp only [Act.put, List.setIfInBounds_toArray, List.set_cons_succ, List.set_cons_zero]
          refine wpAnyH_ready (rs := [19]) (by kernel_rfl) (by simp) ?_
          refine AllReadyH.cons (o := _) rfl (fun K hK => ?_) AllReadyH.nil
          have c2 := hrow.cell (i := 2) (by omega)
          simp only [zrow] at c2
          have z2 := hrow.frozen 2
          have hrow2 := hrow.set 2 (.slice a17 (basesL os (ids.take (j + 1))).length c17)
          have hown := hown.setLow ⟨w.heap.size + 2, 2, none⟩ (.slice a17 (basesL os (ids.take (j + 1))).length c17) (by simp; omega)
          have hQ := hQ.set 2 (.slice a17 (basesL os (ids.take (j + 1))).length c17)
          go_simp
          refine hK.out _ _ (⟨by rw [hQ.cell (by simp <;> omega) (by simp <;> omega)]; exact cx5, by rw [hQ.cell (by simp <;> omega) (by simp <;> omega)]; exact t5, by rw [hQ.cell (by simp <;> omega) (by simp <;> omega)]; exact g5⟩) (fun hHeld => ?_)
          clear hK K
          try simp only [Act.put]
          refine wpAnyH_done (by kernel_rfl) ?_ _
          go_wp2_with fail
          go_meet
          exact ⟨a17, _, c17, hrow2.congr (fun i hi => by rcases i with _ | _ | _ | _ | i <;> first | rfl | omega), hown, hQ⟩
        · refine st_buildB _ 52 51 ⟨(x : Int), o.ver⟩ rfl ?_
          intro q16 V16 hq16 hb16 hnw
          clear hq16
          have hQ := hQ.next (by have := hQ.below.size; omega) hb16
          have hrow := hrow.of_block (hb16.block _ hrow.lt)
          have hown := hown.next hb16
          refine hK.out _ _ (⟨by rw [hQ.cell (by simp <;> omega) (by simp <;> omega)]; exact cx5, by rw [hQ.cell (by simp <;> omega) (by simp <;> omega)]; exact t5, by rw [hQ.cell (by simp <;> omega) (by simp <;> omega)]; exact g5⟩) (fun hHeld => ?_)
          clear hK K
          simp only [Act.put, List.setIfInBounds_toArray, List.set_cons_succ, List.set_cons_zero]
          refine listH (l2 := #[true, false, true, true, true, true, true, true, true, true, true, true, true, true, true, true, true, false, false, false]) (by kernel_rfl) ?_
          refine wpAnyH_ready (rs := [1]) (by kernel_rfl) (by simp) ?_
          refine AllReadyH.cons (o := _) rfl (fun K hK => ?_) AllReadyH.nil
          have c2 := hrow.cell (i := 2) (by omega)
          simp only [zrow] at c2
          go_simp
          refine hK.out _ _ (⟨by rw [hQ.cell (by simp <;> omega) (by simp <;> omega)]; exact cx5, by rw [hQ.cell (by simp <;> omega) (by simp <;> omega)]; exact t5, by rw [hQ.cell (by simp <;> omega) (by simp <;> omega)]; exact g5⟩) (fun hHeld => ?_)
          clear hK K
          simp only [List.setIfInBounds_toArray, List.set_cons_succ, List.set_cons_zero]
          refine listH (l2 := #[true, true, true, true, true, true, true, true, true, true, true, true, true, true, true, true, true, false, false, false]) (by kernel_rfl) ?_
          refine wpAnyH_ready (rs := [17]) (by kernel_rfl) (by simp) ?_
          refine AllReadyH.cons (o := _) rfl (fun K hK => ?_) AllReadyH.nil
          refine st_appB _ 53 37 52 W5.heap.size _ (basesL os (ids.take j)) ⟨(x : Int), o.ver⟩ hown ⟨q16, 0, none⟩ rfl rfl hnw (by omega) (by have := hQ.below.size; omega) ?_
          intro v17 V17 hE
          have hrow := hrow.of_block (hE.grown.block _ hrow.lt (fun e => by have := (hown.lt _ e.symm).1; omega))
          have hQ : But (w.heap.size + 2) W5 V17 := hQ.andGrown hE.grown (fun k e => (hown.lt k e).1)
          have hown : OwnBases V17 W5.heap.size v17 (basesL os (ids.take (j + 1))) := by rw [HV.out]; exact hE.own
          obtain ⟨a17, c17, hv17⟩ := hown.form
          subst hv17
          clear hE hnw
          refine hK.out _ _ (⟨by rw [hQ.cell (by simp <;> omega) (by simp <;> omega)]; exact cx5, by rw [hQ.cell (by simp <;> omega) (by simp <;> omega)]; exact t5, by rw [hQ.cell (by simp <;> omega) (by simp <;> omega)]; exact g5⟩) (fun hHeld => ?_)
          clear hK K
          simp only [Act.put, List.setIfInBounds_toArray, List.set_cons_succ, List.set_cons_zero]
          refine listH (l2 := #[true, true, true, true, true, true, true, true, true, true, true, true, true, true, true, true, true, true, false, false]) (by kernel_rfl) ?_
          refine takeH (i := 18) (oi := _) (v := ?vk17) 54 #[true, true, true, true, true, true, true, true, true, true, true, true, true, true, true, true, true, true, true, false] rfl (by kernel_rfl) (by kernel_rfl) (by kernel_rfl) rfl (by kernel_rfl) (fun _ _ _ h => h) (Or.inl ⟨by rfl, ?yk17⟩) (by assumption) ?rk17
          case yk17 => (intro w' hSw; obtain ⟨cx, tx, g1⟩ := hSw; go_simp; try with_reducible rfl)
          simp only [Act.put, List.setIfInBounds_toArray, List.set_cons_succ, List.set_cons_zero]
          refine wpAnyH_ready (rs := [19]) (by kernel_rfl) (by simp) ?_
          refine AllReadyH.cons (o := _) rfl (fun K hK => ?_) AllReadyH.nil
          have c2 := hrow.cell (i := 2) (by omega)
          simp only [zrow] at c2
          have z2 := hrow.frozen 2
          have hrow2 := hrow.set 2 (.slice a17 (basesL os (ids.take (j + 1))).length c17)
          have hown := hown.setLow ⟨w.heap.size + 2, 2, none⟩ (.slice a17 (basesL os (ids.take (j + 1))).length c17) (by simp; omega)
          have hQ := hQ.set 2 (.slice a17 (basesL os (ids.take (j + 1))).length c17)
          go_simp
          refine hK.out _ _ (⟨by rw [hQ.cell (by simp <;> omega) (by simp <;> omega)]; exact cx5, by rw [hQ.cell (by simp <;> omega) (by simp <;> omega)]; exact t5, by rw [hQ.cell (by simp <;> omega) (by simp <;> omega)]; exact g5⟩) (fun hHeld => ?_)
          clear hK K
          try simp only [Act.put]
          refine wpAnyH_done (by kernel_rfl) ?_ _
          go_wp2_with fail
          go_meet
          exact ⟨a17, _, c17, hrow2.congr (fun i hi => by rcases i with _ | _ | _ | _ | i <;> first | rfl | omega), hown, hQ⟩
      obtain ⟨a2, n2, c2, hrow2, hown2, hQ2⟩ := hcut
      rw [hlst] at hrow2
      have HR2 : Hid (wc.rowIs (w.heap.size + 2) 29 4 (zrow #[.int .i64 q, .int .i64 s, .slice a2 n2 c2, .slice a3 ops.length c3])) := hrow2
      have HO2 : Hid (OwnBases wc W5.heap.size (.slice a2 n2 c2) (basesL os (ids.take (j + 1)))) := hown2
      clear hrow2 hown2 hown0 hrow0 hlst cx g1 t1
      go_wp2_with fail
      go_roundg (ids.length - (j + 1))
      case measure => have := hk.out; omega
      case rel => exact ⟨j + 1, by omega, rfl, by go_num, ⟨a2, n2, c2, HR2.out, HO2.out⟩, hQ2⟩
    · have hlt' : ¬ (j : Int) < (ids.length : Int) := by omega
      have HE : Hid (ids.take j = ids) := by show _ = _; rw [List.take_of_length_le (by omega)]
      have x0 := (HX5.out.of_block (hQ0.block _ (by omega) (by omega))).cell (i := 0) (by omega)
      have x1 := (HX5.out.of_block (hQ0.block _ (by omega) (by omega))).cell (i := 1) (by omega)
      have x2 := (HX5.out.of_block (hQ0.block _ (by omega) (by omega))).cell (i := 2) (by omega)
      have x3 := (HX5.out.of_block (hQ0.block _ (by omega) (by omega))).cell (i := 3) (by omega)
      have xf : ∀ o, wr.frozen? ⟨w.heap.size + 1, o, none⟩ = false := fun o => (HX5.out.of_block (hQ0.block _ (by omega) (by omega))).frozen o
      have y0 := hrow0.out.cell (i := 0) (by omega)
      have y1 := hrow0.out.cell (i := 1) (by omega)
      have y2 := hrow0.out.cell (i := 2) (by omega)
      have y3 := hrow0.out.cell (i := 3) (by omega)
      simp [zrow] at x0 x1 x2 x3 y0 y1 y2 y3
      have hO9 : OwnOps wr w2.heap.size (.slice a3 ops.length c3) ops := HO5.out.keepBut hQ0 (by omega)
      have hV9 := hown0.out
      rw [HE.out, HIDS.out] at hV9
      have hB9 : Below w.heap.size w wr := hB5.trans (hQ0.below.mono (by omega))
      clear HX5 HY5 HO5 hrow0 hown0
      go_wp2_with fail
      refine bodyPost_ret (v := .agg #[.int .i64 q, .int .i64 s, .slice a1 n1 c1, .slice a3 ops.length c3]) (by simp [results, Try.results21, go_sem, x0, x1, x2, x3]) rfl ?_
      rw [HV0.out]
      refine ⟨⟨_, _, rfl, OwnBases.base (B := W5.heap.size) ?_ (by omega), OwnOps.base (B := w2.heap.size) ?_ (by omega)⟩, ?_⟩
      · repeat (first | exact hV9 | refine OwnBases.setLow ?_ _ _ (by simp <;> omega))
      · repeat (first | exact hO9 | refine OwnOps.setLow ?_ _ _ (by simp <;> omega))
      · repeat (first | exact hB9 | refine Below.setCell ?_ (by simp <;> omega) _)
end Go.Proofs.Ytdjffkiiglilnaa


/- Lists of what is done as answers: marked, held. -/
namespace Go.Proofs.Ytdjffkiiglilnaa
open Go.RowKit

set_option maxHeartbeats 1000000 in
set_option maxRecDepth 100000 in
theorem markText_big (k : Nat) (w : World) (h0 : 1 ≤ k) (h1 : k ≤ 100000000) :
    Calls Try.prog 71 #[.int .i64 k] w fun e w' => e = .returned (.string (mkT k)) ∧ Below w.heap.size w w' := by
  have hk : ¬ (k : Int) ≤ 0 := by omega
  go_enter Try.func71, Try.ntmps71
  go_wp2_with fail
  go_loopg [0, 3] k (fun g i p wr => ∃ (x f : Nat) (s : ByteArray), s.size + x ≤ k ∧ Hid (g = x) ∧ i = .int .i64 x ∧ p = .string s ∧ x ≤ f ∧ Hid (digs k k ⟨#[]⟩ = digs f x s) ∧ Below w.heap.size w wr)
  case atStart => exact ⟨k, k, ⟨#[]⟩, by simp [ByteArray.size], rfl, rfl, rfl, by omega, rfl, Below.refl _ _⟩
  case round =>
    obtain ⟨x, f, s, hs, hg, rfl, rfl, hf, hq, hb⟩ := hrel
    by_cases hx0 : 0 < x
    · have hx0' : (0 : Int) < (x : Int) := by omega
      have hcv := conv1 wr x
      obtain ⟨y, hy⟩ : ∃ y : Nat, (x : Int) / 10 = (y : Int) := ⟨x / 10, by omega⟩
      have hy1 : y < x := by omega
      have HY : Hid (digs k k ⟨#[]⟩ = digs (f - 1) y (⟨#[dg x]⟩ ++ s)) := by
        show _ = _
        rw [hq.out]
        obtain ⟨f', rfl⟩ : ∃ f', f = f' + 1 := ⟨f - 1, by omega⟩
        rw [digs, if_pos hx0, show x / 10 = y by omega]
        rfl
      go_wp2_with fail
      go_roundg y
      case measure => have := hg.out; omega
      case rel => exact ⟨y, f - 1, ⟨#[dg x]⟩ ++ s, by rw [ByteArray.size_append]; show 1 + s.size + y ≤ _; omega, rfl, rfl, rfl, by omega, HY, hb.alloc hb.size _⟩
    · have hx0' : ¬ (0 : Int) < (x : Int) := by omega
      have HX : Hid (digs k k ⟨#[]⟩ = s) := by
        show _ = _
        rw [hq.out, show x = 0 by omega]
        cases f with
        | zero => rfl
        | succ f => rw [digs, if_neg (by omega)]
      go_wp2_with fail
      go_ret
      exact ⟨by show Ending.returned (.string _) = Ending.returned (.string _); unfold mkT; rw [HX.out], hb⟩

theorem markText_to (x : Int) (k : Nat) (w : World) (e : x = k) (h0 : 1 ≤ k) (h1 : k ≤ 100000000) :
    Calls Try.prog 71 #[.int .i64 x] w fun e w' => e = .returned (.string (mkT k)) ∧ Below w.heap.size w w' := by
  subst e
  exact markText_big k w h0 h1
/-- A list of what is done in a row of its own. -/
def OpRow (w : World) (B : Nat) (a : Option Addr) (n g cap : Nat) (f : Nat → Value) : Prop := n ≠ 0 → a = some ⟨g, 0, none⟩ ∧ B ≤ g ∧ n ≤ cap ∧ w.rowIs g 99 (cap * 7) f
def OpCell (f : Nat → Value) (i : Nat) : Prop := ∃ o : LOp, opF f i o
theorem OwnOps.row {w : World} {B : Nat} {v : Value} {l : List LOp} (h : OwnOps w B v l) : ∃ a c g cap f, v = .slice a l.length c ∧ B ≤ g ∧ OpRow w B a l.length g cap f ∧ ∀ i, i < l.length → OpCell f i := by
  rcases h.2 with ⟨rfl, h0⟩ | ⟨g, cap, cur, rfl, hb, hg, hnc, hcm, hcs, htake⟩
  · exact ⟨none, 0, B, 0, fun _ => default, by rw [h0], Nat.le_refl _, fun hn => absurd h0 hn, fun i hi => by omega⟩
  · refine ⟨_, cap, g, cap, fun i => cur[i]?.getD default, rfl, hb, fun _ => ⟨rfl, hb, hnc, ⟨cur, hg, by omega, fun i hi => by simp [Array.getElem?_eq_getElem (show i < cur.size by omega)]⟩⟩, fun i hi => ⟨l[i], ?_⟩⟩
    have hq : ∀ t u, t < 7 → (l[i]).val[t]? = some u → cur[i * 7 + t]?.getD default = u := fun t u ht hu => by
      have h1 := opCells_at l i l[i] (by simp [hi]) t u hu
      rw [← htake, List.getElem?_take_of_lt (by omega)] at h1
      simp at h1
      simp [h1]
    exact ⟨by simpa using hq 0 _ (by omega) (by simp [LOp.val]), hq 1 _ (by omega) (by simp [LOp.val]), hq 2 _ (by omega) (by simp [LOp.val]), hq 3 _ (by omega) (by simp [LOp.val]), hq 4 _ (by omega) (by simp [LOp.val]), hq 5 _ (by omega) (by simp [LOp.val]), hq 6 _ (by omega) (by simp [LOp.val])⟩
def markOp (i : Nat) : LOp := ⟨((7 * i + 1 : Nat) : Int), ((7 * i + 2 : Nat) : Int), mkT (7 * i + 3), ((7 * i + 4 : Nat) : Int), mkT (7 * i + 5), ((7 * i + 6 : Nat) : Int), mkT (7 * i + 7)⟩

set_option maxHeartbeats 2000000 in
theorem markOpS_any (a : Option Addr) (n c g cap B : Nat) (f : Nat → Value) (w : World) (hbd : n ≤ 1048576) (H : OpRow w B a n g cap f) (hf : ∀ i, i < n → OpCell f i) :
    Calls Try.prog 29 #[.slice a n c, .int .i64 1] w fun e w' => e = .returned (.int .i64 ((7 * n + 1 : Nat) : Int)) ∧ (∃ f', Hid (OpRow w' B a n g cap f' ∧ ∀ i, i < n → opF f' i (markOp i))) ∧ But g w w' := by
  have HH : Hid (OpRow w B a n g cap f) := H
  have HF : Hid (∀ i, i < n → OpCell f i) := hf
  clear H hf
  go_enter Try.func29, Try.ntmps29
  go_wp2_with fail
  go_loopg [1, 5] n (fun k m i wr => ∃ j : Nat, j ≤ n ∧ Hid (k = n - j) ∧ i = .int .i64 j ∧ m = .int .i64 ((7 * j + 1 : Nat) : Int) ∧ (∃ f', Hid (OpRow wr B a n g cap f' ∧ (∀ i, i < j → opF f' i (markOp i)) ∧ ∀ i, j ≤ i → i < n → OpCell f' i)) ∧ But g w wr)
  case atStart => exact ⟨0, Nat.zero_le _, rfl, rfl, rfl, ⟨f, HH.out, fun i hi => by omega, fun i _ hi => HF.out i hi⟩, But.refl _ _⟩
  case round =>
    obtain ⟨j, hj, hk, rfl, rfl, ⟨f', hrow⟩, hb⟩ := hrel
    by_cases hlt : j < n
    · obtain ⟨h1, h2, h3⟩ := hrow.out
      obtain ⟨rfl, hB, hcap, hr⟩ := h1 (by omega)
      obtain ⟨o, o0, o1, o2, o3, o4, o5, o6⟩ := h3 j (Nat.le_refl _) hlt
      have hlt' : (j : Int) < (n : Int) := by omega
      have hrl := hr.lt
      have c0 : wr.cell? ⟨g, j * 7, none⟩ = some (.int .i64 o.kind) := by rw [hr.cell (by omega), o0]
      have z0 : wr.frozen? ⟨g, j * 7, none⟩ = false := hr.frozen _
      have c1 : wr.cell? ⟨g, j * 7 + 1, none⟩ = some (.int .i64 o.dir) := by rw [hr.cell (by omega), o1]
      have z1 : wr.frozen? ⟨g, j * 7 + 1, none⟩ = false := hr.frozen _
      have c2 : wr.cell? ⟨g, j * 7 + 2, none⟩ = some (.string o.name) := by rw [hr.cell (by omega), o2]
      have z2 : wr.frozen? ⟨g, j * 7 + 2, none⟩ = false := hr.frozen _
      have c3 : wr.cell? ⟨g, j * 7 + 3, none⟩ = some (.int .i64 o.dir2) := by rw [hr.cell (by omega), o3]
      have z3 : wr.frozen? ⟨g, j * 7 + 3, none⟩ = false := hr.frozen _
      have c4 : wr.cell? ⟨g, j * 7 + 4, none⟩ = some (.string o.name2) := by rw [hr.cell (by omega), o4]
      have z4 : wr.frozen? ⟨g, j * 7 + 4, none⟩ = false := hr.frozen _
      have c5 : wr.cell? ⟨g, j * 7 + 5, none⟩ = some (.int .i64 o.id) := by rw [hr.cell (by omega), o5]
      have z5 : wr.frozen? ⟨g, j * 7 + 5, none⟩ = false := hr.frozen _
      have c6 : wr.cell? ⟨g, j * 7 + 6, none⟩ = some (.string o.text) := by rw [hr.cell (by omega), o6]
      have z6 : wr.frozen? ⟨g, j * 7 + 6, none⟩ = false := hr.frozen _
      have HR : Hid (wr.rowIs g 99 (cap * 7) f') := hr
      have H2 : Hid (∀ i, i < j → opF f' i (markOp i)) := h2
      have H3 : Hid (∀ i, j ≤ i → i < n → OpCell f' i) := h3
      clear h1 h2 h3 hr hrow HH HF
      go_wp2_with fail
      refine (markText_to _ (7 * j + 3) _ (by push_cast; omega) (by omega) (by omega)).mono ?_
      rintro e w1 ⟨rfl, hb1⟩
      have HR1 : Hid (w1.rowIs g 99 (cap * 7) (fun q => if q = j * 7 + 1 then .int .i64 ((7 * j + 2 : Nat) : Int) else (fun q => if q = j * 7 then .int .i64 ((7 * j + 1 : Nat) : Int) else f' q) q)) := by
        show World.rowIs _ _ _ _ _
        refine World.rowIs.of_block ?_ (hb1.block g (by simp; omega))
        refine World.rowIs.congr ((HR.out.set (j * 7) _).set (j * 7 + 1) _) ?_
        intro i _
        first | rfl | (simp only []; push_cast; rfl) | simp [Int.add_assoc]
      have hB1 : But g wr w1 := by
        refine But.next ?_ (by simp; omega) hb1
        exact ((But.refl _ _).set _ _).set _ _
      have hl1 : g < w1.heap.size := HR1.out.lt
      clear c0 c1 c2 c3 c4 c5 c6 z0 z1 z2 z3 z4 z5 z6 hb1
      have c2 : w1.cell? ⟨g, j * 7 + 2, none⟩ = some (.string o.name) := by rw [HR1.out.cell (by omega)]; simp [o2]
      have z2 : w1.frozen? ⟨g, j * 7 + 2, none⟩ = false := HR1.out.frozen _
      have c3 : w1.cell? ⟨g, j * 7 + 3, none⟩ = some (.int .i64 o.dir2) := by rw [HR1.out.cell (by omega)]; simp [o3]
      have z3 : w1.frozen? ⟨g, j * 7 + 3, none⟩ = false := HR1.out.frozen _
      have c4 : w1.cell? ⟨g, j * 7 + 4, none⟩ = some (.string o.name2) := by rw [HR1.out.cell (by omega)]; simp [o4]
      have z4 : w1.frozen? ⟨g, j * 7 + 4, none⟩ = false := HR1.out.frozen _
      have c5 : w1.cell? ⟨g, j * 7 + 5, none⟩ = some (.int .i64 o.id) := by rw [HR1.out.cell (by omega)]; simp [o5]
      have z5 : w1.frozen? ⟨g, j * 7 + 5, none⟩ = false := HR1.out.frozen _
      have c6 : w1.cell? ⟨g, j * 7 + 6, none⟩ = some (.string o.text) := by rw [HR1.out.cell (by omega)]; simp [o6]
      have z6 : w1.frozen? ⟨g, j * 7 + 6, none⟩ = false := HR1.out.frozen _
      go_wp2_with fail
      refine (markText_to _ (7 * j + 5) _ (by push_cast; omega) (by omega) (by omega)).mono ?_
      rintro e w2 ⟨rfl, hb2⟩
      have HR2 : Hid (w2.rowIs g 99 (cap * 7) (fun q => if q = j * 7 + 3 then .int .i64 ((7 * j + 4 : Nat) : Int) else (fun q => if q = j * 7 + 2 then .string (mkT (7 * j + 3)) else (fun q => if q = j * 7 + 1 then .int .i64 ((7 * j + 2 : Nat) : Int) else (fun q => if q = j * 7 then .int .i64 ((7 * j + 1 : Nat) : Int) else f' q) q) q) q)) := by
        show World.rowIs _ _ _ _ _
        refine World.rowIs.of_block ?_ (hb2.block g (by simp; omega))
        refine World.rowIs.congr ((HR1.out.set (j * 7 + 2) _).set (j * 7 + 3) _) ?_
        intro i _
        first | rfl | (simp only []; push_cast; rfl) | simp [Int.add_assoc]
      have hB2 : But g wr w2 := by
        refine But.next ?_ (by simp; omega) hb2
        exact (hB1.set _ _).set _ _
      have hl2 : g < w2.heap.size := HR2.out.lt
      clear c2 z2 c3 z3 c4 z4 c5 z5 c6 z6 hb2
      have c4 : w2.cell? ⟨g, j * 7 + 4, none⟩ = some (.string o.name2) := by rw [HR2.out.cell (by omega)]; simp [o4]
      have z4 : w2.frozen? ⟨g, j * 7 + 4, none⟩ = false := HR2.out.frozen _
      have c5 : w2.cell? ⟨g, j * 7 + 5, none⟩ = some (.int .i64 o.id) := by rw [HR2.out.cell (by omega)]; simp [o5]
      have z5 : w2.frozen? ⟨g, j * 7 + 5, none⟩ = false := HR2.out.frozen _
      have c6 : w2.cell? ⟨g, j * 7 + 6, none⟩ = some (.string o.text) := by rw [HR2.out.cell (by omega)]; simp [o6]
      have z6 : w2.frozen? ⟨g, j * 7 + 6, none⟩ = false := HR2.out.frozen _
      go_wp2_with fail
      refine (markText_to _ (7 * j + 7) _ (by push_cast; omega) (by omega) (by omega)).mono ?_
      rintro e w3 ⟨rfl, hb3⟩
      have HR3 : Hid (w3.rowIs g 99 (cap * 7) (fun q => if q = j * 7 + 5 then .int .i64 ((7 * j + 6 : Nat) : Int) else (fun q => if q = j * 7 + 4 then .string (mkT (7 * j + 5)) else (fun q => if q = j * 7 + 3 then .int .i64 ((7 * j + 4 : Nat) : Int) else (fun q => if q = j * 7 + 2 then .string (mkT (7 * j + 3)) else (fun q => if q = j * 7 + 1 then .int .i64 ((7 * j + 2 : Nat) : Int) else (fun q => if q = j * 7 then .int .i64 ((7 * j + 1 : Nat) : Int) else f' q) q) q) q) q) q)) := by
        show World.rowIs _ _ _ _ _
        refine World.rowIs.of_block ?_ (hb3.block g (by simp; omega))
        refine World.rowIs.congr ((HR2.out.set (j * 7 + 4) _).set (j * 7 + 5) _) ?_
        intro i _
        first | rfl | (simp only []; push_cast; rfl) | simp [Int.add_assoc]
      have hB3 : But g wr w3 := by
        refine But.next ?_ (by simp; omega) hb3
        exact (hB2.set _ _).set _ _
      have hl3 : g < w3.heap.size := HR3.out.lt
      clear c4 z4 c5 z5 c6 z6 hb3
      have c6 : w3.cell? ⟨g, j * 7 + 6, none⟩ = some (.string o.text) := by rw [HR3.out.cell (by omega)]; simp [o6]
      have z6 : w3.frozen? ⟨g, j * 7 + 6, none⟩ = false := HR3.out.frozen _
      go_wp2_with fail
      go_roundg (n - (j + 1))
      case measure => have := hk.out; omega
      case rel =>
        refine ⟨j + 1, by omega, rfl, by go_num, by go_num, ⟨_, fun _ => ⟨rfl, hB, hcap, HR3.out.set (j * 7 + 6) _⟩, fun i hi => ?_, fun i h1 h2 => ?_⟩, hb.trans (hB3.set _ _)⟩
        · by_cases e : i = j
          · subst e
            refine ⟨?_, ?_, ?_, ?_, ?_, ?_, ?_⟩ <;> simp [markOp]
          · obtain ⟨q0, q1, q2, q3, q4, q5, q6⟩ := H2.out i (by omega)
            refine ⟨?_, ?_, ?_, ?_, ?_, ?_, ?_⟩ <;> dsimp only <;> rw [if_neg (by omega), if_neg (by omega), if_neg (by omega), if_neg (by omega), if_neg (by omega), if_neg (by omega), if_neg (by omega)] <;> assumption
        · obtain ⟨o', q0, q1, q2, q3, q4, q5, q6⟩ := H3.out i (by omega) h2
          refine ⟨o', ?_, ?_, ?_, ?_, ?_, ?_, ?_⟩ <;> dsimp only <;> rw [if_neg (by omega), if_neg (by omega), if_neg (by omega), if_neg (by omega), if_neg (by omega), if_neg (by omega), if_neg (by omega)] <;> assumption
    · obtain rfl : j = n := by omega
      go_wp2_with fail
      go_ret
      exact ⟨rfl, ⟨f', hrow.out.1, hrow.out.2.1⟩, hb⟩

theorem OpRow.at_ {w : World} {B : Nat} {a : Option Addr} {n g cap : Nat} {f : Nat → Value} (H : OpRow w B a n g cap f) {i : Nat} (hi : i < n) {o : LOp} (h : opF f i o) : a = some ⟨g, 0, none⟩ ∧ g < w.heap.size ∧ OpAt w g (i * 7) o := by
  obtain ⟨h1, _, h3, h4⟩ := H (by omega)
  obtain ⟨q0, q1, q2, q3, q4, q5, q6⟩ := h
  exact ⟨h1, h4.lt, by rw [h4.cell (by omega), q0], by rw [h4.cell (by omega), q1], by rw [h4.cell (by omega), q2], by rw [h4.cell (by omega), q3], by rw [h4.cell (by omega), q4], by rw [h4.cell (by omega), q5], by rw [h4.cell (by omega), q6]⟩
set_option maxHeartbeats 4000000 in
theorem heldOpS_any (a : Option Addr) (n c g cap B : Nat) (f : Nat → Value) (w : World) (hbd : n ≤ 1048576) (H : OpRow w B a n g cap f) (hf : ∀ i, i < n → opF f i (markOp i)) :
    Calls Try.prog 74 #[.slice a n c, .int .i64 1] w fun e w' => e = .returned (.int .i64 ((7 * n + 1 : Nat) : Int)) ∧ Below w.heap.size w w' := by
  have HH : Hid (∀ i, i < n → a = some ⟨g, 0, none⟩ ∧ g < w.heap.size ∧ OpAt w g (i * 7) (markOp i)) := fun i hi => H.at_ hi (hf i hi)
  clear H hf
  go_enter Try.func74, Try.ntmps74
  go_wp2_with fail
  go_loopg [1, 5] n (fun k m i wr => ∃ j : Nat, j ≤ n ∧ Hid (k = n - j) ∧ i = .int .i64 j ∧ m = .int .i64 ((7 * j + 1 : Nat) : Int) ∧ Below w.heap.size w wr)
  case atStart => exact ⟨0, Nat.zero_le _, rfl, rfl, rfl, Below.refl _ _⟩
  case round =>
    obtain ⟨j, hj, hk, rfl, rfl, hb⟩ := hrel
    by_cases hlt : j < n
    · obtain ⟨rfl, hgl, hat⟩ := HH.out j hlt
      have hsb := hb.size
      have HAT : Hid (OpAt wr g (j * 7) (markOp j)) := hat.of_block (hb.block g hgl)
      obtain ⟨c0, c1, c2, c3, c4, c5, c6⟩ := HAT.out
      simp only [markOp] at c0 c1 c2 c3 c4 c5 c6
      have hlt' : (j : Int) < (n : Int) := by omega
      clear hat
      go_upto_region 10 with fail
      go_cut [37] (fun s wx => s = .bool false ∧ Below wr.heap.size wr wx)
      case first =>
        go_region_with (go_at_call 71; go_must (refine (markText_to _ (7 * j + 3) _ (by push_cast; omega) (by omega) (by omega)).mono ?_; rintro e w1 ⟨rfl, hb1⟩; have dd : w1.cell? ⟨g, j * 7 + 2, none⟩ = some (.string (mkT (7 * j + 3))) := (by rw [hb1.cell (by simp; omega)]; exact c2)))
        all_goals
          go_wp2_with fail
          go_meet
          exact ⟨by simp, (Below.refl _ _).drew.trans (hb1.mono (by simp))⟩
      obtain ⟨rfl, hb1⟩ := hcut
      obtain ⟨W1, rfl⟩ : ∃ W1, W1 = wc := ⟨_, rfl⟩
      have HC1 : Hid (OpAt W1 g (j * 7) (markOp j)) := HAT.out.of_block (hb1.block g (by omega))
      have hs1 := hb1.size
      clear c0 c1 c2 c3 c4 c5 c6
      obtain ⟨c0, c1, c2, c3, c4, c5, c6⟩ := HC1.out
      simp only [markOp] at c0 c1 c2 c3 c4 c5 c6
      go_upto_region 16 with fail
      go_cut [56] (fun s wx => s = .bool false ∧ Below W1.heap.size W1 wx)
      case first =>
        go_region_with (go_at_call 71; go_must (refine (markText_to _ (7 * j + 5) _ (by push_cast; omega) (by omega) (by omega)).mono ?_; rintro e w1 ⟨rfl, hb1⟩; have dd : w1.cell? ⟨g, j * 7 + 4, none⟩ = some (.string (mkT (7 * j + 5))) := (by rw [hb1.cell (by simp; omega)]; exact c4)))
        all_goals
          go_wp2_with fail
          go_meet
          exact ⟨by simp, (Below.refl _ _).drew.trans (hb1.mono (by simp))⟩
      obtain ⟨rfl, hb2⟩ := hcut
      obtain ⟨W2, rfl⟩ : ∃ W2, W2 = wc := ⟨_, rfl⟩
      have HC2 : Hid (OpAt W2 g (j * 7) (markOp j)) := HC1.out.of_block (hb2.block g (by omega))
      have hs2 := hb2.size
      clear c0 c1 c2 c3 c4 c5 c6
      obtain ⟨c0, c1, c2, c3, c4, c5, c6⟩ := HC2.out
      simp only [markOp] at c0 c1 c2 c3 c4 c5 c6
      go_upto_region 22 with fail
      go_cut [75] (fun s wx => s = .bool false ∧ Below W2.heap.size W2 wx)
      case first =>
        go_region_with (go_at_call 71; go_must (refine (markText_to _ (7 * j + 7) _ (by push_cast; omega) (by omega) (by omega)).mono ?_; rintro e w1 ⟨rfl, hb1⟩; have dd : w1.cell? ⟨g, j * 7 + 6, none⟩ = some (.string (mkT (7 * j + 7))) := (by rw [hb1.cell (by simp; omega)]; exact c6)))
        all_goals
          go_wp2_with fail
          go_meet
          exact ⟨by simp, (Below.refl _ _).drew.trans (hb1.mono (by simp))⟩
      obtain ⟨rfl, hb3⟩ := hcut
      obtain ⟨W3, rfl⟩ : ∃ W3, W3 = wc := ⟨_, rfl⟩
      have HC3 : Hid (OpAt W3 g (j * 7) (markOp j)) := HC2.out.of_block (hb3.block g (by omega))
      have hs3 := hb3.size
      clear c0 c1 c2 c3 c4 c5 c6
      obtain ⟨c0, c1, c2, c3, c4, c5, c6⟩ := HC3.out
      simp only [markOp] at c0 c1 c2 c3 c4 c5 c6
      go_wp2_with fail
      go_roundg (n - (j + 1))
      case measure => have := hk.out; omega
      case rel => exact ⟨j + 1, by omega, rfl, by go_num, by go_num, ((hb.trans (hb1.mono hb.size)).trans (hb2.mono (by omega))).trans (hb3.mono (by omega))⟩
    · obtain rfl : j = n := by omega
      go_wp2_with fail
      go_ret
      exact ⟨rfl, hb⟩
end Go.Proofs.Ytdjffkiiglilnaa

/- Logs: marked and held. -/
namespace Go.Proofs.Ytdjffkiiglilnaa
open Go.RowKit


/-! Bases: marked from 1 on, and held. -/
theorem OwnBases.row {w : World} {B : Nat} {v : Value} {l : List LBase} (h : OwnBases w B v l) : ∃ a c g cap f, v = .slice a l.length c ∧ B ≤ g ∧ BaseRow w B a l.length g cap f ∧ baseF f l := by
  rcases h.2 with ⟨rfl, h0⟩ | ⟨g, cap, cur, rfl, hb, hg, hnc, hcm, hcs, htake⟩
  · exact ⟨none, 0, B, 0, fun _ => default, by rw [h0], Nat.le_refl _, fun hn => absurd h0 hn, fun i e he => by have := (List.getElem?_eq_some_iff.1 he).1; omega⟩
  · refine ⟨_, cap, g, cap * 2, fun i => cur[i]?.getD default, rfl, hb, fun _ => ⟨rfl, hb, by omega, ⟨cur, hg, by omega, fun i hi => by simp [Array.getElem?_eq_getElem (show i < cur.size by omega)]⟩⟩, fun i e he => ?_⟩
    have hlt := (List.getElem?_eq_some_iff.1 he).1
    obtain ⟨k0, k1⟩ := baseCells_at l i e he
    have h0 : (cur.toList.take (l.length * 2))[i * 2]? = some (.int .i64 e.id) := by rw [htake]; exact k0
    have h1 : (cur.toList.take (l.length * 2))[i * 2 + 1]? = some (.int .i64 e.ver) := by rw [htake]; exact k1
    rw [List.getElem?_take_of_lt (by omega)] at h0 h1
    simp at h0 h1
    simp [h0, h1]
def markB (i : Nat) : LBase := ⟨((2 * i + 1 : Nat) : Int), ((2 * i + 2 : Nat) : Int)⟩
def baseC (f : Nat → Value) (i : Nat) : Prop := ∃ e : LBase, f (i * 2) = .int .i64 e.id ∧ f (i * 2 + 1) = .int .i64 e.ver
def baseM (f : Nat → Value) (i : Nat) : Prop := f (i * 2) = .int .i64 ((2 * i + 1 : Nat) : Int) ∧ f (i * 2 + 1) = .int .i64 ((2 * i + 2 : Nat) : Int)

set_option maxHeartbeats 1000000 in
theorem markBaseS_any (a : Option Addr) (n c g cap B : Nat) (f : Nat → Value) (w : World) (hbd : n ≤ 1048576) (H : BaseRow w B a n g cap f) (hf : ∀ i, i < n → baseC f i) :
    Calls Try.prog 72 #[.slice a n c, .int .i64 1] w fun e w' => e = .returned (.int .i64 ((2 * n + 1 : Nat) : Int)) ∧ (∃ f', Hid (BaseRow w' B a n g cap f' ∧ ∀ i, i < n → baseM f' i)) ∧ But g w w' := by
  have HH : Hid (BaseRow w B a n g cap f) := H
  have HF : Hid (∀ i, i < n → baseC f i) := hf
  clear H hf
  go_enter Try.func72, Try.ntmps72
  go_wp2_with fail
  go_loopg [1, 5] n (fun k m i wr => ∃ j : Nat, j ≤ n ∧ Hid (k = n - j) ∧ i = .int .i64 j ∧ m = .int .i64 ((2 * j + 1 : Nat) : Int) ∧ (∃ f', Hid (BaseRow wr B a n g cap f' ∧ (∀ i, i < j → baseM f' i) ∧ ∀ i, j ≤ i → i < n → baseC f' i)) ∧ But g w wr)
  case atStart => exact ⟨0, Nat.zero_le _, rfl, rfl, rfl, ⟨f, HH.out, fun i hi => by omega, fun i _ hi => HF.out i hi⟩, But.refl _ _⟩
  case round =>
    obtain ⟨j, hj, hk, rfl, rfl, ⟨f', hrow⟩, hb⟩ := hrel
    by_cases hlt : j < n
    · obtain ⟨h1, h2, h3⟩ := hrow.out
      obtain ⟨rfl, hB, hcap, hr⟩ := h1 (by omega)
      obtain ⟨o, o0, o1⟩ := h3 j (Nat.le_refl _) hlt
      have hlt' : (j : Int) < (n : Int) := by omega
      have c0 : wr.cell? ⟨g, j * 2, none⟩ = some (.int .i64 o.id) := by rw [hr.cell (by omega), o0]
      have z0 : wr.frozen? ⟨g, j * 2, none⟩ = false := hr.frozen _
      have c1 : wr.cell? ⟨g, j * 2 + 1, none⟩ = some (.int .i64 o.ver) := by rw [hr.cell (by omega), o1]
      have z1 : wr.frozen? ⟨g, j * 2 + 1, none⟩ = false := hr.frozen _
      have HR : Hid (wr.rowIs g 40 cap f') := hr
      have H2 : Hid (∀ i, i < j → baseM f' i) := h2
      have H3 : Hid (∀ i, j ≤ i → i < n → baseC f' i) := h3
      clear h1 h2 h3 hr hrow HH HF o0 o1
      go_wp2_with fail
      go_roundg (n - (j + 1))
      case measure => have := hk.out; omega
      case rel =>
        refine ⟨j + 1, by omega, rfl, by go_num, by go_num, ⟨_, fun _ => ⟨rfl, hB, hcap, (HR.out.set (j * 2) _).set (j * 2 + 1) _⟩, fun i hi => ?_, fun i h1 h2 => ?_⟩, (hb.set _ _).set _ _⟩
        · by_cases e : i = j
          · subst e
            refine ⟨by simp, ?_⟩
            simp
            omega
          · obtain ⟨q0, q1⟩ := H2.out i (by omega)
            refine ⟨?_, ?_⟩ <;> dsimp only <;> rw [if_neg (by omega), if_neg (by omega)] <;> assumption
        · obtain ⟨o', q0, q1⟩ := H3.out i (by omega) h2
          refine ⟨o', ?_, ?_⟩ <;> dsimp only <;> rw [if_neg (by omega), if_neg (by omega)] <;> assumption
    · obtain rfl : j = n := by omega
      go_wp2_with fail
      go_ret
      exact ⟨rfl, ⟨f', hrow.out.1, hrow.out.2.1⟩, hb⟩

set_option maxHeartbeats 1000000 in
theorem heldBaseS_any (a : Option Addr) (n c g cap B : Nat) (f : Nat → Value) (w : World) (hbd : n ≤ 1048576) (H : BaseRow w B a n g cap f) (hf : ∀ i, i < n → baseM f i) :
    Calls Try.prog 73 #[.slice a n c, .int .i64 1] w fun e w' => e = .returned (.int .i64 ((2 * n + 1 : Nat) : Int)) ∧ w' = w := by
  have HC : Hid (∀ i, i < n → a = some ⟨g, 0, none⟩ ∧ w.cell? ⟨g, i * 2, none⟩ = some (.int .i64 ((2 * i + 1 : Nat) : Int)) ∧ w.cell? ⟨g, i * 2 + 1, none⟩ = some (.int .i64 ((2 * i + 2 : Nat) : Int))) := fun i hi => by
    obtain ⟨h1, _, h3, h4⟩ := H (by omega)
    exact ⟨h1, by rw [h4.cell (by omega), (hf i hi).1], by rw [h4.cell (by omega), (hf i hi).2]⟩
  clear H hf
  go_enter Try.func73, Try.ntmps73
  go_wp2_with fail
  go_loopg [1, 5] n (fun k m i wr => ∃ j : Nat, j ≤ n ∧ Hid (k = n - j) ∧ i = .int .i64 j ∧ m = .int .i64 ((2 * j + 1 : Nat) : Int) ∧ w = wr)
  case atStart => exact ⟨0, Nat.zero_le _, rfl, rfl, rfl, rfl⟩
  case round =>
    obtain ⟨j, hj, hk, rfl, rfl, rfl⟩ := hrel
    by_cases hlt : j < n
    · obtain ⟨rfl, c0, c1⟩ := HC.out j hlt
      have hlt' : (j : Int) < (n : Int) := by omega
      go_wp2_with fail
      go_roundg (n - (j + 1))
      case measure => have := hk.out; omega
      case rel => exact ⟨j + 1, by omega, rfl, by go_num, by go_num, rfl⟩
    · obtain rfl : j = n := by omega
      go_wp2_with fail
      go_ret
      exact ⟨rfl, rfl⟩
end Go.Proofs.Ytdjffkiiglilnaa

/- What is done: marked from any number on, and held. -/
namespace Go.Proofs.Ytdjffkiiglilnaa
open Go.RowKit

def markOpZ (z i : Nat) : LOp := ⟨((z + 7 * i + 1 : Nat) : Int), ((z + 7 * i + 2 : Nat) : Int), mkT (z + 7 * i + 3), ((z + 7 * i + 4 : Nat) : Int), mkT (z + 7 * i + 5), ((z + 7 * i + 6 : Nat) : Int), mkT (z + 7 * i + 7)⟩

set_option maxHeartbeats 2000000 in
theorem markOpS_z (z : Nat) (hz9 : z ≤ 10000000) (a : Option Addr) (n c g cap B : Nat) (f : Nat → Value) (w : World) (hbd : n ≤ 1048576) (H : OpRow w B a n g cap f) (hf : ∀ i, i < n → OpCell f i) :
    Calls Try.prog 29 #[.slice a n c, .int .i64 ((z + 1 : Nat) : Int)] w fun e w' => e = .returned (.int .i64 ((z + 7 * n + 1 : Nat) : Int)) ∧ (∃ f', Hid (OpRow w' B a n g cap f' ∧ ∀ i, i < n → opF f' i (markOpZ z i))) ∧ But g w w' := by
  have HH : Hid (OpRow w B a n g cap f) := H
  have HF : Hid (∀ i, i < n → OpCell f i) := hf
  clear H hf
  go_enter Try.func29, Try.ntmps29
  go_wp2_with fail
  go_loopg [1, 5] n (fun k m i wr => ∃ j : Nat, j ≤ n ∧ Hid (k = n - j) ∧ i = .int .i64 j ∧ m = .int .i64 ((z + 7 * j + 1 : Nat) : Int) ∧ (∃ f', Hid (OpRow wr B a n g cap f' ∧ (∀ i, i < j → opF f' i (markOpZ z i)) ∧ ∀ i, j ≤ i → i < n → OpCell f' i)) ∧ But g w wr)
  case atStart => exact ⟨0, Nat.zero_le _, rfl, rfl, rfl, ⟨f, HH.out, fun i hi => by omega, fun i _ hi => HF.out i hi⟩, But.refl _ _⟩
  case round =>
    obtain ⟨j, hj, hk, rfl, rfl, ⟨f', hrow⟩, hb⟩ := hrel
    by_cases hlt : j < n
    · obtain ⟨h1, h2, h3⟩ := hrow.out
      obtain ⟨rfl, hB, hcap, hr⟩ := h1 (by omega)
      obtain ⟨o, o0, o1, o2, o3, o4, o5, o6⟩ := h3 j (Nat.le_refl _) hlt
      have hlt' : (j : Int) < (n : Int) := by omega
      have hrl := hr.lt
      have c0 : wr.cell? ⟨g, j * 7, none⟩ = some (.int .i64 o.kind) := by rw [hr.cell (by omega), o0]
      have z0 : wr.frozen? ⟨g, j * 7, none⟩ = false := hr.frozen _
      have c1 : wr.cell? ⟨g, j * 7 + 1, none⟩ = some (.int .i64 o.dir) := by rw [hr.cell (by omega), o1]
      have z1 : wr.frozen? ⟨g, j * 7 + 1, none⟩ = false := hr.frozen _
      have c2 : wr.cell? ⟨g, j * 7 + 2, none⟩ = some (.string o.name) := by rw [hr.cell (by omega), o2]
      have z2 : wr.frozen? ⟨g, j * 7 + 2, none⟩ = false := hr.frozen _
      have c3 : wr.cell? ⟨g, j * 7 + 3, none⟩ = some (.int .i64 o.dir2) := by rw [hr.cell (by omega), o3]
      have z3 : wr.frozen? ⟨g, j * 7 + 3, none⟩ = false := hr.frozen _
      have c4 : wr.cell? ⟨g, j * 7 + 4, none⟩ = some (.string o.name2) := by rw [hr.cell (by omega), o4]
      have z4 : wr.frozen? ⟨g, j * 7 + 4, none⟩ = false := hr.frozen _
      have c5 : wr.cell? ⟨g, j * 7 + 5, none⟩ = some (.int .i64 o.id) := by rw [hr.cell (by omega), o5]
      have z5 : wr.frozen? ⟨g, j * 7 + 5, none⟩ = false := hr.frozen _
      have c6 : wr.cell? ⟨g, j * 7 + 6, none⟩ = some (.string o.text) := by rw [hr.cell (by omega), o6]
      have z6 : wr.frozen? ⟨g, j * 7 + 6, none⟩ = false := hr.frozen _
      have HR : Hid (wr.rowIs g 99 (cap * 7) f') := hr
      have H2 : Hid (∀ i, i < j → opF f' i (markOpZ z i)) := h2
      have H3 : Hid (∀ i, j ≤ i → i < n → OpCell f' i) := h3
      clear h1 h2 h3 hr hrow HH HF
      go_wp2_with fail
      refine (markText_to _ (z + 7 * j + 3) _ (by push_cast; omega) (by omega) (by omega)).mono ?_
      rintro e w1 ⟨rfl, hb1⟩
      have HR1 : Hid (w1.rowIs g 99 (cap * 7) (fun q => if q = j * 7 + 1 then .int .i64 ((z + 7 * j + 2 : Nat) : Int) else (fun q => if q = j * 7 then .int .i64 ((z + 7 * j + 1 : Nat) : Int) else f' q) q)) := by
        show World.rowIs _ _ _ _ _
        refine World.rowIs.of_block ?_ (hb1.block g (by simp; omega))
        refine World.rowIs.congr ((HR.out.set (j * 7) _).set (j * 7 + 1) _) ?_
        intro i _
        first | rfl | (simp only []; push_cast; rfl) | simp [Int.add_assoc]
      have hB1 : But g wr w1 := by
        refine But.next ?_ (by simp; omega) hb1
        exact ((But.refl _ _).set _ _).set _ _
      have hl1 : g < w1.heap.size := HR1.out.lt
      clear c0 c1 c2 c3 c4 c5 c6 z0 z1 z2 z3 z4 z5 z6 hb1
      have c2 : w1.cell? ⟨g, j * 7 + 2, none⟩ = some (.string o.name) := by rw [HR1.out.cell (by omega)]; simp [o2]
      have z2 : w1.frozen? ⟨g, j * 7 + 2, none⟩ = false := HR1.out.frozen _
      have c3 : w1.cell? ⟨g, j * 7 + 3, none⟩ = some (.int .i64 o.dir2) := by rw [HR1.out.cell (by omega)]; simp [o3]
      have z3 : w1.frozen? ⟨g, j * 7 + 3, none⟩ = false := HR1.out.frozen _
      have c4 : w1.cell? ⟨g, j * 7 + 4, none⟩ = some (.string o.name2) := by rw [HR1.out.cell (by omega)]; simp [o4]
      have z4 : w1.frozen? ⟨g, j * 7 + 4, none⟩ = false := HR1.out.frozen _
      have c5 : w1.cell? ⟨g, j * 7 + 5, none⟩ = some (.int .i64 o.id) := by rw [HR1.out.cell (by omega)]; simp [o5]
      have z5 : w1.frozen? ⟨g, j * 7 + 5, none⟩ = false := HR1.out.frozen _
      have c6 : w1.cell? ⟨g, j * 7 + 6, none⟩ = some (.string o.text) := by rw [HR1.out.cell (by omega)]; simp [o6]
      have z6 : w1.frozen? ⟨g, j * 7 + 6, none⟩ = false := HR1.out.frozen _
      go_wp2_with fail
      refine (markText_to _ (z + 7 * j + 5) _ (by push_cast; omega) (by omega) (by omega)).mono ?_
      rintro e w2 ⟨rfl, hb2⟩
      have HR2 : Hid (w2.rowIs g 99 (cap * 7) (fun q => if q = j * 7 + 3 then .int .i64 ((z + 7 * j + 4 : Nat) : Int) else (fun q => if q = j * 7 + 2 then .string (mkT (z + 7 * j + 3)) else (fun q => if q = j * 7 + 1 then .int .i64 ((z + 7 * j + 2 : Nat) : Int) else (fun q => if q = j * 7 then .int .i64 ((z + 7 * j + 1 : Nat) : Int) else f' q) q) q) q)) := by
        show World.rowIs _ _ _ _ _
        refine World.rowIs.of_block ?_ (hb2.block g (by simp; omega))
        refine World.rowIs.congr ((HR1.out.set (j * 7 + 2) _).set (j * 7 + 3) _) ?_
        intro i _
        first | rfl | (simp only []; push_cast; rfl) | simp [Int.add_assoc]
      have hB2 : But g wr w2 := by
        refine But.next ?_ (by simp; omega) hb2
        exact (hB1.set _ _).set _ _
      have hl2 : g < w2.heap.size := HR2.out.lt
      clear c2 z2 c3 z3 c4 z4 c5 z5 c6 z6 hb2
      have c4 : w2.cell? ⟨g, j * 7 + 4, none⟩ = some (.string o.name2) := by rw [HR2.out.cell (by omega)]; simp [o4]
      have z4 : w2.frozen? ⟨g, j * 7 + 4, none⟩ = false := HR2.out.frozen _
      have c5 : w2.cell? ⟨g, j * 7 + 5, none⟩ = some (.int .i64 o.id) := by rw [HR2.out.cell (by omega)]; simp [o5]
      have z5 : w2.frozen? ⟨g, j * 7 + 5, none⟩ = false := HR2.out.frozen _
      have c6 : w2.cell? ⟨g, j * 7 + 6, none⟩ = some (.string o.text) := by rw [HR2.out.cell (by omega)]; simp [o6]
      have z6 : w2.frozen? ⟨g, j * 7 + 6, none⟩ = false := HR2.out.frozen _
      go_wp2_with fail
      refine (markText_to _ (z + 7 * j + 7) _ (by push_cast; omega) (by omega) (by omega)).mono ?_
      rintro e w3 ⟨rfl, hb3⟩
      have HR3 : Hid (w3.rowIs g 99 (cap * 7) (fun q => if q = j * 7 + 5 then .int .i64 ((z + 7 * j + 6 : Nat) : Int) else (fun q => if q = j * 7 + 4 then .string (mkT (z + 7 * j + 5)) else (fun q => if q = j * 7 + 3 then .int .i64 ((z + 7 * j + 4 : Nat) : Int) else (fun q => if q = j * 7 + 2 then .string (mkT (z + 7 * j + 3)) else (fun q => if q = j * 7 + 1 then .int .i64 ((z + 7 * j + 2 : Nat) : Int) else (fun q => if q = j * 7 then .int .i64 ((z + 7 * j + 1 : Nat) : Int) else f' q) q) q) q) q) q)) := by
        show World.rowIs _ _ _ _ _
        refine World.rowIs.of_block ?_ (hb3.block g (by simp; omega))
        refine World.rowIs.congr ((HR2.out.set (j * 7 + 4) _).set (j * 7 + 5) _) ?_
        intro i _
        first | rfl | (simp only []; push_cast; rfl) | simp [Int.add_assoc]
      have hB3 : But g wr w3 := by
        refine But.next ?_ (by simp; omega) hb3
        exact (hB2.set _ _).set _ _
      have hl3 : g < w3.heap.size := HR3.out.lt
      clear c4 z4 c5 z5 c6 z6 hb3
      have c6 : w3.cell? ⟨g, j * 7 + 6, none⟩ = some (.string o.text) := by rw [HR3.out.cell (by omega)]; simp [o6]
      have z6 : w3.frozen? ⟨g, j * 7 + 6, none⟩ = false := HR3.out.frozen _
      go_wp2_with fail
      go_roundg (n - (j + 1))
      case measure => have := hk.out; omega
      case rel =>
        refine ⟨j + 1, by omega, rfl, by go_num, by go_num, ⟨_, fun _ => ⟨rfl, hB, hcap, HR3.out.set (j * 7 + 6) _⟩, fun i hi => ?_, fun i h1 h2 => ?_⟩, hb.trans (hB3.set _ _)⟩
        · by_cases e : i = j
          · subst e
            refine ⟨?_, ?_, ?_, ?_, ?_, ?_, ?_⟩ <;> simp [markOpZ]
          · obtain ⟨q0, q1, q2, q3, q4, q5, q6⟩ := H2.out i (by omega)
            refine ⟨?_, ?_, ?_, ?_, ?_, ?_, ?_⟩ <;> dsimp only <;> rw [if_neg (by omega), if_neg (by omega), if_neg (by omega), if_neg (by omega), if_neg (by omega), if_neg (by omega), if_neg (by omega)] <;> assumption
        · obtain ⟨o', q0, q1, q2, q3, q4, q5, q6⟩ := H3.out i (by omega) h2
          refine ⟨o', ?_, ?_, ?_, ?_, ?_, ?_, ?_⟩ <;> dsimp only <;> rw [if_neg (by omega), if_neg (by omega), if_neg (by omega), if_neg (by omega), if_neg (by omega), if_neg (by omega), if_neg (by omega)] <;> assumption
    · obtain rfl : j = n := by omega
      go_wp2_with fail
      go_ret
      exact ⟨rfl, ⟨f', hrow.out.1, hrow.out.2.1⟩, hb⟩

set_option maxHeartbeats 4000000 in
theorem heldOpS_z (z : Nat) (hz9 : z ≤ 10000000) (a : Option Addr) (n c g cap B : Nat) (f : Nat → Value) (w : World) (hbd : n ≤ 1048576) (H : OpRow w B a n g cap f) (hf : ∀ i, i < n → opF f i (markOpZ z i)) :
    Calls Try.prog 74 #[.slice a n c, .int .i64 ((z + 1 : Nat) : Int)] w fun e w' => e = .returned (.int .i64 ((z + 7 * n + 1 : Nat) : Int)) ∧ Below w.heap.size w w' := by
  have HH : Hid (∀ i, i < n → a = some ⟨g, 0, none⟩ ∧ g < w.heap.size ∧ OpAt w g (i * 7) (markOpZ z i)) := fun i hi => H.at_ hi (hf i hi)
  clear H hf
  go_enter Try.func74, Try.ntmps74
  go_wp2_with fail
  go_loopg [1, 5] n (fun k m i wr => ∃ j : Nat, j ≤ n ∧ Hid (k = n - j) ∧ i = .int .i64 j ∧ m = .int .i64 ((z + 7 * j + 1 : Nat) : Int) ∧ Below w.heap.size w wr)
  case atStart => exact ⟨0, Nat.zero_le _, rfl, rfl, rfl, Below.refl _ _⟩
  case round =>
    obtain ⟨j, hj, hk, rfl, rfl, hb⟩ := hrel
    by_cases hlt : j < n
    · obtain ⟨rfl, hgl, hat⟩ := HH.out j hlt
      have hsb := hb.size
      have HAT : Hid (OpAt wr g (j * 7) (markOpZ z j)) := hat.of_block (hb.block g hgl)
      obtain ⟨c0, c1, c2, c3, c4, c5, c6⟩ := HAT.out
      simp only [markOpZ] at c0 c1 c2 c3 c4 c5 c6
      have hlt' : (j : Int) < (n : Int) := by omega
      clear hat
      go_upto_region 10 with fail
      go_cut [37] (fun s wx => s = .bool false ∧ Below wr.heap.size wr wx)
      case first =>
        go_region_with (go_at_call 71; go_must (refine (markText_to _ (z + 7 * j + 3) _ (by push_cast; omega) (by omega) (by omega)).mono ?_; rintro e w1 ⟨rfl, hb1⟩; have dd : w1.cell? ⟨g, j * 7 + 2, none⟩ = some (.string (mkT (z + 7 * j + 3))) := (by rw [hb1.cell (by simp; omega)]; exact c2)))
        all_goals
          go_wp2_with fail
          go_meet
          exact ⟨by simp, (Below.refl _ _).drew.trans (hb1.mono (by simp))⟩
      obtain ⟨rfl, hb1⟩ := hcut
      obtain ⟨W1, rfl⟩ : ∃ W1, W1 = wc := ⟨_, rfl⟩
      have HC1 : Hid (OpAt W1 g (j * 7) (markOpZ z j)) := HAT.out.of_block (hb1.block g (by omega))
      have hs1 := hb1.size
      clear c0 c1 c2 c3 c4 c5 c6
      obtain ⟨c0, c1, c2, c3, c4, c5, c6⟩ := HC1.out
      simp only [markOpZ] at c0 c1 c2 c3 c4 c5 c6
      go_upto_region 16 with fail
      go_cut [56] (fun s wx => s = .bool false ∧ Below W1.heap.size W1 wx)
      case first =>
        go_region_with (go_at_call 71; go_must (refine (markText_to _ (z + 7 * j + 5) _ (by push_cast; omega) (by omega) (by omega)).mono ?_; rintro e w1 ⟨rfl, hb1⟩; have dd : w1.cell? ⟨g, j * 7 + 4, none⟩ = some (.string (mkT (z + 7 * j + 5))) := (by rw [hb1.cell (by simp; omega)]; exact c4)))
        all_goals
          go_wp2_with fail
          go_meet
          exact ⟨by simp, (Below.refl _ _).drew.trans (hb1.mono (by simp))⟩
      obtain ⟨rfl, hb2⟩ := hcut
      obtain ⟨W2, rfl⟩ : ∃ W2, W2 = wc := ⟨_, rfl⟩
      have HC2 : Hid (OpAt W2 g (j * 7) (markOpZ z j)) := HC1.out.of_block (hb2.block g (by omega))
      have hs2 := hb2.size
      clear c0 c1 c2 c3 c4 c5 c6
      obtain ⟨c0, c1, c2, c3, c4, c5, c6⟩ := HC2.out
      simp only [markOpZ] at c0 c1 c2 c3 c4 c5 c6
      go_upto_region 22 with fail
      go_cut [75] (fun s wx => s = .bool false ∧ Below W2.heap.size W2 wx)
      case first =>
        go_region_with (go_at_call 71; go_must (refine (markText_to _ (z + 7 * j + 7) _ (by push_cast; omega) (by omega) (by omega)).mono ?_; rintro e w1 ⟨rfl, hb1⟩; have dd : w1.cell? ⟨g, j * 7 + 6, none⟩ = some (.string (mkT (z + 7 * j + 7))) := (by rw [hb1.cell (by simp; omega)]; exact c6)))
        all_goals
          go_wp2_with fail
          go_meet
          exact ⟨by simp, (Below.refl _ _).drew.trans (hb1.mono (by simp))⟩
      obtain ⟨rfl, hb3⟩ := hcut
      obtain ⟨W3, rfl⟩ : ∃ W3, W3 = wc := ⟨_, rfl⟩
      have HC3 : Hid (OpAt W3 g (j * 7) (markOpZ z j)) := HC2.out.of_block (hb3.block g (by omega))
      have hs3 := hb3.size
      clear c0 c1 c2 c3 c4 c5 c6
      obtain ⟨c0, c1, c2, c3, c4, c5, c6⟩ := HC3.out
      simp only [markOpZ] at c0 c1 c2 c3 c4 c5 c6
      go_wp2_with fail
      go_roundg (n - (j + 1))
      case measure => have := hk.out; omega
      case rel => exact ⟨j + 1, by omega, rfl, by go_num, by go_num, ((hb.trans (hb1.mono hb.size)).trans (hb2.mono (by omega))).trans (hb3.mono (by omega))⟩
    · obtain rfl : j = n := by omega
      go_wp2_with fail
      go_ret
      exact ⟨rfl, hb⟩
end Go.Proofs.Ytdjffkiiglilnaa

/- Logs of one's own: marked and held. -/
namespace Go.Proofs.Ytdjffkiiglilnaa
open Go.RowKit

/-- Nothing but two blocks is changed. -/
def OnlyTwo (g g' : Nat) (w w' : World) : Prop := (∀ B, B ≤ w.heap.size → B ≤ g → B ≤ g' → Below B w w') ∧ ∀ b, b < w.heap.size → b ≠ g → b ≠ g' → w'.heap[b]? = w.heap[b]?
/-- Marked from 1 on. -/
structure LogMarked (w : World) (B : Nat) (a : Option Addr) (n g cap : Nat) (a' : Option Addr) (n' g' cap' : Nat) (f f' : Nat → Value) : Prop where
  b : BaseRow w B a n g cap f
  bm : ∀ i, i < n → baseM f i
  o : OpRow w B a' n' g' cap' f'
  om : ∀ i, i < n' → opF f' i (markOpZ (2 * n) i)
theorem BaseRow.below {w w' : World} {B : Nat} {a : Option Addr} {n g cap : Nat} {f : Nat → Value} (h : BaseRow w B a n g cap f) (hb : Below w.heap.size w w') : BaseRow w' B a n g cap f := h.kept fun k _ hk => hb.block k hk
theorem OpRow.below {w w' : World} {B : Nat} {a : Option Addr} {n g cap : Nat} {f : Nat → Value} (h : OpRow w B a n g cap f) (hb : Below w.heap.size w w') : OpRow w' B a n g cap f := fun hn => by
  obtain ⟨h1, h2, h3, h4⟩ := h hn
  exact ⟨h1, h2, h3, h4.of_block (hb.block g h4.lt)⟩
theorem markOpS_zto (x : Int) (z : Nat) (e : x = ((z + 1 : Nat) : Int)) (hz9 : z ≤ 10000000) (a : Option Addr) (n c g cap B : Nat) (f : Nat → Value) (w : World) (hbd : n ≤ 1048576) (H : OpRow w B a n g cap f) (hf : ∀ i, i < n → OpCell f i) :
    Calls Try.prog 29 #[.slice a n c, .int .i64 x] w fun e w' => e = .returned (.int .i64 ((z + 7 * n + 1 : Nat) : Int)) ∧ (∃ f', Hid (OpRow w' B a n g cap f' ∧ ∀ i, i < n → opF f' i (markOpZ z i))) ∧ But g w w' := by
  subst e; exact markOpS_z z hz9 a n c g cap B f w hbd H hf
theorem heldOpS_zto (x : Int) (z : Nat) (e : x = ((z + 1 : Nat) : Int)) (hz9 : z ≤ 10000000) (a : Option Addr) (n c g cap B : Nat) (f : Nat → Value) (w : World) (hbd : n ≤ 1048576) (H : OpRow w B a n g cap f) (hf : ∀ i, i < n → opF f i (markOpZ z i)) :
    Calls Try.prog 74 #[.slice a n c, .int .i64 x] w fun e w' => e = .returned (.int .i64 ((z + 7 * n + 1 : Nat) : Int)) ∧ Below w.heap.size w w' := by
  subst e; exact heldOpS_z z hz9 a n c g cap B f w hbd H hf

set_option maxHeartbeats 1000000 in
theorem markLog_any (q s : Int) (a : Option Addr) (n c g cap : Nat) (f : Nat → Value) (a' : Option Addr) (n' c' g' cap' : Nat) (f' : Nat → Value) (B : Nat) (w : World) (hn : n ≤ 1000) (hn' : n' ≤ 1000) (H : BaseRow w B a n g cap f) (hf : ∀ i, i < n → baseC f i) (H' : OpRow w B a' n' g' cap' f') (hf' : ∀ i, i < n' → OpCell f' i) (hgl : g < w.heap.size) (hne : g ≠ g') :
    Calls Try.prog 30 #[.agg #[.int .i64 q, .int .i64 s, .slice a n c, .slice a' n' c'], .int .i64 1] w fun e w' => e = .returned (.int .i64 ((2 * n + 7 * n' + 1 : Nat) : Int)) ∧ (∃ f1 f1', LogMarked w' B a n g cap a' n' g' cap' f1 f1') ∧ OnlyTwo g g' w w' := by
  have hA : Below w.heap.size w (w.alloc (Obj.cells #[.int .i64 q, .int .i64 s, .slice a n c, .slice a' n' c'] 29)) := (Below.refl _ _).alloc (Nat.le_refl _) _
  go_enter Try.func30, Try.ntmps30
  go_wp2_with fail
  refine (markBaseS_any _ _ _ g cap B f _ (by omega) (H.below hA) hf).mono ?_
  rintro e w1 ⟨rfl, ⟨f1, hM1⟩, hb1⟩
  have c3 : w1.cell? ⟨w.heap.size, 3, none⟩ = some (.slice a' n' c') := by rw [hb1.cell (by simp; omega) (by simp)]; simp [go_sem]
  have hz1 : w.heap.size < w1.heap.size := by have := hb1.below.size; simp at this; omega
  have HO1 : Hid (OpRow w1 B a' n' g' cap' f') := fun hn => by
    obtain ⟨h1, h2, h3, h4⟩ := (H'.below hA) hn
    exact ⟨h1, h2, h3, h4.of_block (hb1.block g' (fun e => hne e.symm) h4.lt)⟩
  have HF' : Hid (∀ i, i < n' → OpCell f' i) := hf'
  have HT1 : Hid (OnlyTwo g g' w w1) := ⟨fun B hB h1 _ => (hA.mono hB).trans (hb1.below.mono h1), fun b hb h1 _ => by rw [hb1.block b h1 (by simp; omega)]; exact hA.block b hb⟩
  clear H H' hf hf' hA hb1
  go_wp2_with fail
  refine (markOpS_zto _ (2 * n) (by push_cast; omega) (by omega) _ _ _ g' cap' B f' _ (by omega) HO1.out HF'.out).mono ?_
  rintro e w2 ⟨rfl, ⟨f2, hM2⟩, hb2⟩
  have HL : Hid (∃ f1 f1', LogMarked w2 B a n g cap a' n' g' cap' f1 f1') := ⟨f1, f2, hM1.out.1.kept (fun k e hk => by subst e; exact hb2.block _ hne hk), hM1.out.2, hM2.out.1, hM2.out.2⟩
  have HT2 : Hid (OnlyTwo g g' w w2) := ⟨fun B hB h1 h2 => (HT1.out.1 B hB h1 h2).trans (hb2.below.mono h2), fun b hb h1 h2 => by rw [hb2.block b h2 (by omega)]; exact HT1.out.2 b hb h1 h2⟩
  clear hM1 hM2 hb2 HO1 HF' HT1 c3
  go_wp2_with fail
  go_ret
  exact ⟨by congr 2, HL.out, HT2.out⟩

set_option maxHeartbeats 1000000 in
theorem heldLog_any (q s : Int) (a : Option Addr) (n c g cap : Nat) (f : Nat → Value) (a' : Option Addr) (n' c' g' cap' : Nat) (f' : Nat → Value) (B : Nat) (w : World) (hn : n ≤ 1000) (hn' : n' ≤ 1000) (H : LogMarked w B a n g cap a' n' g' cap' f f') :
    Calls Try.prog 31 #[.agg #[.int .i64 q, .int .i64 s, .slice a n c, .slice a' n' c'], .int .i64 1] w fun e w' => e = .returned (.int .i64 ((2 * n + 7 * n' + 1 : Nat) : Int)) ∧ Below w.heap.size w w' := by
  have hA : Below w.heap.size w (w.alloc (Obj.cells #[.int .i64 q, .int .i64 s, .slice a n c, .slice a' n' c'] 29)) := (Below.refl _ _).alloc (Nat.le_refl _) _
  go_enter Try.func31, Try.ntmps31
  go_wp2_with fail
  refine (heldBaseS_any _ _ _ g cap B f _ (by omega) (H.b.below hA) H.bm).mono ?_
  rintro e w1 ⟨rfl, rfl⟩
  have hk1 : ¬ ((2 * n + 1 : Nat) : Int) < 0 := by omega
  go_wp2_with fail
  refine (heldOpS_zto _ (2 * n) (by push_cast; omega) (by omega) _ _ _ g' cap' B f' _ (by omega) (H.o.below hA) H.om).mono ?_
  rintro e w2 ⟨rfl, hb2⟩
  have hk2 : ¬ ((2 * n + 7 * n' + 1 : Nat) : Int) < 0 := by omega
  have HB : Hid (Below w.heap.size w w2) := hA.trans (hb2.mono (by simp))
  clear hb2 hA
  go_wp2_with fail
  go_ret
  exact ⟨by congr 2, HB.out⟩
end Go.Proofs.Ytdjffkiiglilnaa

/- Any tree that can be written: marked. What is asked of it: it is there, and can be written; what is told: each cell keeps its sort, and nothing but the tree's blocks is changed. -/
namespace Go.Proofs.Ytdjffkiiglilnaa
open Go.RowKit

/-- Each cell keeps its sort. -/
structure Keeps (w w' : World) : Prop where
  size : w.heap.size ≤ w'.heap.size
  int : ∀ p k, w.cell? p = some (.int .i64 k) → ∃ k', w'.cell? p = some (.int .i64 k')
  str : ∀ p s, w.cell? p = some (.string s) → ∃ s', w'.cell? p = some (.string s')
  sli : ∀ p a n c, w.cell? p = some (.slice a n c) → w'.cell? p = some (.slice a n c)
  fro : ∀ p, p.block < w.heap.size → w'.frozen? p = w.frozen? p
theorem Keeps.refl (w : World) : Keeps w w := ⟨Nat.le_refl _, fun _ k h => ⟨k, h⟩, fun _ s h => ⟨s, h⟩, fun _ _ _ _ h => h, fun _ _ => rfl⟩
theorem Keeps.trans {a b c : World} (h : Keeps a b) (k : Keeps b c) : Keeps a c :=
  ⟨Nat.le_trans h.size k.size, fun p x hx => by obtain ⟨y, hy⟩ := h.int p x hx; exact k.int p y hy, fun p x hx => by obtain ⟨y, hy⟩ := h.str p x hx; exact k.str p y hy, fun p x y z hx => k.sli p x y z (h.sli p x y z hx), fun p hp => (k.fro p (by have := h.size; omega)).trans (h.fro p hp)⟩
theorem Keeps.below {w w' : World} (h : Below w.heap.size w w') : Keeps w w' :=
  ⟨h.size, fun p x hx => ⟨x, by rw [h.cell (World.block_lt_of_cell? w p hx)]; exact hx⟩, fun p x hx => ⟨x, by rw [h.cell (World.block_lt_of_cell? w p hx)]; exact hx⟩, fun p x y z hx => by rw [h.cell (World.block_lt_of_cell? w p hx)]; exact hx, fun p hp => h.frozen hp⟩
theorem Keeps.setInt {w : World} {p : Addr} {k k' : Int} (h : w.cell? p = some (.int .i64 k)) : Keeps w (w.setCell p (.int .i64 k')) := by
  refine ⟨by simp, fun q x hx => ?_, fun q x hx => ?_, fun q x y z hx => ?_, fun q _ => by simp⟩
  · by_cases e : p = q
    · subst e; exact ⟨k', World.cell?_setCell_same _ _ _ h⟩
    · exact ⟨x, by rw [World.cell?_setCell_other _ _ _ _ e]; exact hx⟩
  · by_cases e : p = q
    · subst e; rw [h] at hx; cases hx
    · exact ⟨x, by rw [World.cell?_setCell_other _ _ _ _ e]; exact hx⟩
  · by_cases e : p = q
    · subst e; rw [h] at hx; cases hx
    · rw [World.cell?_setCell_other _ _ _ _ e]; exact hx
theorem Keeps.setStr {w : World} {p : Addr} {k k' : ByteArray} (h : w.cell? p = some (.string k)) : Keeps w (w.setCell p (.string k')) := by
  refine ⟨by simp, fun q x hx => ?_, fun q x hx => ?_, fun q x y z hx => ?_, fun q _ => by simp⟩
  · by_cases e : p = q
    · subst e; rw [h] at hx; cases hx
    · exact ⟨x, by rw [World.cell?_setCell_other _ _ _ _ e]; exact hx⟩
  · by_cases e : p = q
    · subst e; exact ⟨k', World.cell?_setCell_same _ _ _ h⟩
    · exact ⟨x, by rw [World.cell?_setCell_other _ _ _ _ e]; exact hx⟩
  · by_cases e : p = q
    · subst e; rw [h] at hx; cases hx
    · rw [World.cell?_setCell_other _ _ _ _ e]; exact hx
/-- Nothing but blocks from L on and below U is changed. -/
def Only (L U : Nat) (w w' : World) : Prop := Below L w w' ∧ ∀ b, b < w.heap.size → U ≤ b → w'.heap[b]? = w.heap[b]?
theorem Only.refl (L U : Nat) (w : World) : Only L U w w := ⟨Below.refl _ _, fun _ _ _ => rfl⟩
theorem Only.trans {L U : Nat} {a b c : World} (h : Only L U a b) (k : Only L U b c) : Only L U a c := ⟨h.1.trans k.1, fun i hi hn => (k.2 i (by have := h.1.size; omega) hn).trans (h.2 i hi hn)⟩
theorem Only.below {L U : Nat} {w w' : World} (h : Below w.heap.size w w') (hL : L ≤ w.heap.size) : Only L U w w' := ⟨h.mono hL, fun b hb _ => h.block b hb⟩
theorem Only.set {L U : Nat} {w : World} {p : Addr} (v : Value) (hL : L ≤ p.block) (hU : p.block < U) : Only L U w (w.setCell p v) := ⟨(Below.refl _ _).setCell hL v, fun b _ hn => Below.heap_setCell w p v b (by omega)⟩

/-- Names that can be written. -/
def TypedE (w : World) (L U : Nat) (a : Option Addr) (n : Nat) : Prop := n ≠ 0 → ∃ b off, a = some ⟨b, off, none⟩ ∧ L ≤ b ∧ b < U ∧ b < w.heap.size ∧ (∀ o, w.frozen? ⟨b, o, none⟩ = false) ∧ ∀ i, i < n → (∃ s, w.cell? ⟨b, off + i * 2, none⟩ = some (.string s)) ∧ ∃ k, w.cell? ⟨b, off + i * 2 + 1, none⟩ = some (.int .i64 k)
theorem TypedE.keep {w w' : World} {L U : Nat} {a : Option Addr} {n : Nat} (h : TypedE w L U a n) (k : Keeps w w') : TypedE w' L U a n := fun hn => by
  obtain ⟨b, off, h1, h2, h3, h4, h5, h6⟩ := h hn
  refine ⟨b, off, h1, h2, h3, by have := k.size; omega, fun o => by rw [k.fro _ (by simpa using h4)]; exact h5 o, fun i hi => ?_⟩
  obtain ⟨⟨s, hs⟩, x, hx⟩ := h6 i hi
  exact ⟨k.str _ s hs, k.int _ x hx⟩
/-- Objects that can be written. -/
def TypedO (w : World) (L U : Nat) (a : Option Addr) (n : Nat) (os : List LObj) : Prop := n ≠ 0 → ∃ b off, a = some ⟨b, off, none⟩ ∧ L ≤ b ∧ b < U ∧ b < w.heap.size ∧ (∀ o, w.frozen? ⟨b, o, none⟩ = false) ∧ ∀ i, i < n → (∃ k, w.cell? ⟨b, off + i * 4, none⟩ = some (.int .i64 k)) ∧ (∃ k, w.cell? ⟨b, off + i * 4 + 1, none⟩ = some (.int .i64 k)) ∧ (∃ s, w.cell? ⟨b, off + i * 4 + 2, none⟩ = some (.string s)) ∧ ∃ o ka kc, os[i]? = some o ∧ w.cell? ⟨b, off + i * 4 + 3, none⟩ = some (.slice ka o.kids.length kc) ∧ TypedE w L U ka o.kids.length
theorem TypedO.keep {w w' : World} {L U : Nat} {a : Option Addr} {n : Nat} {os : List LObj} (h : TypedO w L U a n os) (k : Keeps w w') : TypedO w' L U a n os := fun hn => by
  obtain ⟨b, off, h1, h2, h3, h4, h5, h6⟩ := h hn
  refine ⟨b, off, h1, h2, h3, by have := k.size; omega, fun o => by rw [k.fro _ (by simpa using h4)]; exact h5 o, fun i hi => ?_⟩
  obtain ⟨⟨x, hx⟩, ⟨y, hy⟩, ⟨s, hs⟩, o, ka, kc, ho, hc, he⟩ := h6 i hi
  exact ⟨k.int _ x hx, k.int _ y hy, k.str _ s hs, o, ka, kc, ho, k.sli _ _ _ _ hc, he.keep k⟩

set_option maxHeartbeats 1000000 in
theorem markEntS_w (k0 : Nat) (a : Option Addr) (n c L U : Nat) (w : World) (hk1 : 1 ≤ k0) (hk2 : k0 ≤ 50000000) (hbd : n ≤ 1048576) (H : TypedE w L U a n) :
    Calls Try.prog 110 #[.slice a n c, .int .i64 (k0 : Int)] w fun e w' => e = .returned (.int .i64 ((k0 + 2 * n : Nat) : Int)) ∧ Keeps w w' ∧ Only L U w w' := by
  have HH : Hid (TypedE w L U a n) := H
  clear H
  go_enter Try.func110, Try.ntmps110
  go_wp2_with fail
  go_loopg [1, 5] n (fun g m i wr => ∃ j : Nat, j ≤ n ∧ Hid (g = n - j) ∧ i = .int .i64 j ∧ m = .int .i64 ((k0 + 2 * j : Nat) : Int) ∧ Hid (Keeps w wr) ∧ Hid (Only L U w wr))
  case atStart => exact ⟨0, Nat.zero_le _, rfl, rfl, rfl, Keeps.refl _, Only.refl _ _ _⟩
  case round =>
    obtain ⟨j, hj, hk, rfl, rfl, hK, hO⟩ := hrel
    by_cases hlt : j < n
    · obtain ⟨b, off, rfl, hL, hU, hbl, hfr, hcc⟩ := (HH.out.keep hK.out) (by omega)
      obtain ⟨⟨s, c0⟩, x, c1⟩ := hcc j hlt
      have hlt' : (j : Int) < (n : Int) := by omega
      clear hcc
      go_wp2_with fail
      refine (markText_to _ (k0 + 2 * j) _ (by push_cast; omega) (by omega) (by omega)).mono ?_
      rintro e w1 ⟨rfl, hb1⟩
      have d0 : w1.cell? ⟨b, off + j * 2, none⟩ = some (.string s) := by rw [hb1.cell (by simpa using hbl)]; exact c0
      have d1 : w1.cell? ⟨b, off + j * 2 + 1, none⟩ = some (.int .i64 x) := by rw [hb1.cell (by simpa using hbl)]; exact c1
      have hf1 : ∀ o, w1.frozen? ⟨b, o, none⟩ = false := fun o => by rw [hb1.frozen (by simpa using hbl)]; exact hfr o
      have z0 := hf1 (off + j * 2)
      have z1 := hf1 (off + j * 2 + 1)
      have hK1 : Hid (Keeps w w1) := hK.out.trans (Keeps.below hb1)
      have hO1 : Hid (Only L U w w1) := hO.out.trans (Only.below hb1 (by omega))
      have d1' : ∀ v, (w1.setCell ⟨b, off + j * 2, none⟩ v).cell? ⟨b, off + j * 2 + 1, none⟩ = some (.int .i64 x) := fun v => by rw [World.cell?_setCell_other _ _ _ _ (by simp)]; exact d1
      have KS : ∀ (v1 : ByteArray) (v2 : Int), Keeps w1 ((w1.setCell ⟨b, off + j * 2, none⟩ (.string v1)).setCell ⟨b, off + j * 2 + 1, none⟩ (.int .i64 v2)) := fun v1 v2 => (Keeps.setStr d0).trans (Keeps.setInt (d1' _))
      have OS : ∀ (v1 v2 : Value), Only L U w1 ((w1.setCell ⟨b, off + j * 2, none⟩ v1).setCell ⟨b, off + j * 2 + 1, none⟩ v2) := fun v1 v2 => (Only.set v1 hL hU).trans (Only.set v2 hL hU)
      have HKS : Hid (∀ (v1 : ByteArray) (v2 : Int), Keeps w1 ((w1.setCell ⟨b, off + j * 2, none⟩ (.string v1)).setCell ⟨b, off + j * 2 + 1, none⟩ (.int .i64 v2))) := KS
      have HOS : Hid (∀ (v1 v2 : Value), Only L U w1 ((w1.setCell ⟨b, off + j * 2, none⟩ v1).setCell ⟨b, off + j * 2 + 1, none⟩ v2)) := OS
      clear c0 c1 hfr hf1 hb1 KS OS d1'
      go_wp2_with fail
      go_roundg (n - (j + 1))
      case measure => have := hk.out; omega
      case rel => exact ⟨j + 1, by omega, rfl, by go_num, by go_num, hK1.out.trans (HKS.out _ _), hO1.out.trans (HOS.out _ _)⟩
    · obtain rfl : j = n := by omega
      go_wp2_with fail
      go_ret
      exact ⟨rfl, hK.out, hO.out⟩
theorem markEntS_to (x : Int) (k0 : Nat) (e : x = (k0 : Int)) (a : Option Addr) (n c L U : Nat) (w : World) (hk1 : 1 ≤ k0) (hk2 : k0 ≤ 50000000) (hbd : n ≤ 1048576) (H : TypedE w L U a n) :
    Calls Try.prog 110 #[.slice a n c, .int .i64 x] w fun e w' => e = .returned (.int .i64 ((k0 + 2 * n : Nat) : Int)) ∧ Keeps w w' ∧ Only L U w w' := by
  subst e; exact markEntS_w k0 a n c L U w hk1 hk2 hbd H

set_option maxHeartbeats 1000000 in
set_option maxRecDepth 20000 in
theorem markObjS_w (k0 : Nat) (a : Option Addr) (n c L U : Nat) (os : List LObj) (w : World) (hk1 : 1 ≤ k0) (hk2 : k0 ≤ 10000000) (hn : n = os.length) (hbd : n + totT os ≤ 1048576) (H : TypedO w L U a n os) :
    Calls Try.prog 70 #[.slice a n c, .int .i64 (k0 : Int)] w fun e w' => (∃ k : Nat, e = .returned (.int .i64 (k : Int)) ∧ k0 ≤ k ∧ k ≤ k0 + 3 * n + 2 * totT os) ∧ Keeps w w' ∧ Only L U w w' := by
  have HH : Hid (TypedO w L U a n os) := H
  have HN : Hid (n = os.length) := hn
  clear H hn
  go_enter Try.func70, Try.ntmps70
  go_wp2_with fail
  go_loopg [1, 5] n (fun g m i wr => ∃ j : Nat, j ≤ n ∧ Hid (g = n - j) ∧ i = .int .i64 j ∧ (∃ k : Nat, m = .int .i64 (k : Int) ∧ k0 ≤ k ∧ k ≤ 20000000 ∧ Hid (k ≤ k0 + 3 * j + 2 * totT (os.take j))) ∧ Hid (Keeps w wr) ∧ Hid (Only L U w wr))
  case atStart => exact ⟨0, Nat.zero_le _, rfl, rfl, ⟨k0, rfl, Nat.le_refl _, by omega, by show _ ≤ _; omega⟩, Keeps.refl _, Only.refl _ _ _⟩
  case round =>
    obtain ⟨j, hj, hk, rfl, ⟨k, rfl, hkl, hku, hkt⟩, hK, hO⟩ := hrel
    by_cases hlt : j < n
    · obtain ⟨b, off, rfl, hL, hU, hbl, hfr, hcc⟩ := (HH.out.keep hK.out) (by omega)
      obtain ⟨⟨x, c0⟩, ⟨y, c1⟩, ⟨s, c2⟩, o, ka, kc, ho, c3, he⟩ := hcc j hlt
      have hlt' : (j : Int) < (n : Int) := by omega
      have htk := totT_take ho
      have hto : o.kids.length ≤ totO o := by unfold totO; omega
      have htl : totT (os.take (j + 1)) ≤ totT os := by
        have h1 : totT os = totT (os.take (j + 1)) + totT (os.drop (j + 1)) := by
          unfold totT
          rw [← List.sum_append, ← List.map_append, List.take_append_drop]
        omega
      have hkids : o.kids.length ≤ 1048576 := by omega
      have hk9 : k + 3 + 2 * o.kids.length ≤ 20000000 := by have := hkt.out; omega
      have HKT : Hid (k + 3 + 2 * o.kids.length ≤ k0 + 3 * (j + 1) + 2 * totT (os.take (j + 1))) := by show _ ≤ _; have := hkt.out; omega
      have z0 := hfr (off + j * 4)
      have z1 := hfr (off + j * 4 + 1)
      have e1 : ∀ v, (wr.setCell ⟨b, off + j * 4, none⟩ v).cell? ⟨b, off + j * 4 + 1, none⟩ = some (.int .i64 y) := fun v => by rw [World.cell?_setCell_other _ _ _ _ (by simp)]; exact c1
      have HK2 : Hid (∀ v1 v2 : Int, Keeps wr ((wr.setCell ⟨b, off + j * 4, none⟩ (.int .i64 v1)).setCell ⟨b, off + j * 4 + 1, none⟩ (.int .i64 v2))) := fun v1 v2 => (Keeps.setInt c0).trans (Keeps.setInt (e1 _))
      have HO2 : Hid (∀ v1 v2 : Value, Only L U wr ((wr.setCell ⟨b, off + j * 4, none⟩ v1).setCell ⟨b, off + j * 4 + 1, none⟩ v2)) := fun v1 v2 => (Only.set v1 hL hU).trans (Only.set v2 hL hU)
      have HC2 : Hid (∀ v1 v2 : Value, ((wr.setCell ⟨b, off + j * 4, none⟩ v1).setCell ⟨b, off + j * 4 + 1, none⟩ v2).cell? ⟨b, off + j * 4 + 2, none⟩ = some (.string s)) := fun v1 v2 => by rw [World.cell?_setCell_other _ _ _ _ (by simp), World.cell?_setCell_other _ _ _ _ (by simp)]; exact c2
      have HC3 : Hid (∀ v1 v2 : Value, ((wr.setCell ⟨b, off + j * 4, none⟩ v1).setCell ⟨b, off + j * 4 + 1, none⟩ v2).cell? ⟨b, off + j * 4 + 3, none⟩ = some (.slice ka o.kids.length kc)) := fun v1 v2 => by rw [World.cell?_setCell_other _ _ _ _ (by simp), World.cell?_setCell_other _ _ _ _ (by simp)]; exact c3
      have HFR : Hid (∀ q, wr.frozen? ⟨b, q, none⟩ = false) := hfr
      have HE : Hid (TypedE wr L U ka o.kids.length) := he
      clear hcc c2 c3 hfr htk hto htl he ho
      go_wp2_with fail
      refine (markText_to _ (k + 2) _ (by push_cast; omega) (by omega) (by omega)).mono ?_
      rintro e w1 ⟨rfl, hb1⟩
      have d2 : w1.cell? ⟨b, off + j * 4 + 2, none⟩ = some (.string s) := by rw [hb1.cell (by simpa using hbl)]; exact HC2.out _ _
      have d3 : ∀ v, (w1.setCell ⟨b, off + j * 4 + 2, none⟩ v).cell? ⟨b, off + j * 4 + 3, none⟩ = some (.slice ka o.kids.length kc) := fun v => by rw [World.cell?_setCell_other _ _ _ _ (by simp), hb1.cell (by simpa using hbl)]; exact HC3.out _ _
      have z2 : w1.frozen? ⟨b, off + j * 4 + 2, none⟩ = false := by rw [hb1.frozen (by simpa using hbl)]; simpa using HFR.out _
      have hK1 : Hid (∀ v : ByteArray, Keeps wr (w1.setCell ⟨b, off + j * 4 + 2, none⟩ (.string v))) := fun v => ((HK2.out _ _).trans (Keeps.below hb1)).trans (Keeps.setStr d2)
      have hO1 : Hid (∀ v : Value, Only L U wr (w1.setCell ⟨b, off + j * 4 + 2, none⟩ v)) := fun v => ((HO2.out _ _).trans (Only.below hb1 (by simp; omega))).trans (Only.set v hL hU)
      clear HC2 HC3 hb1 c0 c1 e1 z0 z1 HK2 HO2
      go_wp2_with fail
      refine (markEntS_to _ (k + 3) (by push_cast; omega) _ _ _ L U _ (by omega) (by omega) hkids (HE.out.keep (hK1.out _))).mono ?_
      rintro e w2 ⟨rfl, hK2, hO2⟩
      have HK3 : Hid (Keeps w w2) := (hK.out.trans (hK1.out _)).trans hK2
      have HO3 : Hid (Only L U w w2) := (hO.out.trans (hO1.out _)).trans hO2
      clear hK2 hO2 d2 d3 z2 hK1 hO1 hK hO
      go_wp2_with fail
      go_roundg (n - (j + 1))
      case measure => have := hk.out; omega
      case rel => exact ⟨j + 1, by omega, rfl, by go_num, ⟨k + 3 + 2 * o.kids.length, rfl, by omega, hk9, HKT.out⟩, HK3.out, HO3.out⟩
    · have HE : Hid (os.take j = os) := by show _ = _; rw [List.take_of_length_le (by have := HN.out; omega)]
      have hlt' : ¬ (j : Int) < (n : Int) := by omega
      go_wp2_with fail
      go_ret
      exact ⟨⟨k, rfl, hkl, by have h1 := hkt.out; rw [HE.out] at h1; omega⟩, hK.out, hO.out⟩

theorem markTree_w (k0 : Nat) (a : Option Addr) (n c L U : Nat) (os : List LObj) (w : World) (hk1 : 1 ≤ k0) (hk2 : k0 ≤ 10000000) (hn : n = os.length) (hbd : n + totT os ≤ 1048576) (hLw : L ≤ w.heap.size) (H : TypedO w L U a n os) :
    Calls Try.prog 28 #[.agg #[.slice a n c], .int .i64 (k0 : Int)] w fun e w' => (∃ k : Nat, e = .returned (.int .i64 (k : Int)) ∧ k0 ≤ k ∧ k ≤ k0 + 3 * n + 2 * totT os) ∧ Keeps w w' ∧ Only L U w w' := by
  have hA : Below w.heap.size w (w.alloc (Obj.cells #[.slice a n c] 25)) := (Below.refl _ _).alloc (Nat.le_refl _) _
  have HN : Hid (n = os.length) := hn
  clear hn
  go_enter Try.func28, Try.ntmps28
  go_wp2_with fail
  refine (markObjS_w k0 _ _ _ L U os _ hk1 hk2 HN.out hbd (H.keep (Keeps.below hA))).mono ?_
  rintro e w1 ⟨⟨k, rfl, h1, h2⟩, hK, hO⟩
  have HK1 : Hid (Keeps w w1) := (Keeps.below hA).trans hK
  have HO1 : Hid (Only L U w w1) := (Only.below hA hLw).trans hO
  have HB : Hid (k0 ≤ k ∧ k ≤ k0 + 3 * n + 2 * totT os) := ⟨h1, h2⟩
  clear hK hO hA h1 h2
  go_wp2_with fail
  go_ret
  exact ⟨⟨k, rfl, HB.out⟩, HK1.out, HO1.out⟩
end Go.Proofs.Ytdjffkiiglilnaa

/- Copies of any tree can be written. -/
namespace Go.Proofs.Ytdjffkiiglilnaa
open Go.RowKit

/-- All blocks from B on can be written. -/
def Unf (B : Nat) (w : World) : Prop := ∀ b o, B ≤ b → w.frozen? ⟨b, o, none⟩ = false
theorem Unf.start (w : World) : Unf w.heap.size w := fun b o hb => by
  unfold World.frozen?
  rw [Array.getElem?_eq_none (by simpa using hb)]
theorem Unf.set {B : Nat} {w : World} (h : Unf B w) (p : Addr) (v : Value) : Unf B (w.setCell p v) := fun b o hb => by rw [World.frozen?_setCell]; exact h b o hb
theorem Unf.alloc {B : Nat} {w : World} (h : Unf B w) (c : Array Value) (t : TypeId) : Unf B (w.alloc (.cells c t)) := fun b o hb => by
  by_cases e : b = w.heap.size
  · subst e; exact World.frozen?_alloc_at c t _ _ rfl
  · rw [World.frozen?_alloc_old _ _ _ (by simpa using e)]; exact h b o hb
theorem Unf.next {B : Nat} {w w1 : World} (h : Unf B w) (hb : Below w.heap.size w w1) (h1 : Unf w.heap.size w1) : Unf B w1 := fun b o hB => by
  by_cases e : b < w.heap.size
  · rw [hb.frozen (by simpa using e)]; exact h b o hB
  · exact h1 b o (by omega)

theorem toEnt_u (s : ByteArray) (i : Int) (w : World) :
    Calls Try.prog 159 #[.agg #[.string s, .int .i64 i]] w fun e w' => e = .returned (.agg #[.string s, .int .i64 i]) ∧ Below w.heap.size w w' ∧ Unf w.heap.size w' := by
  go_enter Try.func159, Try.ntmps159
  go_wp2
  exact bodyPost_ret (v := .agg #[.string s, .int .i64 i]) (by simp [results, Try.results159, go_sem]) rfl ⟨rfl, by
    repeat (first | exact Below.refl _ _ | refine Below.setCell ?_ (by simp <;> omega) _ | refine Below.alloc ?_ (by simp <;> omega) _), by
    repeat (first | exact Unf.start _ | refine Unf.set ?_ _ _ | refine Unf.alloc ?_ _ _)⟩

set_option maxHeartbeats 400000 in
theorem toEntS_u (a : Option Addr) (n c : Nat) (es : List LEnt) (L U : Nat) (w : World) (hn : n ≤ 1048576) (hU : U ≤ w.heap.size) (H : EntsAt w L U a n es) :
    Calls Try.prog 140 #[.slice a n c] w fun e w' => (∃ b, e = .returned (.slice (some ⟨b, 0, none⟩) n n) ∧ EntsAt w' w.heap.size w'.heap.size (some ⟨b, 0, none⟩) n es) ∧ Below w.heap.size w w' ∧ Unf w.heap.size w' := by
  have hmk := run_make_many 36 137 _ 2 24 Try.underlying36 info47 n (by omega) (by omega)
  obtain ⟨f0, hf0⟩ := rowIs_many w #[.string ByteArray.empty, .int .i64 0] (n * 2) 137
  have HF0 : Hid ((w.alloc (.cells (madeCells #[.string ByteArray.empty, .int .i64 0] (n * 2)) 137)).rowIs w.heap.size 137 (n * 2) f0) := hf0
  clear hf0
  go_enter Try.func140, Try.ntmps140
  go_wp2
  go_loopg [4] n (fun k i wr => ∃ j : Nat, j ≤ n ∧ Hid (k = n - j) ∧ i = .int .i64 j ∧ (∃ f, Hid (wr.rowIs w.heap.size 137 (n * 2) f ∧ ∀ i, i < j → ∃ e, es[i]? = some e ∧ f (i * 2) = .string e.name ∧ f (i * 2 + 1) = .int .i64 e.id)) ∧ Below w.heap.size w wr ∧ Unf w.heap.size wr)
  case atStart => exact ⟨0, Nat.zero_le _, by show _ = _; omega, rfl, ⟨f0, HF0.out, fun i hi => by omega⟩, (Below.refl _ _).alloc (Nat.le_refl _) _, (Unf.start w).alloc _ _⟩
  case round =>
    obtain ⟨j, hj, hk, rfl, ⟨f, hf⟩, hb, hu⟩ := hrel
    by_cases hlt : j < n
    · obtain ⟨b, off, ha, hL, hbU, hc⟩ := H.at_ (by omega)
      subst ha
      obtain ⟨e, he, hsz, hc0, hc1⟩ := hc j hlt
      rw [← hb.cell (by simp; omega)] at hc0 hc1
      have HE : Hid (es[j]? = some e) := he
      clear he hc
      go_wp2_with fail
      refine (toEnt_u _ _ _).mono ?_
      rintro x w1 ⟨rfl, hb1, hu1⟩
      have hrow := hf.out.1.of_block (hb1.block w.heap.size hf.out.1.lt)
      have g0 := hrow.cell (i := j * 2) (by omega)
      have g1 := hrow.cell (i := j * 2 + 1) (by omega)
      have z0 := hrow.frozen (j * 2)
      have z1 := hrow.frozen (j * 2 + 1)
      have HR : Hid (w1.rowIs w.heap.size 137 (n * 2) f) := hrow
      clear hrow
      go_wp2_with fail
      go_roundg (n - (j + 1))
      case measure => have := hk.out; omega
      case rel =>
        refine ⟨j + 1, by omega, rfl, by go_num, ⟨_, (HR.out.set (j * 2) (.string e.name)).set (j * 2 + 1) (.int .i64 e.id), fun i hi => ?_⟩, ((hb.trans (hb1.mono hb.size)).setCell (by simp) _).setCell (by simp) _, ((hu.next hb1 hu1).set _ _).set _ _⟩
        by_cases hij : i = j
        · subst hij
          exact ⟨e, HE.out, by simp, by simp⟩
        · obtain ⟨e', he', q0, q1⟩ := hf.out.2 i (by omega)
          refine ⟨e', he', ?_, ?_⟩
          · show (if i * 2 = j * 2 + 1 then _ else if i * 2 = j * 2 then _ else f (i * 2)) = _
            rw [if_neg (by omega), if_neg (by omega)]; exact q0
          · show (if i * 2 + 1 = j * 2 + 1 then _ else if i * 2 + 1 = j * 2 then _ else f (i * 2 + 1)) = _
            rw [if_neg (by omega), if_neg (by omega)]; exact q1
    · go_wp2_with fail
      go_ret
      refine ⟨⟨w.heap.size, rfl, H.len, H.bd, fun hn0 => ⟨w.heap.size, 0, rfl, Nat.le_refl _, hf.out.1.lt, fun i hi => ?_⟩⟩, hb, hu⟩
      obtain ⟨e', he', q0, q1⟩ := hf.out.2 i (by omega)
      obtain ⟨b, off, ha, hL, hbU, hc⟩ := H.at_ hn0
      obtain ⟨e2, he2, hsz, _, _⟩ := hc i hi
      rw [he'] at he2
      cases he2
      exact ⟨e', he', hsz, by rw [← q0, Nat.zero_add]; exact hf.out.1.cell (by omega), by rw [← q1, Nat.zero_add]; exact hf.out.1.cell (by omega)⟩

set_option maxHeartbeats 400000 in
theorem toObj_u (k v : Int) (s : ByteArray) (a : Option Addr) (n c : Nat) (es : List LEnt) (L U : Nat) (w : World) (hn : n ≤ 1048576) (hU : U ≤ w.heap.size) (H : EntsAt w L U a n es) :
    Calls Try.prog 107 #[.agg #[.int .i64 k, .int .i64 v, .string s, .slice a n c]] w fun e w' => (∃ b, e = .returned (.agg #[.int .i64 k, .int .i64 v, .string s, .slice (some ⟨b, 0, none⟩) n n]) ∧ EntsAt w' w.heap.size w'.heap.size (some ⟨b, 0, none⟩) n es) ∧ Below w.heap.size w w' ∧ Unf w.heap.size w' := by
  go_enter Try.func107, Try.ntmps107
  go_wp2_with fail
  refine (toEntS_u _ _ _ _ L U _ hn (by simp; omega) (H.below ((((Below.refl _ _).alloc (Nat.le_refl _) _).alloc (by simp) _).alloc (by simp; omega) _) hU)).mono ?_
  rintro x w1 ⟨⟨b, rfl, hk⟩, hb, hu1⟩
  obtain ⟨hc, hf⟩ := bcell hb
  have hz : w.heap.size + 3 ≤ w1.heap.size := by have := hb.size; simp at this; omega
  have hb0 : Below w.heap.size w w1 := ((((Below.refl _ _).alloc (Nat.le_refl _) _).alloc (by simp) _).alloc (by simp; omega) _).trans (hb.mono (by simp; omega))
  go_wp2_with fail
  refine bodyPost_ret (v := .agg #[.int .i64 k, .int .i64 v, .string s, .slice (some ⟨b, 0, none⟩) n n]) (by simp [results, Try.results107, go_sem, hc]) rfl ⟨⟨b, rfl, ?_⟩, ?_, ?_⟩
  · refine EntsAt.wide (L := w.heap.size + 3) (U := w1.heap.size) ?_ (by omega) (by simp)
    have hk' : EntsAt w1 (w.heap.size + 3) w1.heap.size (some ⟨b, 0, none⟩) n es := hk.wide (by simp) (Nat.le_refl _)
    repeat (first | exact hk' | refine EntsAt.setCell ?_ _ _ (by simp <;> omega))
  · repeat (first | exact hb0 | refine Below.setCell ?_ (by simp <;> omega) _)
  · have hu0 : Unf w.heap.size w1 := ((((Unf.start w).alloc _ _).alloc _ _).alloc _ _).next hb hu1
    repeat (first | refine Unf.set ?_ _ _ | exact hu0)

set_option maxHeartbeats 800000 in
theorem toObjS_u (a : Option Addr) (n c : Nat) (os : List LObj) (L U : Nat) (w : World) (hn : n ≤ 1048576) (hS : Sizes os 1048576) (hU : U ≤ w.heap.size) (H : ObjsAt w L U a n os) :
    Calls Try.prog 62 #[.slice a n c] w fun e w' => (∃ b, e = .returned (.slice (some ⟨b, 0, none⟩) n n) ∧ ObjsAt w' w.heap.size w'.heap.size (some ⟨b, 0, none⟩) n os) ∧ Below w.heap.size w w' ∧ Unf w.heap.size w' := by
  have hmk := run_make_many 23 38 _ 4 56 Try.underlying23 info34 n (by omega) (by omega)
  obtain ⟨f0, hf0⟩ := rowIs_many w #[.int .i64 0, .int .i64 0, .string ByteArray.empty, .slice none 0 0] (n * 4) 38
  have HF0 : Hid ((w.alloc (.cells (madeCells #[.int .i64 0, .int .i64 0, .string ByteArray.empty, .slice none 0 0] (n * 4)) 38)).rowIs w.heap.size 38 (n * 4) f0) := hf0
  clear hf0
  go_enter Try.func62, Try.ntmps62
  go_wp2
  go_loopg [4] n (fun k i wr => ∃ j : Nat, j ≤ n ∧ Hid (k = n - j) ∧ i = .int .i64 j ∧ (∃ f, Hid (wr.rowIs w.heap.size 38 (n * 4) f ∧ ∀ i, i < j → ∃ o ka kn kc, os[i]? = some o ∧ f (i * 4) = .int .i64 o.kind ∧ f (i * 4 + 1) = .int .i64 o.ver ∧ f (i * 4 + 2) = .string o.text ∧ f (i * 4 + 3) = .slice ka kn kc ∧ EntsAt wr (w.heap.size + 1) wr.heap.size ka kn o.kids)) ∧ Below w.heap.size w wr ∧ Unf w.heap.size wr)
  case atStart => exact ⟨0, Nat.zero_le _, by show _ = _; omega, rfl, ⟨f0, HF0.out, fun i hi => by omega⟩, (Below.refl _ _).alloc (Nat.le_refl _) _, (Unf.start w).alloc _ _⟩
  case round =>
    obtain ⟨j, hj, hk, rfl, ⟨f, hf⟩, hb, hu⟩ := hrel
    by_cases hlt : j < n
    · obtain ⟨b, off, ha, hL, hbU, hc⟩ := H.at_ (by omega)
      subst ha
      obtain ⟨o, ka, kn, kc, he, hsz, hc0, hc1, hc2, hc3, hks⟩ := hc j hlt
      have hkn : kn ≤ 1048576 := by rw [hks.len]; exact hS o (List.mem_of_getElem? he)
      rw [← hb.cell (by simp; omega)] at hc0 hc1 hc2 hc3
      have HE : Hid (os[j]? = some o) := he
      clear he hc
      have hrl := hf.out.1.lt
      go_wp2_with fail
      refine (toObj_u _ _ _ _ _ _ _ L U _ hkn (by have := hb.size; omega) (hks.below hb hU)).mono ?_
      rintro x w1 ⟨⟨kb, rfl, hke⟩, hb1, hu1⟩
      have hrow := hf.out.1.of_block (hb1.block w.heap.size hf.out.1.lt)
      have g0 := hrow.cell (i := j * 4) (by omega)
      have g1 := hrow.cell (i := j * 4 + 1) (by omega)
      have g2 := hrow.cell (i := j * 4 + 2) (by omega)
      have g3 := hrow.cell (i := j * 4 + 3) (by omega)
      have z0 := hrow.frozen (j * 4)
      have z1 := hrow.frozen (j * 4 + 1)
      have z2 := hrow.frozen (j * 4 + 2)
      have z3 := hrow.frozen (j * 4 + 3)
      have HR : Hid (w1.rowIs w.heap.size 38 (n * 4) f) := hrow
      clear hrow
      go_wp2_with fail
      go_roundg (n - (j + 1))
      case measure => have := hk.out; omega
      case rel =>
        have hbs := hb1.size
        refine ⟨j + 1, by omega, rfl, by go_num, ⟨_, (((HR.out.set (j * 4) (.int .i64 o.kind)).set (j * 4 + 1) (.int .i64 o.ver)).set (j * 4 + 2) (.string o.text)).set (j * 4 + 3) (.slice (some ⟨kb, 0, none⟩) kn kn), fun i hi => ?_⟩, ((((hb.trans (hb1.mono hb.size)).setCell (by simp) _).setCell (by simp) _).setCell (by simp) _).setCell (by simp) _, ((((hu.next hb1 hu1).set _ _).set _ _).set _ _).set _ _⟩
        by_cases hij : i = j
        · subst hij
          refine ⟨o, _, _, _, HE.out, by simp, by simp, by simp, by simp; exact ⟨rfl, rfl, rfl⟩, ?_⟩
          refine EntsAt.wide (L := wr.heap.size) (U := w1.heap.size) ?_ (by omega) (by simp)
          repeat (first | exact hke | refine EntsAt.setCell ?_ _ _ (by simp <;> omega))
        · obtain ⟨o', ka', kn', kc', he', q0, q1, q2, q3, qk⟩ := hf.out.2 i (by omega)
          refine ⟨o', ka', kn', kc', he', ?_, ?_, ?_, ?_, ?_⟩
          · rw [if_neg (by omega), if_neg (by omega), if_neg (by omega), if_neg (by omega)]; exact q0
          · rw [if_neg (by omega), if_neg (by omega), if_neg (by omega), if_neg (by omega)]; exact q1
          · rw [if_neg (by omega), if_neg (by omega), if_neg (by omega), if_neg (by omega)]; exact q2
          · rw [if_neg (by omega), if_neg (by omega), if_neg (by omega), if_neg (by omega)]; exact q3
          · refine EntsAt.wide (L := w.heap.size + 1) (U := wr.heap.size) ?_ (by omega) (by simp; omega)
            have qk' := qk.below hb1 (Nat.le_refl _)
            repeat (first | exact qk' | refine EntsAt.setCell ?_ _ _ (by simp))
    · go_wp2_with fail
      go_ret
      refine ⟨⟨w.heap.size, rfl, H.len, H.bd, fun hn0 => ⟨w.heap.size, 0, rfl, Nat.le_refl _, hf.out.1.lt, fun i hi => ?_⟩⟩, hb, hu⟩
      obtain ⟨o', ka', kn', kc', he', q0, q1, q2, q3, qk⟩ := hf.out.2 i (by omega)
      obtain ⟨b, off, ha, hL, hbU, hc⟩ := H.at_ hn0
      obtain ⟨o2, _, _, _, he2, hsz, _⟩ := hc i hi
      rw [he'] at he2
      cases he2
      refine ⟨o', ka', kn', kc', he', hsz, ?_, ?_, ?_, ?_, qk.wide (by omega) (Nat.le_refl _)⟩
      · rw [← q0, Nat.zero_add]; exact hf.out.1.cell (by omega)
      · rw [← q1, Nat.zero_add]; exact hf.out.1.cell (by omega)
      · rw [← q2, Nat.zero_add]; exact hf.out.1.cell (by omega)
      · rw [← q3, Nat.zero_add]; exact hf.out.1.cell (by omega)

set_option maxHeartbeats 400000 in
theorem toTree_u (a : Option Addr) (n c : Nat) (os : List LObj) (L U : Nat) (w : World) (hn : n ≤ 1048576) (hS : Sizes os 1048576) (hU : U ≤ w.heap.size) (H : ObjsAt w L U a n os) :
    Calls Try.prog 22 #[.agg #[.slice a n c]] w fun e w' => (∃ b, e = .returned (.agg #[.slice (some ⟨b, 0, none⟩) n n]) ∧ ObjsAt w' w.heap.size w'.heap.size (some ⟨b, 0, none⟩) n os) ∧ Below w.heap.size w w' ∧ Unf w.heap.size w' := by
  go_enter Try.func22, Try.ntmps22
  go_wp2_with fail
  refine (toObjS_u _ _ _ _ L U _ hn hS (by simp; omega) (H.below ((((Below.refl _ _).alloc (Nat.le_refl _) _).alloc (by simp) _).alloc (by simp; omega) _) hU)).mono ?_
  rintro x w1 ⟨⟨b, rfl, hk⟩, hb, hu1⟩
  obtain ⟨hc, hf⟩ := bcell hb
  have hz : w.heap.size + 3 ≤ w1.heap.size := by have := hb.size; simp at this; omega
  have hb0 : Below w.heap.size w w1 := ((((Below.refl _ _).alloc (Nat.le_refl _) _).alloc (by simp) _).alloc (by simp; omega) _).trans (hb.mono (by simp; omega))
  go_wp2_with fail
  refine bodyPost_ret (v := .agg #[.slice (some ⟨b, 0, none⟩) n n]) (by simp [results, Try.results22, go_sem, hc]) rfl ⟨⟨b, rfl, ?_⟩, ?_, ?_⟩
  · refine ObjsAt.wide (L := w.heap.size + 3) (U := w1.heap.size) ?_ (by omega) (by simp)
    have hk' : ObjsAt w1 (w.heap.size + 3) w1.heap.size (some ⟨b, 0, none⟩) n os := hk.wide (by simp) (Nat.le_refl _)
    repeat (first | exact hk' | refine ObjsAt.setCell ?_ _ _ (by simp <;> omega))
  · repeat (first | exact hb0 | refine Below.setCell ?_ (by simp <;> omega) _)
  · have hu0 : Unf w.heap.size w1 := ((((Unf.start w).alloc _ _).alloc _ _).alloc _ _).next hb hu1
    repeat (first | refine Unf.set ?_ _ _ | exact hu0)

/-- What was copied can be marked. -/
theorem ObjsAt.typed {w : World} {L U : Nat} {a : Option Addr} {n : Nat} {os : List LObj} (h : ObjsAt w L U a n os) (hU : U ≤ w.heap.size) (hu : Unf L w) : TypedO w L U a n os := fun hn => by
  obtain ⟨b, off, ha, hL, hbU, hc⟩ := h.at_ hn
  refine ⟨b, off, ha, hL, hbU, by omega, fun o => hu b o hL, fun i hi => ?_⟩
  obtain ⟨o, ka, kn, kc, he, _, h0, h1, h2, h3, hk⟩ := hc i hi
  obtain rfl : kn = o.kids.length := hk.len
  refine ⟨⟨_, h0⟩, ⟨_, h1⟩, ⟨_, h2⟩, o, ka, kc, he, h3, fun hk0 => ?_⟩
  obtain ⟨kb, koff, hka, hkL, hkU, hkc⟩ := hk.at_ hk0
  refine ⟨kb, koff, hka, hkL, hkU, by omega, fun o => hu kb o hkL, fun t ht => ?_⟩
  obtain ⟨e, _, _, g0, g1⟩ := hkc t ht
  exact ⟨⟨_, g0⟩, _, g1⟩
end Go.Proofs.Ytdjffkiiglilnaa


/- Lists of what is done as answers: what the exact laws ask. -/
namespace Go.Proofs.Ytdjffkiiglilnaa
open Go.RowKit

theorem OpsAt.but {w w' : World} {L U b : Nat} {a : Option Addr} {n : Nat} {ops : List LOp} (H : OpsAt w L U a n ops) (hb : But b w w') (hU : U ≤ w.heap.size) (hne : b < L ∨ U ≤ b) : OpsAt w' L U a n ops :=
  ⟨H.len, H.bd, fun hn => by
    obtain ⟨g, off, ha, hL, hbU, hc⟩ := H.at_ hn
    refine ⟨g, off, ha, hL, hbU, fun i hi => ?_⟩
    obtain ⟨o, ho, hs, h0⟩ := hc i hi
    exact ⟨o, ho, hs, h0.of_block (hb.block g (by omega) (by omega))⟩⟩
theorem OwnOps.but {w w' : World} {B b : Nat} {v : Value} {l : List LOp} (h : OwnOps w B v l) (hb : But b w w') (hlt : b < B) : OwnOps w' B v l := by
  refine ⟨h.1, ?_⟩
  rcases h.2 with hn | ⟨g, cap, cur, rfl, hB, hgg, rest⟩
  · exact .inl hn
  · refine .inr ⟨g, cap, cur, rfl, hB, ?_, rest⟩
    rw [hb.block g (by omega) (Array.getElem?_eq_some_iff.1 hgg).1]
    exact hgg
theorem OpRow.next {w w' : World} {B : Nat} {a : Option Addr} {n g cap : Nat} {f : Nat → Value} (h : OpRow w B a n g cap f) (hb : Below w.heap.size w w') : OpRow w' B a n g cap f := fun hn => by
  obtain ⟨h1, h2, h3, h4⟩ := h hn
  exact ⟨h1, h2, h3, h4.of_block (hb.block g h4.lt)⟩
theorem But.under {B b : Nat} {w0 w w' : World} (h : Below B w0 w) (hb : But b w w') (hB : B ≤ b) : Below B w0 w' := h.trans (hb.below.mono hB)

set_option maxHeartbeats 1000000 in
theorem toOpS_row (a : Option Addr) (n c : Nat) (ops : List LOp) (L U : Nat) (w : World) (hn : n ≤ 1048576) (hU : U ≤ w.heap.size) (H : OpsAt w L U a n ops) :
    Calls Try.prog 23 #[.slice a n c] w fun e w' => (∃ b f, e = .returned (.slice (some ⟨b, 0, none⟩) n n) ∧ w.heap.size ≤ b ∧ b < w'.heap.size ∧ w'.rowIs b 99 (n * 7) f ∧ (∀ i, i < n → OpCell f i) ∧ OpsAt w' w.heap.size w'.heap.size (some ⟨b, 0, none⟩) n ops) ∧ Below w.heap.size w w' := by
  have hmk := run_make_many 27 99 _ 7 80 Try.underlying27 info65 n (by omega) (by omega)
  obtain ⟨f0, hf0⟩ := rowIs_many w #[.int .i64 0, .int .i64 0, .string ByteArray.empty, .int .i64 0, .string ByteArray.empty, .int .i64 0, .string ByteArray.empty] (n * 7) 99
  have HF0 : Hid ((w.alloc (.cells (madeCells #[.int .i64 0, .int .i64 0, .string ByteArray.empty, .int .i64 0, .string ByteArray.empty, .int .i64 0, .string ByteArray.empty] (n * 7)) 99)).rowIs w.heap.size 99 (n * 7) f0) := hf0
  clear hf0
  go_enter Try.func23, Try.ntmps23
  go_wp2
  go_loopg [4] n (fun k i wr => ∃ j : Nat, j ≤ n ∧ Hid (k = n - j) ∧ i = .int .i64 j ∧ (∃ f, Hid (wr.rowIs w.heap.size 99 (n * 7) f ∧ ∀ i, i < j → ∃ o, ops[i]? = some o ∧ opF f i o)) ∧ Below w.heap.size w wr)
  case atStart => exact ⟨0, Nat.zero_le _, by show _ = _; omega, rfl, ⟨f0, HF0.out, fun i hi => by omega⟩, (Below.refl _ _).alloc (Nat.le_refl _) _⟩
  case round =>
    obtain ⟨j, hj, hk, rfl, ⟨f, hf⟩, hb⟩ := hrel
    by_cases hlt : j < n
    · obtain ⟨b, off, ha, hL, hbU, hc⟩ := H.at_ (by omega)
      subst ha
      obtain ⟨o, he, hsz, hat⟩ := hc j hlt
      obtain ⟨d0, d1, d2, d3, d4, d5, d6⟩ := hat.of_block (hb.block b (by omega))
      have HE : Hid (ops[j]? = some o) := he
      have HTO := toOp_any o
      simp only [LOp.val] at HTO
      have hlt' : (j : Int) < (n : Int) := by omega
      have hrl := hf.out.1.lt
      clear he hc hat
      go_wp2_with fail
      refine (HTO _).mono ?_
      rintro x w1 ⟨rfl, hb1⟩
      have hrow := hf.out.1.of_block (hb1.block w.heap.size hf.out.1.lt)
      have g0 := hrow.cell (i := j * 7) (by omega)
      have g1 := hrow.cell (i := j * 7 + 1) (by omega)
      have g2 := hrow.cell (i := j * 7 + 2) (by omega)
      have g3 := hrow.cell (i := j * 7 + 3) (by omega)
      have g4 := hrow.cell (i := j * 7 + 4) (by omega)
      have g5 := hrow.cell (i := j * 7 + 5) (by omega)
      have g6 := hrow.cell (i := j * 7 + 6) (by omega)
      have z0 := hrow.frozen (j * 7)
      have z1 := hrow.frozen (j * 7 + 1)
      have z2 := hrow.frozen (j * 7 + 2)
      have z3 := hrow.frozen (j * 7 + 3)
      have z4 := hrow.frozen (j * 7 + 4)
      have z5 := hrow.frozen (j * 7 + 5)
      have z6 := hrow.frozen (j * 7 + 6)
      have HR : Hid (w1.rowIs w.heap.size 99 (n * 7) f) := hrow
      clear hrow HTO d0 d1 d2 d3 d4 d5 d6
      go_wp2_with fail
      go_roundg (n - (j + 1))
      case measure => have := hk.out; omega
      case rel =>
        have hbs := hb1.size
        refine ⟨j + 1, by omega, rfl, by go_num, ⟨_, (((((((HR.out.set (j * 7) (.int .i64 o.kind)).set (j * 7 + 1) (.int .i64 o.dir)).set (j * 7 + 2) (.string o.name)).set (j * 7 + 3) (.int .i64 o.dir2)).set (j * 7 + 4) (.string o.name2)).set (j * 7 + 5) (.int .i64 o.id)).set (j * 7 + 6) (.string o.text)), fun i hi => ?_⟩, ((((((((hb.trans (hb1.mono hb.size)).setCell (by simp) _).setCell (by simp) _).setCell (by simp) _).setCell (by simp) _).setCell (by simp) _).setCell (by simp) _).setCell (by simp) _)⟩
        by_cases hij : i = j
        · subst hij
          exact ⟨o, HE.out, by simp, by simp, by simp, by simp, by simp, by simp, by simp⟩
        · obtain ⟨o', he', q0, q1, q2, q3, q4, q5, q6⟩ := hf.out.2 i (by omega)
          refine ⟨o', he', ?_, ?_, ?_, ?_, ?_, ?_, ?_⟩ <;> dsimp only <;> rw [if_neg (by omega), if_neg (by omega), if_neg (by omega), if_neg (by omega), if_neg (by omega), if_neg (by omega), if_neg (by omega)] <;> assumption
    · go_wp2_with fail
      go_ret
      refine ⟨⟨w.heap.size, f, rfl, Nat.le_refl _, hf.out.1.lt, hf.out.1, fun i hi => (by obtain ⟨o', _, h⟩ := hf.out.2 i (by omega); exact ⟨o', h⟩), H.len, H.bd, fun hn0 => ⟨w.heap.size, 0, rfl, Nat.le_refl _, hf.out.1.lt, fun i hi => ?_⟩⟩, hb⟩
      obtain ⟨o', he', q0, q1, q2, q3, q4, q5, q6⟩ := hf.out.2 i (by omega)
      obtain ⟨b, off, ha, hL, hbU, hc⟩ := H.at_ hn0
      obtain ⟨o2, he2, hsz, _⟩ := hc i hi
      rw [he'] at he2
      cases he2
      refine ⟨o', he', hsz, by rw [← q0, Nat.zero_add]; exact hf.out.1.cell (by omega), by rw [← q1, Nat.zero_add]; exact hf.out.1.cell (by omega), by rw [← q2, Nat.zero_add]; exact hf.out.1.cell (by omega), by rw [← q3, Nat.zero_add]; exact hf.out.1.cell (by omega), by rw [← q4, Nat.zero_add]; exact hf.out.1.cell (by omega), by rw [← q5, Nat.zero_add]; exact hf.out.1.cell (by omega), by rw [← q6, Nat.zero_add]; exact hf.out.1.cell (by omega)⟩


theorem ifOk_sz {F : List LOp → List LOp} {ops : List LOp} (hF : AllL OpSz ops.length (F ops)) : ∀ o ∈ ifOk F ops, OpSz o := by
  unfold ifOk
  split
  · exact hF.1
  · intro o ho; cases ho
theorem ifOk_len {F : List LOp → List LOp} {ops : List LOp} (hF : (F ops).length ≤ ops.length) : (ifOk F ops).length ≤ 60 := by
  unfold ifOk
  split
  · next h => have := formsB_len h; omega
  · simp
end Go.Proofs.Ytdjffkiiglilnaa
