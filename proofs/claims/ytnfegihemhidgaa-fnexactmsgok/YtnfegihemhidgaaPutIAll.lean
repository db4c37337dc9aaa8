import Derived.Test.YtnfegihemhidgaaCopyAll
/- append of numbers onto numbers that the call owns; putting a number among others. -/
namespace Go.Proofs.Ytnfegihemhidgaa
open Go.RowKit

def intCells (l : List Nat) : List Value := l.map fun i : Nat => Value.int .i64 i
structure AppIEnd (w w' : World) (B g g' n cap' : Nat) (l : List Nat) : Prop where
  own : OwnInts w' B (.slice (some ⟨g', 0, none⟩) n cap') l
  grown : w.grownBy w' (some g)
  at_ : g' = g ∨ g' = w.heap.size
  lt : g' < w'.heap.size
theorem run_app_ints (w : World) (B g n cap : Nat) (l news : List Nat) (ty : TypeId) (hn : n = l.length) (hown : OwnInts w B (.slice (some ⟨g, 0, none⟩) n cap) l) (ad : Addr) (m c : Nat) (hm : m = news.length)
    (hnews : ∀ j u, (intCells news)[j]? = some u → w.cell? (ad.add j) = some u) (hbd : n + m ≤ 4000000) (hB : B ≤ w.heap.size) :
    ∃ g' cap' w', (Builtin.append_ #[70, 70] ty #[.slice (some ⟨g, 0, none⟩) n cap, .slice (some ad) m c]).run Try.prog w = .ok (.slice (some ⟨g', 0, none⟩) (n + m) cap') w' ∧ AppIEnd w w' B g g' (n + m) cap' (l ++ news) := by
  obtain ⟨i0, hi, hz0, hz1, hz2⟩ := info_parts infoI
  subst hn hm
  obtain ⟨v', w', hr, h2, h3, h4, h5⟩ := run_append_own_at (P := Try.prog) w B 70 ty 3 i0 _ 1 8 Try.underlying70 hi hz0 hz1 hz2 rfl (by decide) _ _ _ hown ad news.length c (intCells news) (by simp [intCells]) hnews (fun u hu => by simp [intCells] at hu; obtain ⟨_, _, rfl⟩ := hu; rfl) (by unfold maxLen; omega) (by omega) hB
  have h2' := h2
  rcases h2.2 with ⟨hv, _⟩ | ⟨g', cap', cur, rfl, hb, hg, _⟩
  · have := (h4.1 hv).1; cases this
  · refine ⟨g', cap', w', hr, ⟨?_, h3, ?_, (Array.getElem?_eq_some_iff.1 hg).1⟩⟩
    · unfold OwnInts; rw [List.map_append, List.length_append]; exact h2'
    · simpa [Value.ownBlock] using h5
theorem wpList_app_ints (w : World) {ops : Array Oper} {rest : List Oper} {o : Oper} {a : Act} {Q : Exit → Act → World → Prop} (hgd : o.guard = none) (s x : Operand)
    (ho : o.op = .call { callee := .builtin .append, args := #[s, x], argTypes := #[70, 70] }) (B g n cap : Nat) (l news : List Nat) (hn : n = l.length) (hown : OwnInts w B (.slice (some ⟨g, 0, none⟩) n cap) l) (ad : Addr) (m c : Nat) (hm : m = news.length)
    (hs : a.eval s = .slice (some ⟨g, 0, none⟩) n cap) (hx : a.eval x = .slice (some ad) m c)
    (hnews : ∀ j u, (intCells news)[j]? = some u → w.cell? (ad.add j) = some u) (hbd : n + m ≤ 4000000) (hB : B ≤ w.heap.size)
    (h : ∀ g' cap' w', AppIEnd w w' B g g' (n + m) cap' (l ++ news) → wpList Try.prog ops Q rest (a.put o.dst (.slice (some ⟨g', 0, none⟩) (n + m) cap')) w') : wpList Try.prog ops Q (o :: rest) a w := by
  obtain ⟨g', cap', w', hr, h2⟩ := run_app_ints w B g n cap l news o.type hn hown ad m c hm hnews hbd hB
  refine wpList_plain hgd fun K hK => ?_
  unfold Oper.wp execOp
  simp only [ho, resolve, invoke, builtin, Sem.run_bind, Sem.run_pure, Result.andThen_ok, List.map_toArray, List.map_cons, List.map_nil, hs, hx, hr]
  exact hK _ _ (h g' cap' w' h2)
theorem OwnInts.cut {w : World} {B g n cap k : Nat} {l : List Nat} (h : OwnInts w B (.slice (some ⟨g, 0, none⟩) n cap) l) (hn : n = l.length) (hk : k ≤ n) : OwnInts w B (.slice (some ⟨g, 0, none⟩) k cap) (l.take k) := by
  subst hn
  have hl : (l.take k).length = k := by simp; omega
  refine ⟨by simp, .inr ?_⟩
  rcases h.2 with ⟨h', _⟩ | ⟨g', cap', cur, h', hb, hg, hnc, hcm, hcs, htake⟩
  · simp at h'
  · simp only [Value.slice.injEq, Option.some.injEq, Addr.mk.injEq, and_true, true_and] at h'
    obtain ⟨rfl, rfl⟩ := h'
    refine ⟨g, cap, cur, by rw [hl], hb, hg, by omega, hcm, hcs, ?_⟩
    have e2 : cur.toList.take (k * 1) = (cur.toList.take (l.length * 1)).take k := by rw [List.take_take]; congr 1; omega
    rw [hl, e2, htake, List.map_take]
theorem OwnInts.rest {w : World} {B g n cap k : Nat} {l : List Nat} (h : OwnInts w B (.slice (some ⟨g, 0, none⟩) n cap) l) (hn : n = l.length) : ∀ j u, (intCells (l.drop k))[j]? = some u → w.cell? ((⟨g, k, none⟩ : Addr).add j) = some u := by
  intro j u hu
  subst hn
  have h1 : (intCells l)[k + j]? = some u := by simpa [intCells] using hu
  have hj : k + j < l.length * 1 := by
    have := (List.getElem?_eq_some_iff.1 h1).1
    simpa [intCells] using this
  have h2 := World.ownsRow.cellAt h (k + j) hj
  have hadd : (⟨g, k, none⟩ : Addr).add j = ⟨g, k + j, none⟩ := by unfold Addr.add; split <;> simp_all
  rw [hadd, h2]; exact h1
theorem OwnInts.empty (w : World) (B g : Nat) (hg : w.heap.size = g) (hB : B ≤ w.heap.size) : OwnInts (w.alloc (Obj.cells #[] 3)) B (.slice (some ⟨g, 0, none⟩) 0 0) [] := by
  subst hg
  simpa [OwnInts] using World.ownsRow_lit (base := B) (e := 3) (size := 1) w #[] 0 hB (by simp [maxLen]) rfl
theorem OwnInts.grown {w w' : World} {B g n cap : Nat} {l : List Nat} {row : Option Nat} (h : OwnInts w B (.slice (some ⟨g, 0, none⟩) n cap) l) (hg : w.grownBy w' row) (hne : some g ≠ row) : OwnInts w' B (.slice (some ⟨g, 0, none⟩) n cap) l :=
  World.ownsRow.kept h hg (.inr (by simpa [Value.ownBlock] using hne))

/-- Where a number goes among others; the list with it. -/
def placeI (x : Nat) (l : List Nat) : Nat := (l.takeWhile fun y => decide (y < x)).length
def putI (x : Nat) (l : List Nat) : List Nat := if l[placeI x l]? = some x then l else l.take (placeI x l) ++ [x] ++ l.drop (placeI x l)
theorem placeI_at {x : Nat} : ∀ {l : List Nat} {k : Nat}, (∀ i, i < k → ∃ e, l[i]? = some e ∧ e < x) → (k = l.length ∨ ∃ e, l[k]? = some e ∧ ¬ e < x) → placeI x l = k
  | [], k, h, h' => by
    rcases h' with h' | ⟨e, he, _⟩
    · simpa [placeI] using h'.symm
    · simp at he
  | e :: r, 0, _, h' => by
    rcases h' with h' | ⟨y, hy, hl⟩
    · simp at h'
    · simp at hy; subst hy; simp [placeI, hl]
  | e :: r, k + 1, h, h' => by
    obtain ⟨y, hy, hl⟩ := h 0 (by omega)
    simp at hy; subst hy
    have ih := placeI_at (x := x) (l := r) (k := k) (fun i hi => by simpa using h (i + 1) (by omega)) (by simpa using h')
    simp only [placeI, List.takeWhile_cons, hl, decide_true, if_true, List.length_cons] at ih ⊢
    rw [ih]
end Go.Proofs.Ytnfegihemhidgaa

/- Putting a number among others that ascend: the walk. -/
namespace Go.Proofs.Ytnfegihemhidgaa
open Go.RowKit

theorem putI_len {a : Nat} {l : List Nat} {x : Nat} (h : a = l.length) : a + 1 = (l ++ [x]).length := by simp [h]
theorem putI_news {Wx w2 : World} {C g g1 n cap : Nat} {l : List Nat} (hg : Wx.grownBy w2 (some g)) (hne : g1 ≠ g) (h : OwnInts Wx C (.slice (some ⟨g1, 0, none⟩) n cap) l) : ∀ j u, (intCells l)[j]? = some u → w2.cell? ((⟨g1, 0, none⟩ : Addr).add j) = some u := by
  have h2 := OwnInts.grown h hg (by simpa using hne)
  exact World.ownsRow.cells h2 rfl
def PutIEnd (w : World) (B g : Nat) (x : Nat) (l : List Nat) (e : Ending) (w' : World) : Prop := ∃ g' n' cap', e = .returned (.slice (some ⟨g', 0, none⟩) n' cap') ∧ n' = (putI x l).length ∧ OwnInts w' B (.slice (some ⟨g', 0, none⟩) n' cap') (putI x l) ∧ w.grownBy w' (some g)
/-- The same; the row is the old one or a new one. -/
def PutIEndF (w : World) (B g : Nat) (x : Nat) (l : List Nat) (e : Ending) (w' : World) : Prop := ∃ g' n' cap', e = .returned (.slice (some ⟨g', 0, none⟩) n' cap') ∧ n' = (putI x l).length ∧ OwnInts w' B (.slice (some ⟨g', 0, none⟩) n' cap') (putI x l) ∧ w.grownBy w' (some g) ∧ (g' = g ∨ w.heap.size ≤ g')
theorem PutIEndF.plain {w w' : World} {B g x : Nat} {l : List Nat} {e : Ending} (h : PutIEndF w B g x l e w') : PutIEnd w B g x l e w' := by
  obtain ⟨g', n', cap', h1, h2, h3, h4, _⟩ := h
  exact ⟨g', n', cap', h1, h2, h3, h4⟩
theorem putI_end {w w1 w2 w3 : World} {B g g2 g3 n j cap2 cap3 : Nat} {x : Nat} {l : List Nat} {o : Obj} (hp : placeI x l = j) (hx : l[j]? ≠ some x) (hj : j ≤ n) (hn : n = l.length) (hG : w.grownBy w1 (some g)) (hz : w.heap.size + 1 ≤ w1.heap.size)
    (h2 : AppIEnd (w1.alloc o) w2 B g g2 (j + 1) cap2 (l.take j ++ [x])) (h3 : AppIEnd w2 w3 B g2 g3 (j + 1 + (n - j)) cap3 (l.take j ++ [x] ++ l.drop j)) :
    PutIEndF w B g x l (.returned (.slice (some ⟨g3, 0, none⟩) (j + 1 + (n - j)) cap3)) w3 := by
  have hz2 := h2.grown.size
  have hzx : (w1.alloc o).heap.size = w1.heap.size + 1 := by simp
  have hg2 : g2 = g ∨ w.heap.size ≤ g2 := by rcases h2.at_ with h | h <;> omega
  have hput : putI x l = l.take j ++ [x] ++ l.drop j := by unfold putI; rw [hp, if_neg hx]
  refine ⟨g3, _, cap3, rfl, ?_, ?_, ?_, ?_⟩
  · rw [hput]; simp; omega
  · rw [hput]; exact h3.own
  · refine ((hG.trans (World.grownBy_alloc w1 o (some g))).trans h2.grown).andThen h3.grown fun k hk => ?_
    simp at hk
    subst hk
    rcases hg2 with h | h
    · exact .inr (by rw [h])
    · exact .inl h
  · have h4 := h2.grown.size
    rcases h3.at_ with h | h <;> omega

set_option maxHeartbeats 1000000 in
set_option maxRecDepth 20000 in
theorem putI_anyF (B g cap n x : Nat) (l : List Nat) (w : World) (hn : n = l.length) (hn2 : n ≤ 1000000) (hB : B ≤ w.heap.size) (H : OwnInts w B (.slice (some ⟨g, 0, none⟩) n cap) l) :
    Calls Try.prog 64 #[.slice (some ⟨g, 0, none⟩) n cap, .int .i64 (x : Int)] w fun e w' => PutIEndF w B g x l e w' := by
  have HO : Hid (OwnInts w B (.slice (some ⟨g, 0, none⟩) n cap) l) := H
  have hgw : g < w.heap.size := (World.ownsRow.lt H g rfl).2
  have hcap : n ≤ cap := by
    rcases H.2 with ⟨h', _⟩ | ⟨g', cap', cur, h', _, _, hnc, hcm, _⟩
    · simp at h'
    · simp at h'; omega
  have hcells : Hid (∀ i, i < n → ∃ e, l[i]? = some e ∧ w.cell? ⟨g, i, none⟩ = some (.int .i64 (e : Nat))) := by
    intro i hi
    have h1 := World.ownsRow.cellAt (hn ▸ H) i (by omega)
    exact ⟨l[i]'(by omega), by simp, by rw [h1, List.getElem?_map]; simp [show i < l.length by omega]⟩
  have HN : Hid (n = l.length) := hn
  clear H hn
  go_enter Try.func64, Try.ntmps64
  go_wp2_with fail
  go_loopg [5] n (fun k i wr => ∃ j : Nat, j ≤ n ∧ Hid (k = n - j) ∧ i = .int .i64 j ∧ Hid (∀ i, i < j → ∃ e, l[i]? = some e ∧ e < x) ∧ w = wr)
  case atStart => exact ⟨0, Nat.zero_le _, rfl, rfl, fun i hi => by omega, rfl⟩
  case round =>
    obtain ⟨j, hj, hk, rfl, hless, rfl⟩ := hrel
    by_cases hlt : j < n
    · obtain ⟨e, he, hc0⟩ := hcells.out j hlt
      have HE : Hid (l[j]? = some e) := he
      have hlt3 : decide (j < n) = true := by simpa using hlt
      clear he
      by_cases hq : e < x
      · have t1 : decide (e < x) = true := by simpa using hq
        go_wp2_with fail
        go_roundg (n - (j + 1))
        case measure => have := hk.out; omega
        case rel =>
          refine ⟨j + 1, by omega, rfl, by go_num, fun i hi => ?_, rfl⟩
          rcases Nat.lt_or_ge i j with h | h
          · exact hless.out i h
          · obtain rfl : i = j := by omega
            exact ⟨e, HE.out, hq⟩
      · have t1 : decide (e < x) = false := by simpa using hq
        have HP : Hid (placeI x l = j) := placeI_at hless.out (.inr ⟨e, HE.out, hq⟩)
        by_cases hqe : e = x
        · have t2 : ((e : Int) == (x : Int)) = true := by simp [hqe]
          have HQ : Hid (e = x) := hqe
          clear hqe hq
          go_wp2_with fail
          go_ret
          have hput : putI x l = l := by unfold putI; rw [HP.out, if_pos (by rw [HE.out, HQ.out])]
          exact ⟨g, n, cap, rfl, by rw [hput]; exact HN.out, by rw [hput]; exact HO.out, World.grownBy.refl _ _, .inl rfl⟩
        · have t2 : ((e : Int) == (x : Int)) = false := by simp; omega
          have HX : Hid (l[j]? ≠ some x) := by show _ ≠ _; rw [HE.out]; simpa using hqe
          clear hqe hq
          -- the three appends
          go_wp2_with (first
            | (at_builtin; refine wpList_app_ints _ rfl (.tmp 34) (.tmp 37) rfl w.heap.size w.heap.size 0 0 [] (l.drop j) rfl (OwnInts.empty w _ _ rfl (Nat.le_refl _)) ⟨g, j, none⟩ (n - j) (cap - j) (by rw [List.length_drop, HN.out]) rfl rfl ?c1 ?c2 ?c3 ?_)
            | go_in)
          case c1 => exact OwnInts.rest (HO.out.grown (World.grownBy_alloc w _ none) (by simp)) HN.out
          case c2 => omega
          case c3 => simp
          intro g1 cap1 w1 hend1
          have HT : Hid (OwnInts w1 w.heap.size (.slice (some ⟨g1, 0, none⟩) (n - j) cap1) (l.drop j)) := by show OwnInts _ _ _ _; simpa using hend1.own
          have HL : Hid (OwnInts w1 B (.slice (some ⟨g, 0, none⟩) j cap) (l.take j)) := ((HO.out.grown (World.grownBy_alloc w _ none) (by simp)).grown hend1.grown (by simp; omega)).cut HN.out hj
          have HG1 : Hid (w.grownBy w1 (some g)) := (World.grownBy_alloc w (Obj.cells #[] 3) (some g)).andThen hend1.grown (fun k hk => by simp at hk; omega)
          have hg1 : w.heap.size ≤ g1 := by
            rcases hend1.at_ with h | h
            · omega
            · simp at h; omega
          have hg1' := hend1.lt
          have hzz : w.heap.size + 1 ≤ w1.heap.size := by simpa using hend1.grown.size
          have hg1n : g1 ≠ g := by omega
          have hlen1 : Hid (j = (l.take j).length) := by show _ = _; have := HN.out; simp; omega
          have hlen2 : Hid (n - j = (l.drop j).length) := by show _ = _; have := HN.out; simp; omega
          have hjc : j ≤ cap := by omega
          clear hend1
          go_wp2_with (first
            | (at_builtin; refine wpList_app_ints _ rfl (.tmp 41) (.tmp 43) rfl B g j cap (l.take j) [x] hlen1.out (World.ownsRow.alloc HL.out _) ⟨w1.heap.size, 0, none⟩ 1 1 rfl rfl rfl (fun i u hu => one_at hu) (by omega) (by simp; omega) ?_)
            | go_in)
          intro g2 cap2 w2 hend2
          go_wp2_with (first
            | (at_builtin; refine wpList_app_ints _ rfl (.tmp 44) (.tmp 45) rfl B g2 (j + 1) cap2 (l.take j ++ [x]) (l.drop j) (putI_len hlen1.out) hend2.own ⟨g1, 0, none⟩ (n - j) cap1 hlen2.out rfl rfl (putI_news hend2.grown hg1n (World.ownsRow.alloc HT.out _)) (by omega) (by have := hend2.grown.size; simp at this; omega) ?_)
            | go_in)
          intro g3 cap3 w3 hend3
          go_wp2_with fail
          go_ret
          exact putI_end HP.out HX.out (by omega) HN.out HG1.out hzz hend2 (by simpa using hend3)
    · have HP : Hid (placeI x l = j) := placeI_at hless.out (.inl (by have := HN.out; omega))
      have HX : Hid (l[j]? ≠ some x) := by show _ ≠ _; rw [List.getElem?_eq_none (by have := HN.out; omega)]; simp
      have hlt3 : decide (j < n) = false := by simpa using hlt
      have HLT : Hid (¬ j < n) := hlt
      clear hlt
      by_cases hcj : j = cap
      · subst hcj
        clear hcap
        -- the three appends
        go_wp2_with (first
          | (at_builtin; refine wpList_app_ints _ rfl (.tmp 34) (.tmp 37) rfl w.heap.size w.heap.size 0 0 [] (l.drop j) rfl (OwnInts.empty w _ _ rfl (Nat.le_refl _)) ⟨g, 0, none⟩ (n - j) 0 (by rw [List.length_drop, HN.out]) rfl rfl ?c1 ?c2 ?c3 ?_)
          | go_in)
        case c1 => intro i u hu; rw [List.drop_of_length_le (by have := HN.out; have := HLT.out; omega)] at hu; simp [intCells] at hu
        case c2 => omega
        case c3 => simp
        intro g1 cap1 w1 hend1
        have HT : Hid (OwnInts w1 w.heap.size (.slice (some ⟨g1, 0, none⟩) (n - j) cap1) (l.drop j)) := by show OwnInts _ _ _ _; simpa using hend1.own
        have HL : Hid (OwnInts w1 B (.slice (some ⟨g, 0, none⟩) j j) (l.take j)) := ((HO.out.grown (World.grownBy_alloc w _ none) (by simp)).grown hend1.grown (by simp; omega)).cut HN.out hj
        have HG1 : Hid (w.grownBy w1 (some g)) := (World.grownBy_alloc w (Obj.cells #[] 3) (some g)).andThen hend1.grown (fun k hk => by simp at hk; omega)
        have hg1 : w.heap.size ≤ g1 := by
          rcases hend1.at_ with h | h
          · omega
          · simp at h; omega
        have hg1' := hend1.lt
        have hzz : w.heap.size + 1 ≤ w1.heap.size := by simpa using hend1.grown.size
        have hg1n : g1 ≠ g := by omega
        have hlen1 : Hid (j = (l.take j).length) := by show _ = _; have := HN.out; simp; omega
        have hlen2 : Hid (n - j = (l.drop j).length) := by show _ = _; have := HN.out; simp; omega
        have hjc : j ≤ j := by omega
        clear hend1
        go_wp2_with (first
          | (at_builtin; refine wpList_app_ints _ rfl (.tmp 41) (.tmp 43) rfl B g j j (l.take j) [x] hlen1.out (World.ownsRow.alloc HL.out _) ⟨w1.heap.size, 0, none⟩ 1 1 rfl rfl rfl (fun i u hu => one_at hu) (by omega) (by simp; omega) ?_)
          | go_in)
        intro g2 cap2 w2 hend2
        go_wp2_with (first
          | (at_builtin; refine wpList_app_ints _ rfl (.tmp 44) (.tmp 45) rfl B g2 (j + 1) cap2 (l.take j ++ [x]) (l.drop j) (putI_len hlen1.out) hend2.own ⟨g1, 0, none⟩ (n - j) cap1 hlen2.out rfl rfl (putI_news hend2.grown hg1n (World.ownsRow.alloc HT.out _)) (by omega) (by have := hend2.grown.size; simp at this; omega) ?_)
          | go_in)
        intro g3 cap3 w3 hend3
        go_wp2_with fail
        go_ret
        exact putI_end HP.out HX.out (by omega) HN.out HG1.out hzz hend2 (by simpa using hend3)
      · -- the three appends
        go_wp2_with (first
          | (at_builtin; refine wpList_app_ints _ rfl (.tmp 34) (.tmp 37) rfl w.heap.size w.heap.size 0 0 [] (l.drop j) rfl (OwnInts.empty w _ _ rfl (Nat.le_refl _)) ⟨g, j, none⟩ (n - j) (cap - j) (by rw [List.length_drop, HN.out]) rfl rfl ?c1 ?c2 ?c3 ?_)
          | go_in)
        case c1 => intro i u hu; rw [List.drop_of_length_le (by have := HN.out; have := HLT.out; omega)] at hu; simp [intCells] at hu
        case c2 => omega
        case c3 => simp
        intro g1 cap1 w1 hend1
        have HT : Hid (OwnInts w1 w.heap.size (.slice (some ⟨g1, 0, none⟩) (n - j) cap1) (l.drop j)) := by show OwnInts _ _ _ _; simpa using hend1.own
        have HL : Hid (OwnInts w1 B (.slice (some ⟨g, 0, none⟩) j cap) (l.take j)) := ((HO.out.grown (World.grownBy_alloc w _ none) (by simp)).grown hend1.grown (by simp; omega)).cut HN.out hj
        have HG1 : Hid (w.grownBy w1 (some g)) := (World.grownBy_alloc w (Obj.cells #[] 3) (some g)).andThen hend1.grown (fun k hk => by simp at hk; omega)
        have hg1 : w.heap.size ≤ g1 := by
          rcases hend1.at_ with h | h
          · omega
          · simp at h; omega
        have hg1' := hend1.lt
        have hzz : w.heap.size + 1 ≤ w1.heap.size := by simpa using hend1.grown.size
        have hg1n : g1 ≠ g := by omega
        have hlen1 : Hid (j = (l.take j).length) := by show _ = _; have := HN.out; simp; omega
        have hlen2 : Hid (n - j = (l.drop j).length) := by show _ = _; have := HN.out; simp; omega
        have hjc : j ≤ cap := by omega
        clear hend1
        go_wp2_with (first
          | (at_builtin; refine wpList_app_ints _ rfl (.tmp 41) (.tmp 43) rfl B g j cap (l.take j) [x] hlen1.out (World.ownsRow.alloc HL.out _) ⟨w1.heap.size, 0, none⟩ 1 1 rfl rfl rfl (fun i u hu => one_at hu) (by omega) (by simp; omega) ?_)
          | go_in)
        intro g2 cap2 w2 hend2
        go_wp2_with (first
          | (at_builtin; refine wpList_app_ints _ rfl (.tmp 44) (.tmp 45) rfl B g2 (j + 1) cap2 (l.take j ++ [x]) (l.drop j) (putI_len hlen1.out) hend2.own ⟨g1, 0, none⟩ (n - j) cap1 hlen2.out rfl rfl (putI_news hend2.grown hg1n (World.ownsRow.alloc HT.out _)) (by omega) (by have := hend2.grown.size; simp at this; omega) ?_)
          | go_in)
        intro g3 cap3 w3 hend3
        go_wp2_with fail
        go_ret
        exact putI_end HP.out HX.out (by omega) HN.out HG1.out hzz hend2 (by simpa using hend3)
theorem putI_any (B g cap n x : Nat) (l : List Nat) (w : World) (hn : n = l.length) (hn2 : n ≤ 1000000) (hB : B ≤ w.heap.size) (H : OwnInts w B (.slice (some ⟨g, 0, none⟩) n cap) l) :
    Calls Try.prog 64 #[.slice (some ⟨g, 0, none⟩) n cap, .int .i64 (x : Int)] w fun e w' => PutIEnd w B g x l e w' :=
  (putI_anyF B g cap n x l w hn hn2 hB H).mono fun _ _ h => h.plain
end Go.Proofs.Ytnfegihemhidgaa
