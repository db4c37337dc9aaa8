/- The walk of the law FnTreeBent. -/
import Derived.Test.YtjenldenggaljaaLawsT
namespace Go.Proofs.Ytjenldenggaljaa
open Go.RowKit

theorem bent_top (os : List LObj) : specOk (os.set 0 ⟨0, 0, ⟨#[]⟩, []⟩) = false := by
  apply specOk_top
  cases os with
  | nil => simp [kindOf]
  | cons o r => simp [kindOf]
theorem cnt_pos {p : List (Nat × LEnt)} {id : Int} (h : ¬ Off p id) : 1 ≤ cnt p id := by
  apply Classical.byContradiction
  intro hn
  apply h
  intro x hx e
  have h0 : cnt p id = 0 := by omega
  unfold cnt at h0
  have := List.countP_eq_zero.1 h0 x hx
  simp [e] at this
theorem cnt_off {p : List (Nat × LEnt)} {id : Int} (h : Off p id) : cnt p id = 0 := by
  unfold cnt
  rw [List.countP_eq_zero]
  intro x hx
  simpa using h x hx
theorem bent_new {os : List LObj} (hs : specOk os = true) {i : Nat} (h1 : 1 ≤ i) (h2 : i < 32) (hk : kindOf os i = 0) : specOk (os.set i ⟨1, 1, ⟨#[]⟩, []⟩) = false := by
  have hi := (specOk_iff os).1 hs
  have hl : i < os.length := by have := hi.1; omega
  apply specOk_at h1 h2
  have hk' : kindOf (os.set i ⟨1, 1, ⟨#[]⟩, []⟩) i = 1 := kindOf_at (List.getElem?_set_self hl)
  have hc : cnt (flat (os.set i ⟨1, 1, ⟨#[]⟩, []⟩)) i = 0 := by
    apply cnt_off
    intro x hx e
    obtain ⟨j, o, k, g1, g2, g3⟩ := mem_flatFrom hx
    by_cases hj : j = i
    · subst hj
      rw [List.getElem?_set_self hl] at g1
      obtain rfl : _ = o := by simpa using g1
      simp at g2
    · rw [List.getElem?_set_ne (by omega)] at g1
      have hm := mem_flat g1 g2
      have := hi.2.2.2.1.1 _ hm
      simp only at this
      rw [e, Int.toNat_natCast] at this
      exact this hk
  unfold specAt
  rw [if_neg (by omega), hc]
  simp
theorem bent_more {os : List LObj} (hs : specOk os = true) {i : Nat} (h2 : i < 32) (hk : kindOf os i ≠ 0) {o : LObj} (ho : os[0]? = some o) (nm : ByteArray) : specOk (os.set 0 { o with kids := o.kids ++ [⟨nm, i⟩] }) = false := by
  have hi := (specOk_iff os).1 hs
  have hl : 0 < os.length := by have := hi.1; omega
  by_cases h0 : i = 0
  · subst h0
    refine specOk_obj (i := 0) (List.getElem?_set_self hl) ?_
    have h2 : o.kind = 2 := by have := hi.2.2.1; rwa [kindOf_at ho] at this
    have hn : kidsB (o.kids ++ [⟨nm, ((0 : Nat) : Int)⟩]) = false := by
      refine kidsB_no (i := o.kids.length) (by simp) (kidAt_ent (e := ⟨nm, ((0 : Nat) : Int)⟩) (by simp) ?_)
      simp [entB]
    unfold objB partsB
    rw [if_neg (by show ¬ o.kind = 0; omega), if_neg (by show ¬ o.kind = 1; omega), if_pos (by show o.kind = 2; exact h2)]
    show (_ && (_ && kidsB (o.kids ++ [⟨nm, ((0 : Nat) : Int)⟩]))) = false
    rw [hn]
    simp
  · apply specOk_at (i := i) (by omega) h2
    obtain ⟨r, hr⟩ : ∃ r, os = o :: r := by
      cases os with
      | nil => simp at ho
      | cons a r => simp at ho; exact ⟨r, by rw [ho]⟩
    have hoff := hi.2.2.2.1.2.2 i (by omega) h2 hk
    have hp := cnt_pos hoff
    have hk' : kindOf (os.set 0 { o with kids := o.kids ++ [⟨nm, i⟩] }) i = kindOf os i := by
      unfold kindOf
      rw [List.getElem?_set_ne (by omega)]
    have hc : cnt (flat (os.set 0 { o with kids := o.kids ++ [⟨nm, i⟩] })) i = cnt (flat os) i + 1 := by
      rw [hr]
      show cnt (flatFrom 0 _) _ = cnt (flatFrom 0 _) _ + 1
      rw [List.set_cons_zero]
      unfold flatFrom
      show cnt (tagged 0 (o.kids ++ [⟨nm, (i : Int)⟩]) ++ _) _ = _
      have ht : tagged 0 (o.kids ++ [⟨nm, (i : Int)⟩]) = tagged 0 o.kids ++ [(0, ⟨nm, (i : Int)⟩)] := by simp [tagged]
      rw [ht, cnt_append, cnt_append, cnt_append, cnt_one, if_pos rfl]
      omega
    unfold specAt
    rw [hk', if_neg hk, hc]
    have : decide (cnt (flat os) (i : Int) + 1 = 1) = false := by simp; omega
    rw [this]
    rfl

/-- The objects of a tree in a row, their names' slices given; the names lie in other blocks, below T. -/
structure KT (W : World) (g L T : Nat) (os : List LObj) (kv : Nat → Option Addr × Nat) : Prop where
  at_ : ∀ i o, os[i]? = some o → o.text.size ≤ maxLen ∧ W.cell? ⟨g, i * 4, none⟩ = some (.int .i64 o.kind) ∧ W.cell? ⟨g, i * 4 + 1, none⟩ = some (.int .i64 o.ver) ∧ W.cell? ⟨g, i * 4 + 2, none⟩ = some (.string o.text) ∧ W.cell? ⟨g, i * 4 + 3, none⟩ = some (.slice (kv i).1 o.kids.length (kv i).2) ∧ EntsAt W L T (kv i).1 o.kids.length o.kids
theorem LSt.kt {w W : World} {T b n c : Nat} {os : List LObj} (h : LSt w W T b n c os) : ∃ kv, KT W b w.heap.size T os kv ∧ (n ≠ 0 → b < T) := by
  have hx : ∀ i : Nat, ∃ q : Option Addr × Nat, ∀ o, os[i]? = some o → o.text.size ≤ maxLen ∧ W.cell? ⟨b, i * 4, none⟩ = some (.int .i64 o.kind) ∧ W.cell? ⟨b, i * 4 + 1, none⟩ = some (.int .i64 o.ver) ∧ W.cell? ⟨b, i * 4 + 2, none⟩ = some (.string o.text) ∧ W.cell? ⟨b, i * 4 + 3, none⟩ = some (.slice q.1 o.kids.length q.2) ∧ EntsAt W w.heap.size T q.1 o.kids.length o.kids := by
    intro i
    cases ho : os[i]? with
    | none => exact ⟨(none, 0), fun o h => by cases h⟩
    | some o =>
      have hi : i < n := by rw [h.tree.len]; exact (List.getElem?_eq_some_iff.1 ho).1
      obtain ⟨b0, o0, ha0, hL0, hU0, hcell⟩ := h.tree.at_ (by omega)
      obtain ⟨rfl, rfl⟩ : b = b0 ∧ 0 = o0 := by simpa using ha0
      obtain ⟨o', ka, kn, kc, ho', hts, c0, c1, c2, c3, hks⟩ := hcell i hi
      obtain rfl : o = o' := by rw [ho] at ho'; simpa using ho'
      obtain rfl : kn = o.kids.length := hks.len
      simp only [Nat.zero_add] at c0 c1 c2 c3
      refine ⟨(ka, kc), fun o2 h2 => ?_⟩
      obtain rfl : o = o2 := by simpa using h2
      exact ⟨hts, c0, c1, c2, c3, hks⟩
  refine ⟨fun i => (hx i).choose, ⟨fun i o ho => (hx i).choose_spec o ho⟩, fun hn => ?_⟩
  obtain ⟨b0, o0, ha0, hL0, hU0, hcell⟩ := h.tree.at_ hn
  obtain ⟨rfl, rfl⟩ : b = b0 ∧ 0 = o0 := by simpa using ha0
  exact hU0
/-- The slices of names, as values. -/
def kvV (os : List LObj) (kv : Nat → Option Addr × Nat) (i : Nat) : Value := match os[i]? with | some o => .slice (kv i).1 o.kids.length (kv i).2 | none => .slice none 0 0
theorem KT.cells {W : World} {g L T : Nat} {os : List LObj} {kv : Nat → Option Addr × Nat} (h : KT W g L T os kv) : ∀ q u, (objCells os (kvV os kv) os.length)[q]? = some u → W.cell? ((⟨g, 0, none⟩ : Addr).add q) = some u := by
  intro q u hu
  have hadd : (⟨g, 0, none⟩ : Addr).add q = ⟨g, q, none⟩ := by unfold Addr.add; split <;> simp_all
  rw [hadd]
  have hl := objCells_len os (kvV os kv) os.length (Nat.le_refl _)
  have hq : q < os.length * 4 := by rw [← hl]; exact (List.getElem?_eq_some_iff.1 hu).1
  have hi : q / 4 < os.length := by omega
  obtain ⟨o, ho⟩ : ∃ o, os[q / 4]? = some o := ⟨os[q / 4], by simp [hi]⟩
  obtain ⟨_, e0, e1, e2, e3, _⟩ := h.at_ _ o ho
  obtain ⟨a0, a1, a2, a3⟩ := objCells_at os (kvV os kv) os.length (Nat.le_refl _) (q / 4) o hi ho
  have hv : kvV os kv (q / 4) = .slice (kv (q / 4)).1 o.kids.length (kv (q / 4)).2 := by unfold kvV; rw [ho]
  have hr : q % 4 = 0 ∨ q % 4 = 1 ∨ q % 4 = 2 ∨ q % 4 = 3 := by omega
  rcases hr with hr | hr | hr | hr
  · have hq' : q = q / 4 * 4 := by omega
    rw [hq'] at hu ⊢
    rw [a0] at hu; rw [e0]; exact hu
  · have hq' : q = q / 4 * 4 + 1 := by omega
    rw [hq'] at hu ⊢
    rw [a1] at hu; rw [e1]; exact hu
  · have hq' : q = q / 4 * 4 + 2 := by omega
    rw [hq'] at hu ⊢
    rw [a2] at hu; rw [e2]; exact hu
  · have hq' : q = q / 4 * 4 + 3 := by omega
    rw [hq'] at hu ⊢
    rw [a3] at hu; rw [e3, ← hv]; exact hu
theorem objCells_one (os : List LObj) (vs : Nat → Value) (hv : ∀ i, (vs i).oneCell' = true) : ∀ k, ∀ u ∈ objCells os vs k, u.oneCell' = true
  | 0, u, h => by cases h
  | k + 1, u, h => by
    simp only [objCells] at h
    rcases List.mem_append.1 h with h | h
    · exact objCells_one os vs hv k u h
    · split at h
      · simp at h
        rcases h with rfl | rfl | rfl | rfl
        · rfl
        · rfl
        · rfl
        · exact hv k
      · cases h
theorem KT.objs {W : World} {g L T U n : Nat} {os : List LObj} {kv : Nat → Option Addr × Nat} (h : KT W g L T os kv) (hn : n = os.length) (hb : n ≤ 1000) (h1 : L ≤ g) (h2 : g < U) (h3 : T ≤ U) : ObjsAt W L U (some ⟨g, 0, none⟩) n os := by
  refine ⟨hn, by unfold maxLen; omega, fun _ => ⟨g, 0, rfl, h1, h2, fun i hi => ?_⟩⟩
  obtain ⟨o, ho⟩ : ∃ o, os[i]? = some o := ⟨os[i]'(by omega), by simp⟩
  obtain ⟨e5, e0, e1, e2, e3, e4⟩ := h.at_ i o ho
  exact ⟨o, (kv i).1, o.kids.length, (kv i).2, ho, e5, by simpa using e0, by simpa using e1, by simpa using e2, by simpa using e3, e4.wide (Nat.le_refl _) h3⟩
theorem KT.below {W W' : World} {g L T B : Nat} {os : List LObj} {kv : Nat → Option Addr × Nat} (h : KT W g L T os kv) (hb : Below B W W') (hg : g < B) (hT : T ≤ B) : KT W' g L T os kv :=
  ⟨fun i o ho => by
    obtain ⟨e5, e0, e1, e2, e3, e4⟩ := h.at_ i o ho
    have hc : ∀ q, W'.cell? ⟨g, q, none⟩ = W.cell? ⟨g, q, none⟩ := fun q => hb.cell (by simpa using hg)
    exact ⟨e5, by rw [hc]; exact e0, by rw [hc]; exact e1, by rw [hc]; exact e2, by rw [hc]; exact e3, e4.below hb hT⟩⟩
/-- An object is put anew, without text and names. -/
theorem KT.put4 {W : World} {g L T i : Nat} {os : List LObj} {kv : Nat → Option Addr × Nat} (h : KT W g L T os kv) {x : LObj} (hx : os[i]? = some x) (hT : T ≤ g) (k v : Int) : KT (put4 W g i k v) g L T (os.set i ⟨k, v, ⟨#[]⟩, []⟩) (fun j => if j = i then (none, 0) else kv j) := by
  have hl : i < os.length := (List.getElem?_eq_some_iff.1 hx).1
  have hB : Below g W (Go.Proofs.Ytjenldenggaljaa.put4 W g i k v) := put4_below i k v (Below.refl _ _) (Nat.le_refl _)
  obtain ⟨x5, x0, x1, x2, x3, _⟩ := h.at_ i x hx
  refine ⟨fun j o ho => ?_⟩
  by_cases hj : j = i
  · subst hj
    rw [List.getElem?_set_self hl] at ho
    obtain rfl : _ = o := by simpa using ho
    refine ⟨Nat.zero_le _, ?_, ?_, ?_, ?_, ?_⟩
    · unfold Go.Proofs.Ytjenldenggaljaa.put4
      rw [World.cell?_setCell_other _ _ _ _ (by simp), World.cell?_setCell_other _ _ _ _ (by simp), World.cell?_setCell_other _ _ _ _ (by simp), World.cell?_setCell_same _ _ _ x0]
    · unfold Go.Proofs.Ytjenldenggaljaa.put4
      rw [World.cell?_setCell_other _ _ _ _ (by simp), World.cell?_setCell_other _ _ _ _ (by simp), World.cell?_setCell_same (u := .int .i64 x.ver)]
      rw [World.cell?_setCell_other _ _ _ _ (by simp)]; exact x1
    · unfold Go.Proofs.Ytjenldenggaljaa.put4
      rw [World.cell?_setCell_other _ _ _ _ (by simp), World.cell?_setCell_same (u := .string x.text)]
      rw [World.cell?_setCell_other _ _ _ _ (by simp), World.cell?_setCell_other _ _ _ _ (by simp)]; exact x2
    · unfold Go.Proofs.Ytjenldenggaljaa.put4
      rw [World.cell?_setCell_same (u := .slice (kv j).1 x.kids.length (kv j).2)]
      · simp
      · rw [World.cell?_setCell_other _ _ _ _ (by simp), World.cell?_setCell_other _ _ _ _ (by simp), World.cell?_setCell_other _ _ _ _ (by simp)]; exact x3
    · rw [if_pos rfl]
      exact ⟨rfl, by simp [maxLen], fun h => absurd rfl h⟩
  · rw [List.getElem?_set_ne (by omega)] at ho
    obtain ⟨e5, e0, e1, e2, e3, e4⟩ := h.at_ j o ho
    have hc : ∀ r, r < 4 → (Go.Proofs.Ytjenldenggaljaa.put4 W g i k v).cell? ⟨g, j * 4 + r, none⟩ = W.cell? ⟨g, j * 4 + r, none⟩ := fun r hr => by
      unfold Go.Proofs.Ytjenldenggaljaa.put4
      rw [World.cell?_setCell_other _ _ _ _ (by first | (simp; done) | (simp; omega)), World.cell?_setCell_other _ _ _ _ (by first | (simp; done) | (simp; omega)), World.cell?_setCell_other _ _ _ _ (by first | (simp; done) | (simp; omega)), World.cell?_setCell_other _ _ _ _ (by first | (simp; done) | (simp; omega))]
    rw [if_neg hj]
    exact ⟨e5, by rw [← e0]; exact hc 0 (by omega), by rw [← e1]; exact hc 1 (by omega), by rw [← e2]; exact hc 2 (by omega), by rw [← e3]; exact hc 3 (by omega), e4.below hB hT⟩
/-- An object's names are put anew. -/
theorem KT.kids {W W6 : World} {g L T B i n : Nat} {os : List LObj} {kv : Nat → Option Addr × Nat} {v : Value} {es : List LEnt} (h : KT W g L T os kv) {x : LObj} (hx : os[i]? = some x) (hn : n = os.length) (hn2 : n ≤ 1000) (hL : L ≤ g) (hT : T ≤ g) (hgB : g < B) (hb : Below B W W6) (hv : OwnEnts W6 B v es) (hs : ∀ e ∈ es, e.name.size ≤ maxLen) :
    ObjsAt (W6.setCell ⟨g, i * 4 + 3, none⟩ v) L W6.heap.size (some ⟨g, 0, none⟩) n (os.set i { x with kids := es }) := by
  have hl : i < os.length := (List.getElem?_eq_some_iff.1 hx).1
  have hc6 : ∀ q, W6.cell? ⟨g, q, none⟩ = W.cell? ⟨g, q, none⟩ := fun q => hb.cell (by simpa using hgB)
  obtain ⟨a, c, rfl, hE⟩ := hv.at_ hs
  have hgs : g < W6.heap.size := by
    obtain ⟨_, x0, _⟩ := h.at_ i x hx
    have := World.block_lt_of_cell? W6 ⟨g, i * 4, none⟩ (by rw [hc6]; exact x0)
    simpa using this
  have hBs : B ≤ W6.heap.size ∨ es.length = 0 := by
    by_cases h0 : es.length = 0
    · exact .inr h0
    · obtain ⟨b', off, _, h1, h2, _⟩ := hE.at_ h0
      exact .inl (by omega)
  refine ⟨by simpa using hn, by unfold maxLen; omega, fun _ => ⟨g, 0, rfl, hL, hgs, fun j hj => ?_⟩⟩
  have hB2 : Below g W6 (W6.setCell ⟨g, i * 4 + 3, none⟩ (.slice a es.length c)) := (Below.refl _ _).setCell (by simp) _
  by_cases hji : j = i
  · subst hji
    obtain ⟨e5, e0, e1, e2, e3, e4⟩ := h.at_ j x hx
    refine ⟨{ x with kids := es }, a, es.length, c, List.getElem?_set_self hl, e5, ?_, ?_, ?_, ?_, ?_⟩
    · rw [World.cell?_setCell_other _ _ _ _ (by simp), hc6]; simpa using e0
    · rw [World.cell?_setCell_other _ _ _ _ (by simp), hc6]; simpa using e1
    · rw [World.cell?_setCell_other _ _ _ _ (by simp), hc6]; simpa using e2
    · rw [Nat.zero_add]
      exact World.cell?_setCell_same _ _ _ (by rw [hc6]; exact e3)
    · exact (hE.setCell ⟨g, j * 4 + 3, none⟩ _ (by simpa using hgB)).wide (by omega) (Nat.le_refl _)
  · obtain ⟨o, ho⟩ : ∃ o, os[j]? = some o := ⟨os[j]'(by omega), by simp⟩
    obtain ⟨e5, e0, e1, e2, e3, e4⟩ := h.at_ j o ho
    refine ⟨o, (kv j).1, o.kids.length, (kv j).2, by rw [List.getElem?_set_ne (by omega)]; exact ho, e5, ?_, ?_, ?_, ?_, ?_⟩
    · rw [World.cell?_setCell_other _ _ _ _ (by first | (simp; done) | (simp; omega)), hc6]; simpa using e0
    · rw [World.cell?_setCell_other _ _ _ _ (by first | (simp; done) | (simp; omega)), hc6]; simpa using e1
    · rw [World.cell?_setCell_other _ _ _ _ (by first | (simp; done) | (simp; omega)), hc6]; simpa using e2
    · rw [World.cell?_setCell_other _ _ _ _ (by first | (simp; done) | (simp; omega)), hc6]; simpa using e3
    · exact ((e4.below hb (by omega)).below hB2 hT).wide (Nat.le_refl _) (by omega)
/-- append of a tree's objects onto nothing: a row of one's own with the same cells. -/
theorem wpList_app_objs (w : World) {ops : Array Oper} {rest : List Oper} {o : Oper} {a : Act} {Q : Exit → Act → World → Prop} (hgd : o.guard = none) (s x : Operand)
    (ho : o.op = .call { callee := .builtin .append, args := #[s, x], argTypes := #[23, 23] }) (B g0 b m c L T : Nat) (os : List LObj) (kv : Nat → Option Addr × Nat) (hown : w.ownsRow B 34 4 (.slice (some ⟨g0, 0, none⟩) 0 0) 0 []) (hm : m = os.length) (h1 : 1 ≤ m) (h2 : m ≤ 1000)
    (hs : a.eval s = .slice (some ⟨g0, 0, none⟩) 0 0) (hx : a.eval x = .slice (some ⟨b, 0, none⟩) m c) (hK : KT w b L T os kv) (hB : B ≤ w.heap.size) (hTB : T ≤ B)
    (h : ∀ g cap w', w'.ownsRow B 34 4 (.slice (some ⟨g, 0, none⟩) m cap) m (objCells os (kvV os kv) m) → KT w' g L T os kv → Below B w w' → B ≤ g → g < w'.heap.size → wpList Try.prog ops Q rest (a.put o.dst (.slice (some ⟨g, 0, none⟩) m cap)) w') : wpList Try.prog ops Q (o :: rest) a w := by
  obtain ⟨i0, hi, hz0, hz1, hz2⟩ := info_parts info34'
  subst hm
  have hone : ∀ u ∈ objCells os (kvV os kv) os.length, u.oneCell' = true := by
    exact objCells_one os _ (fun i => by unfold kvV; split <;> rfl) os.length
  obtain ⟨v', w', hr, r2, r3, r4, r5⟩ := run_append_own_at (P := Try.prog) w B 23 o.type 34 i0 _ 4 56 Try.underlying23 hi hz0 hz1 hz2 rfl (by decide) _ _ _ hown ⟨b, 0, none⟩ os.length c (objCells os (kvV os kv) os.length) (objCells_len _ _ _ (Nat.le_refl _)) hK.cells hone (by unfold maxLen; omega) (by omega) hB
  rw [Nat.zero_add, List.nil_append] at r2
  refine wpList_plain hgd fun K hK' => ?_
  unfold Oper.wp execOp
  simp only [ho, resolve, invoke, builtin, Sem.run_bind, Sem.run_pure, Result.andThen_ok, List.map_toArray, List.map_cons, List.map_nil, hs, hx, hr]
  have r2' := r2
  rcases r2.2 with ⟨hv, _⟩ | ⟨g, cap, cur, rfl, hb, hg, _⟩
  · have := (r4.1 hv).1; cases this
  · have hBl : Below B w w' := below_grown (Below.refl _ _) r3 (fun k hk => (hown.lt k hk).1) hB
    refine hK' _ _ (h g cap w' r2' ⟨fun i o ho => ?_⟩ hBl hb (Array.getElem?_eq_some_iff.1 hg).1)
    obtain ⟨e5, e0, e1, e2, e3, e4⟩ := hK.at_ i o ho
    have hlt : i < os.length := (List.getElem?_eq_some_iff.1 ho).1
    obtain ⟨a0, a1, a2, a3⟩ := objCells_at os (kvV os kv) os.length (Nat.le_refl _) i o hlt ho
    have hv : kvV os kv i = .slice (kv i).1 o.kids.length (kv i).2 := by unfold kvV; rw [ho]
    have hc : ∀ q, q < os.length * 4 → w'.cell? ⟨g, q, none⟩ = (objCells os (kvV os kv) os.length)[q]? := fun q hq => World.ownsRow.cellAt r2' q hq
    exact ⟨e5, by rw [hc _ (by omega)]; exact a0, by rw [hc _ (by omega)]; exact a1, by rw [hc _ (by omega)]; exact a2, by rw [hc _ (by omega), a3, hv], e4.below hBl hTB⟩

/-- append of a tree's names, be they none, onto names of one's own. -/
theorem step_app_ents_any (w : World) {ops : Array Oper} {o : Oper} {a : Act} {K : Act → World → Prop} {Q : Exit → Act → World → Prop} {E : Prop} (hgd : o.guard = none) (s x : Operand)
    (ho : o.op = .call { callee := .builtin .append, args := #[s, x], argTypes := #[32, 32] }) (B g L U : Nat) (hown : OwnEnts w B (.slice (some ⟨g, 0, none⟩) 0 0) []) (ka : Option Addr) (kc m : Nat) (news : List LEnt) (hE : EntsAt w L U ka m news)
    (hs : a.eval s = .slice (some ⟨g, 0, none⟩) 0 0) (hx : a.eval x = .slice ka m kc) (hbd : m ≤ 4000000) (hB : B ≤ w.heap.size)
    (h : ∀ v w', AppKEnd w w' B (.slice (some ⟨g, 0, none⟩) 0 0) v news → K (a.put o.dst v) w') :
    if Region.wanted o (yielded ops a.tmps) = true then Oper.wp Try.prog o a w K Q else E := by
  by_cases h0 : m = 0
  · subst h0
    obtain rfl : news = [] := List.length_eq_zero_iff.1 hE.len.symm
    exact step_app_zero w hgd s x ho B g 0 0 [] rfl hown ka kc hs hx (h _ w ⟨hown, World.grownBy.refl w _, .inl rfl⟩)
  · obtain ⟨b, off, rfl, _, _, hc⟩ := hE.at_ h0
    refine step_app_kids w hgd s x ho B _ [] news hown ⟨b, off, none⟩ m kc hE.len hs hx (fun j u hu => ?_) (by simpa using hbd) hB (fun v w' hA => h v w' (by simpa using hA))
    exact ents_cells hE.len hc j u hu
/-- In the midst of a round: the box of the new tree, its row, and the old tree. -/
structure XSt (w wr W : World) (X T b g c2 cap : Nat) (os : List LObj) (kv : Nat → Option Addr × Nat) : Prop where
  old : LSt w W T b 32 c2 os
  bel : Below wr.heap.size wr W
  lo : wr.heap.size ≤ g
  mid : g < X
  lt : X < W.heap.size
  x : W.cell? ⟨X, 0, none⟩ = some (.slice (some ⟨g, 0, none⟩) 32 cap)
  kt : KT W g w.heap.size T os kv
  fz : ∀ q, W.frozen? ⟨g, q, none⟩ = false
theorem XSt.start {w wr W4 : World} {T b g c2 cap : Nat} {os : List LObj} {kv : Nat → Option Addr × Nat} (hL : LSt w wr T b 32 c2 os) (hown : W4.ownsRow wr.heap.size 34 4 (.slice (some ⟨g, 0, none⟩) 32 cap) 32 (objCells os (kvV os kv) 32)) (hK : KT W4 g w.heap.size T os kv) (hb : Below wr.heap.size wr W4) (h1 : wr.heap.size ≤ g) (h2 : g < W4.heap.size) :
    XSt w wr (W4.alloc (Obj.cells #[.slice (some ⟨g, 0, none⟩) 32 cap] 25)) W4.heap.size T b g c2 cap os kv := by
  have hA : Below W4.heap.size W4 (W4.alloc (Obj.cells #[.slice (some ⟨g, 0, none⟩) 32 cap] 25)) := (Below.refl _ _).alloc (Nat.le_refl _) _
  have hlt := hL.lt
  have hsz := hb.size
  refine ⟨(hL.next hb).next hA, hb.trans (hA.mono hsz), h1, h2, by simp, by simp [go_sem], hK.below hA h2 (by omega), fun q => ?_⟩
  rcases hown.2 with ⟨hv, _⟩ | ⟨g', cap', cur, hv, _, hg, _⟩
  · simp at hv
  · simp at hv
    obtain ⟨rfl, rfl⟩ := hv
    exact frozen_of_row _ g q cur 34 (by rw [hA.block g h2]; exact hg)
theorem le1000 : (32 : Nat) ≤ 1000 := by omega
theorem XKeep {W5 W : World} {X : Nat} {v : Value} (hX : X < W5.heap.size) (hx : W5.cell? ⟨X, 0, none⟩ = some v) (hb : Below W5.heap.size W5 W) : W.cell? ⟨X, 0, none⟩ = some v := by
  rw [hb.cell (by simpa using hX)]; exact hx
theorem addr0 (g q : Nat) : (⟨g, 0, none⟩ : Addr).add q = ⟨g, q, none⟩ := by unfold Addr.add; split <;> simp_all
/-- Behind the change of a round: a tree that is not ok. -/
def XDone (w wx : World) (X T b g c2 cap : Nat) (os : List LObj) : Prop :=
  LSt w wx T b 32 c2 os ∧ wx.cell? ⟨X, 0, none⟩ = some (.slice (some ⟨g, 0, none⟩) 32 cap) ∧ X < wx.heap.size ∧ ∃ os', ObjsAt wx w.heap.size wx.heap.size (some ⟨g, 0, none⟩) 32 os' ∧ specOk os' = false ∧ Sizes os' 1048576
theorem xdone {w wr W5 w12 : World} {X T b g c2 cap j : Nat} {os : List LObj} {kv : Nat → Option Addr × Nat} {o0 : LObj} {v : Value} {nm : ByteArray} (hL : LSt w wr T b 32 c2 os) (XS : XSt w wr W5 X T b g c2 cap os kv) (ho : os[0]? = some o0) (hs : specOk os = true) (hn : os.length = 32) (hbd : Sizes os 1048576) (hj : j < 32) (hk : kindOf os j ≠ 0) (hb : Below W5.heap.size W5 w12) (hv : OwnEnts w12 W5.heap.size v (o0.kids ++ [⟨nm, (j : Int)⟩])) (hnm : nm.size ≤ 4 := by simp [ByteArray.size]) : XDone w (w12.setCell ⟨g, 3, none⟩ v) X T b g c2 cap os := by
  have h1 := XS.lo
  have h2 := XS.mid
  have h3 := XS.lt
  have h4 := hL.lt
  have h5 := hL.lo
  have h6 := hb.size
  have hB : Below g W5 (w12.setCell ⟨g, 3, none⟩ v) := (hb.mono (by omega)).setCell (by simp) _
  have hkb : o0.kids.length ≤ 1000 := (XS.old.bn.at ho).2.2.2.1
  refine ⟨hL.next (XS.bel.trans (hB.mono h1)), ?_, by simp; omega, os.set 0 { o0 with kids := o0.kids ++ [⟨nm, (j : Int)⟩] }, ?_, bent_more hs hj hk ho nm, fun y hy => ?_⟩
  · rw [World.cell?_setCell_other _ _ _ _ (fun e => by have := congrArg Addr.block e; simp at this; omega)]
    exact XKeep h3 XS.x hb
  · have h9 := XS.kt.kids (i := 0) ho hn.symm le1000 (by omega) (by omega) (by omega) hb hv (fun e he => by
      rcases List.mem_append.1 he with h | h
      · exact le_maxLen4 ((XS.old.bn.at ho).2.2.2.2 e h)
      · rw [List.mem_singleton.1 h]; exact le_maxLen4 hnm)
    simpa using h9
  · rcases List.mem_or_eq_of_mem_set hy with h | rfl
    · exact hbd y h
    · simp; omega

set_option maxHeartbeats 4000000 in
set_option maxRecDepth 20000 in
theorem walkTreeBent (a : Option Addr) (n c : Nat) (zs : List Int) (w : World) (hc : n ≤ c) (hcb : n ≤ maxLen) (H : BytesAt w w.heap.size a n zs) :
    Calls Try.prog 8 #[.slice a n c] w fun e w' => e = .returned (.bool true) ∧ Below w.heap.size w w' := by
  unfold maxLen at hcb
  by_cases hbig : 1048576 < n
  · go_enter Try.func8, Try.ntmps8
    go_wp2_with fail
    go_ret
    exact ⟨rfl, Below.refl _ _⟩
  go_enter Try.func8, Try.ntmps8
  go_wp2_with fail
  refine (drawOk a n c zs w (by omega) hc H).mono ?_
  rintro e W1 ⟨⟨b, k, c2, os, rfl, hT⟩, hb1⟩
  have S1 := LSt.start (c := c2) hT hb1
  clear hT hb1 H
  go_wp2_with fail
  generalize hTq : W1.heap.size = T at *
  generalize hW2 : W1.alloc (Obj.cells #[.slice (some ⟨b, 0, none⟩) k c2] 25) = W2 at *
  clear hW2 hTq
  have hbd := S1.bn.sizes
  have q1 := S1.t
  go_upto_region 4 with fail
  go_region_held3 (fun w' => w'.cell? ⟨T, 0, none⟩ = some (.slice (some ⟨b, 0, none⟩) k c2)) (first | with_reducible exact SX.t | exact q1)
    (first
      | (go_at_call 26; refine (implTreeOk _ _ _ _ w.heap.size T _ (by first | (have := SX.lt; omega) | (have := S1.drew.lt; omega)) (by first | with_reducible exact SX.tree | exact S1.drew.tree)).mono ?_; rintro e WX ⟨rfl, hbX⟩; have SX := LSt.next (by first | with_reducible exact SX | exact S1.drew) hbX)
      | (go_at_call 27; refine (specTreeOk _ _ _ _ w.heap.size T _ hbd (by first | (have := SX.lt; omega) | (have := S1.drew.lt; omega)) (by first | with_reducible exact SX.tree | exact S1.drew.tree)).mono ?_; rintro e WX ⟨rfl, hbX⟩; have SX := LSt.next (by first | with_reducible exact SX | exact S1.drew) hbX))
  have S2 := SX
  have q2 := S2.t
  clear SX S1 q1
  cases hs : specOk os
  · have HS : Hid (specOk os = false) := hs
    clear hs
    go_upto_region 5 with fail
    go_region_held3 (fun w' => w'.cell? ⟨T, 0, none⟩ = some (.slice (some ⟨b, 0, none⟩) k c2)) (first | with_reducible exact SX.t | exact q2)
      (first
        | (go_at_call 26; refine (implTreeOk _ _ _ _ w.heap.size T _ (by first | (have := SX.lt; omega) | (have := S2.drew.lt; omega)) (by first | with_reducible exact SX.tree | exact S2.drew.tree)).mono ?_; rintro e WX ⟨rfl, hbX⟩; have SX := LSt.next (by first | with_reducible exact SX | exact S2.drew) hbX)
        | (go_at_call 27; refine (specTreeOk _ _ _ _ w.heap.size T _ hbd (by first | (have := SX.lt; omega) | (have := S2.drew.lt; omega)) (by first | with_reducible exact SX.tree | exact S2.drew.tree)).mono ?_; rintro e WX ⟨rfl, hbX⟩; have SX := LSt.next (by first | with_reducible exact SX | exact S2.drew) hbX))
    all_goals
      go_wp2_with fail
      go_ret
      exact ⟨by simp, SX.below⟩
  have HS : Hid (specOk os = true) := hs
  clear hs
  have hk32 : k = 32 := by rw [S2.tree.len]; exact ((specOk_iff os).1 HS.out).1
  subst hk32
  have HN : Hid (os.length = 32) := ((specOk_iff os).1 HS.out).1
  go_wp2_with fail
  go_loopg [4] 32 (fun g i wr => ∃ j : Nat, j ≤ 32 ∧ Hid (g = 32 - j) ∧ i = .int .i64 j ∧ Hid (LSt w wr T b 32 c2 os))
  case atStart => exact ⟨0, by omega, rfl, rfl, S2⟩
  case round =>
    obtain ⟨j, hj, hg, rfl, HL⟩ := hrel
    have q3 := HL.out.t
    have hz3 := HL.out.lt
    obtain ⟨kv, hK, hbT⟩ := HL.out.kt
    have hbT := hbT (by omega)
    have HK : Hid (KT wr b w.heap.size T os kv) := hK
    have hlo := HL.out.lo
    clear hK
    by_cases hlt : j < 32
    · have hltI : (j : Int) < 32 := by omega
      obtain ⟨o, ho⟩ : ∃ o, os[j]? = some o := ⟨os[j]'(by have := HN.out; omega), by simp⟩
      obtain ⟨o0, ho0⟩ : ∃ o0, os[0]? = some o0 := ⟨os[0]'(by have := HN.out; omega), by simp⟩
      have HO : Hid (os[j]? = some o ∧ os[0]? = some o0) := ⟨ho, ho0⟩
      clear ho ho0
      go_wp2_with (first
        | (at_builtin; refine wpList_app_objs _ rfl (.tmp 31) (.tmp 33) rfl wr.heap.size wr.heap.size b 32 c2 w.heap.size T os kv (by simpa using World.ownsRow_lit (base := wr.heap.size) (e := 34) (size := 4) wr #[] 0 (Nat.le_refl _) (by simp [maxLen]) rfl) HN.out.symm (by omega) (by omega) rfl rfl (HK.out.below ((Below.refl _ _).alloc (Nat.le_refl _) _) (by omega) (by omega)) (by simp) (by omega) ?_)
        | go_in)
      intro g cap W4 hown hK4 hb4 hg1 hg2
      have XS := XSt.start HL.out hown hK4 (((Below.refl _ _).alloc (Nat.le_refl _) _).trans hb4) hg1 hg2
      clear hown hK4 hb4 hg1 hg2 HK hbT
      go_upto_region 10 with fail
      generalize hW5 : W4.alloc (Obj.cells #[.slice (some ⟨g, 0, none⟩) 32 cap] 25) = W5 at *
      generalize hXq : W4.heap.size = X at *
      clear hW5 hXq
      obtain ⟨_, e0, e1, e2, e3, _⟩ := XS.kt.at_ j o HO.out.1
      have x5 := XS.x
      have hX5 := XS.lt
      have hgX := XS.mid
      have hg5 : g < W5.heap.size := by omega
      by_cases hkd : o.kind = 0
      · have tk : (o.kind != 0) = false := by simp [hkd]
        have HK0 : Hid (kindOf os j = 0) := by show _ = _; rw [kindOf_at HO.out.1]; exact hkd
        have hj1 : 1 ≤ j := by
          apply Classical.byContradiction
          intro hn
          obtain rfl : j = 0 := by omega
          have := ((specOk_iff os).1 HS.out).2.2.1
          rw [HK0.out] at this
          omega
        have HBAD : Hid (specOk (os.set j ⟨1, 1, ⟨#[]⟩, []⟩) = false) := bent_new HS.out hj1 hlt HK0.out
        have HSZ : Hid (Sizes (os.set j ⟨1, 1, ⟨#[]⟩, []⟩) 1048576) := fun y hy => by
          rcases List.mem_or_eq_of_mem_set hy with h1 | rfl
          · exact hbd y h1
          · exact Nat.zero_le _
        have f0 := XS.fz (j * 4)
        have f1 := XS.fz (j * 4 + 1)
        have f2 := XS.fz (j * 4 + 2)
        have f3 := XS.fz (j * 4 + 3)
        have hB6 : Below g W5 (put4 W5 g j 1 1) := put4_below j 1 1 (Below.refl _ _) (Nat.le_refl _)
        have HOB : Hid (ObjsAt (put4 W5 g j 1 1) w.heap.size (put4 W5 g j 1 1).heap.size (some ⟨g, 0, none⟩) 32 (os.set j ⟨1, 1, ⟨#[]⟩, []⟩)) := by
          have hlo5 := XS.lo
          exact (XS.kt.put4 HO.out.1 (by omega) 1 1).objs (by simp [HN.out]) le1000 (by omega) (by rw [put4_size]; omega) (by rw [put4_size]; omega)
        have L6 : LSt w (put4 W5 g j 1 1) T b 32 c2 os := HL.out.next (XS.bel.trans (hB6.mono XS.lo))
        have x6 : (put4 W5 g j 1 1).cell? ⟨X, 0, none⟩ = some (.slice (some ⟨g, 0, none⟩) 32 cap) := by rw [World.cell?_of_block (w := W5) (put4_block W5 g j 1 1 (by show X ≠ g; omega))]; exact x5
        have hX6 : X < (put4 W5 g j 1 1).heap.size := by rw [put4_size]; exact hX5
        go_upto_region 13 with fail
        change Code.wp _ _ _ _ (put4 W5 g j 1 1)
        generalize put4 W5 g j 1 1 = W6 at *
        clear hkd e0 e1 e2 e3 f0 f1 f2 f3 hB6 XS x5 hX5 HL q3 hz3
        go_wp2_with fail
        refine (implTreeOk _ _ _ _ w.heap.size W6.heap.size _ (Nat.le_refl _) HOB.out).mono ?_
        rintro e W7 ⟨rfl, hb7⟩
        have S7 := L6.next hb7
        rw [HBAD.out]
        have x7 : W7.cell? ⟨X, 0, none⟩ = some (.slice (some ⟨g, 0, none⟩) 32 cap) := by rw [hb7.cell (by simpa using hX6)]; exact x6
        have HOB7 := HOB.out.below hb7 (Nat.le_refl _)
        have hs7 := hb7.size
        go_wp2_with fail
        refine (implFind _ _ _ _ w.heap.size W6.heap.size _ _ _ (by simp [maxLen, ByteArray.size]) HSZ.out hs7 HOB7).mono ?_
        rintro e W8 ⟨rfl, hb8⟩
        have S8 := S7.next hb8
        rw [tf_no HBAD.out]
        go_wp2_with fail
        go_roundg (32 - (j + 1))
        case measure => have := hg.out; omega
        case rel => exact ⟨j + 1, by omega, rfl, by go_num, S8⟩
      · have tk : (o.kind != 0) = true := by simp [hkd]
        have HKL : Hid (kindOf os j ≠ 0) := by show _ ≠ _; rw [kindOf_at HO.out.1]; exact hkd
        obtain ⟨_, _, _, _, k3, hE0⟩ := XS.kt.at_ 0 o0 HO.out.2
        have hkl0 : o0.kids.length ≤ 1000 := (XS.old.bn.at HO.out.2).2.2.2.1
        have hTg : T ≤ W5.heap.size := by have := XS.bel.size; omega
        simp only [Nat.zero_mul, Nat.zero_add] at k3
        have p2 : OwnEnts (W5.alloc (Obj.cells #[] 47)) W5.heap.size (.slice (some ⟨W5.heap.size, 0, none⟩) 0 0) [] := OwnEnts.empty W5 W5.heap.size (Nat.le_refl _)
        have p11 : OwnEnts ((W5.alloc (Obj.cells #[] 47)).alloc (Obj.cells #[.string ⟨#[122, 122, 122, 122]⟩, .int .i64 (j : Int)] 47)) W5.heap.size (.slice (some ⟨W5.heap.size, 0, none⟩) 0 0) [] := World.ownsRow.alloc p2 _
        have p112 : OwnEnts ((W5.alloc (Obj.cells #[.string ⟨#[122, 122, 122, 122]⟩, .int .i64 (j : Int)] 47)).alloc (Obj.cells #[] 47)) W5.heap.size (.slice (some ⟨W5.heap.size + 1, 0, none⟩) 0 0) [] := by simpa using OwnEnts.empty (W5.alloc (Obj.cells #[.string ⟨#[122, 122, 122, 122]⟩, .int .i64 (j : Int)] 47)) W5.heap.size (by simp)
        have m11 : ∀ q u, (entCells [(⟨⟨#[122, 122, 122, 122]⟩, (j : Int)⟩ : LEnt)])[q]? = some u → ((W5.alloc (Obj.cells #[] 47)).alloc (Obj.cells #[.string ⟨#[122, 122, 122, 122]⟩, .int .i64 (j : Int)] 47)).cell? ⟨W5.heap.size + 1, q, none⟩ = some u := fun q u hu => by
          match q, hu with
          | 0, hu => simp [entCells] at hu; subst hu; simp [go_sem]
          | 1, hu => simp [entCells] at hu; subst hu; simp [go_sem]
        have m112 : ∀ q u, (entCells [(⟨⟨#[122, 122, 122, 122]⟩, (j : Int)⟩ : LEnt)])[q]? = some u → ((W5.alloc (Obj.cells #[.string ⟨#[122, 122, 122, 122]⟩, .int .i64 (j : Int)] 47)).alloc (Obj.cells #[] 47)).cell? ⟨W5.heap.size, q, none⟩ = some u := fun q u hu => by
          match q, hu with
          | 0, hu => simp [entCells] at hu; subst hu; simp [go_sem]
          | 1, hu => simp [entCells] at hu; subst hu; simp [go_sem]
        clear hkd e1 e2 e3
        go_upto_region 11 with fail
        go_cut [43] (fun s wx => XDone w wx X T b g c2 cap os)
        case first =>
          refine wp_region_held_drew (S := fun w' => w'.cell? ⟨X, 0, none⟩ = some (.slice (some ⟨g, 0, none⟩) 32 cap)) (by kernel_rfl) ?_ (fun hHeld => ?_)
          · exact x5
          refine wpAnyH_take (i := 0) (oi := _) (v := ?va0) rfl (by kernel_rfl) (by kernel_rfl) (by kernel_rfl) (fun _ _ _ h => h) (Or.inl ⟨by rfl, ?ya0⟩) (by assumption) ?ra0
          case ya0 => (intro w' hSw; (try dsimp only at hSw); go_simp; try with_reducible rfl)
          try simp only [Act.put]
          refine wpAnyH_take (i := 1) (oi := _) (v := ?va1) rfl (by kernel_rfl) (by kernel_rfl) (by kernel_rfl) (fun _ _ _ h => h) (Or.inl ⟨by rfl, ?ya1⟩) (by assumption) ?ra1
          case ya1 => (intro w' hSw; (try dsimp only at hSw); go_simp; try with_reducible rfl)
          try simp only [Act.put]
          refine wpAnyH_take (i := 3) (oi := _) (v := ?va3) rfl (by kernel_rfl) (by kernel_rfl) (by kernel_rfl) (fun _ _ _ h => h) (Or.inl ⟨by rfl, ?ya3⟩) (by assumption) ?ra3
          case ya3 => (intro w' hSw; (try dsimp only at hSw); go_simp; try with_reducible rfl)
          try simp only [Act.put]
          refine wpAnyH_take (i := 4) (oi := _) (v := ?va4) rfl (by kernel_rfl) (by kernel_rfl) (by kernel_rfl) (fun _ _ _ h => h) (Or.inl ⟨by rfl, ?ya4⟩) (by assumption) ?ra4
          case ya4 => (intro w' hSw; (try dsimp only at hSw); go_simp; try with_reducible rfl)
          try simp only [Act.put]
          refine wpAnyH_take (i := 5) (oi := _) (v := ?va5) rfl (by kernel_rfl) (by kernel_rfl) (by kernel_rfl) (fun _ _ _ h => h) (Or.inl ⟨by rfl, ?ya5⟩) (by assumption) ?ra5
          case ya5 => (intro w' hSw; (try dsimp only at hSw); go_simp; try with_reducible rfl)
          try simp only [Act.put]
          refine wpAnyH_take (i := 6) (oi := _) (v := ?va6) rfl (by kernel_rfl) (by kernel_rfl) (by kernel_rfl) (fun _ _ _ h => h) (Or.inl ⟨by rfl, ?ya6⟩) (by assumption) ?ra6
          case ya6 => (intro w' hSw; (try dsimp only at hSw); go_simp; try with_reducible rfl)
          try simp only [Act.put]
          refine wpAnyH_take (i := 9) (oi := _) (v := ?va9) rfl (by kernel_rfl) (by kernel_rfl) (by kernel_rfl) (fun _ _ _ h => h) (Or.inl ⟨by rfl, ?ya9⟩) (by assumption) ?ra9
          case ya9 => (intro w' hSw; (try dsimp only at hSw); go_simp; try with_reducible rfl)
          try simp only [Act.put]
          refine wpAnyH_take (i := 10) (oi := _) (v := ?va10) rfl (by kernel_rfl) (by kernel_rfl) (by kernel_rfl) (fun _ _ _ h => h) (Or.inl ⟨by rfl, ?ya10⟩) (by assumption) ?ra10
          case ya10 => (intro w' hSw; (try dsimp only at hSw); go_simp; try with_reducible rfl)
          try simp only [Act.put]
          refine wpAnyH_ready (rs := [2, 7, 11]) (by kernel_rfl) (by simp) ?_
          refine AllReadyH.cons (o := _) rfl (fun K hK => ?_) (AllReadyH.cons (o := _) rfl (fun K hK => ?_) (AllReadyH.cons (o := _) rfl (fun K hK => ?_) AllReadyH.nil))
          · go_simp
            refine hK.out _ _ ?_ (fun hHeld => ?_)
            · exact XKeep hX5 x5 (show Below W5.heap.size W5 _ from (by repeat (first | with_reducible exact Below.refl _ _ | with_reducible exact hb8 | refine Below.drew ?_ | refine Below.alloc ?_ (by first | omega | (simp <;> omega)) _)))
            clear hK K
            try simp only [Act.put]
            refine wpAnyH_ready (rs := [7, 11]) (by kernel_rfl) (by simp) ?_
            refine AllReadyH.cons (o := _) rfl (fun K hK => ?_) (AllReadyH.cons (o := _) rfl (fun K hK => ?_) AllReadyH.nil)
            · go_simp
              refine hK.out _ _ ?_ (fun hHeld => ?_)
              · exact XKeep hX5 x5 (show Below W5.heap.size W5 _ from (by repeat (first | with_reducible exact Below.refl _ _ | with_reducible exact hb8 | refine Below.drew ?_ | refine Below.alloc ?_ (by first | omega | (simp <;> omega)) _)))
              clear hK K
              try simp only [Act.put]
              refine wpAnyH_ready (rs := [8, 11]) (by kernel_rfl) (by simp) ?_
              refine AllReadyH.cons (o := _) rfl (fun K hK => ?_) (AllReadyH.cons (o := _) rfl (fun K hK => ?_) AllReadyH.nil)
              · refine step_app_ents_any _ rfl (.tmp 45) (.tmp 50) rfl W5.heap.size W5.heap.size w.heap.size T (OwnEnts.of_heap (by rfl) p2) (kv 0).1 (kv 0).2 o0.kids.length o0.kids (hE0.below (show Below W5.heap.size W5 _ from (by repeat (first | with_reducible exact Below.refl _ _ | with_reducible exact hb8 | refine Below.drew ?_ | refine Below.alloc ?_ (by first | omega | (simp <;> omega)) _))) (by omega)) (by simp [Act.eval]) (by simp [Act.eval]) (by omega) (by first | omega | (simp <;> omega)) ?_
                intro v8 w8 hA8
                have hb8 : Below W5.heap.size W5 w8 := (show Below W5.heap.size W5 _ from (by repeat (first | with_reducible exact Below.refl _ _ | refine Below.drew ?_ | refine Below.alloc ?_ (by first | omega | (simp <;> omega)) _))).trans (below_grown (Below.refl _ _) hA8.grown (fun q hq => by simp [Value.ownBlock] at hq; omega) (by first | omega | (simp <;> omega)))
                have hz8 := hb8.size
                refine hK.out _ _ ?_ (fun hHeld => ?_)
                · exact XKeep hX5 x5 hb8
                clear hK K
                try simp only [Act.put]
                refine wpAnyH_ready (rs := [11]) (by kernel_rfl) (by simp) ?_
                refine AllReadyH.cons (o := _) rfl (fun K hK => ?_) AllReadyH.nil
                go_simp
                refine hK.out _ _ ?_ (fun hHeld => ?_)
                · exact XKeep hX5 x5 (show Below W5.heap.size W5 _ from (by repeat (first | with_reducible exact Below.refl _ _ | with_reducible exact hb8 | refine Below.drew ?_ | refine Below.alloc ?_ (by first | omega | (simp <;> omega)) _)))
                clear hK K
                try simp only [Act.put]
                refine wpAnyH_ready (rs := [12]) (by kernel_rfl) (by simp) ?_
                refine AllReadyH.cons (o := _) rfl (fun K hK => ?_) AllReadyH.nil
                refine step_app_kids _ rfl (.tmp 51) (.tmp 54) rfl W5.heap.size v8 o0.kids [⟨⟨#[122, 122, 122, 122]⟩, (j : Int)⟩] (OwnEnts.of_heap rfl (World.ownsRow.alloc hA8.own _)) ⟨w8.heap.size, 0, none⟩ 1 1 rfl (by simp [Act.eval]) (by simp [Act.eval]) (fun q u hu => two_at hu) (by omega) (by first | omega | (simp <;> omega)) ?_
                intro v12 w12 hA12
                have hb12 : Below W5.heap.size W5 w12 := (show Below W5.heap.size W5 _ from (by repeat (first | with_reducible exact Below.refl _ _ | with_reducible exact hb8 | refine Below.drew ?_ | refine Below.alloc ?_ (by first | omega | (simp <;> omega)) _))).trans (below_grown (Below.refl _ _) hA12.grown (fun q hq => (hA8.own.lt q hq).1) (by first | omega | (simp <;> omega)))
                have hz12 := hb12.size
                obtain ⟨av, cv, hv12⟩ := hA12.own.shape
                generalize hln : (o0.kids ++ [(⟨⟨#[122, 122, 122, 122]⟩, (j : Int)⟩ : LEnt)]).length = ln at hv12
                subst hv12
                have c12 : w12.cell? ⟨g, 3, none⟩ = some (.slice (kv 0).1 o0.kids.length (kv 0).2) := by rw [hb12.cell (by simpa using hg5)]; exact k3
                have f12 : w12.frozen? ⟨g, 3, none⟩ = false := by rw [hb12.frozen (by simpa using hg5)]; exact XS.fz 3
                have hg12 : g < w12.heap.size := by omega
                refine hK.out _ _ ?_ (fun hHeld => ?_)
                · exact XKeep hX5 x5 hb12
                clear hK K
                try simp only [Act.put]
                refine wpAnyH_take (i := 13) (oi := _) (v := ?vt613) rfl (by kernel_rfl) (by kernel_rfl) (by kernel_rfl) (fun _ _ _ h => h) (Or.inl ⟨by rfl, ?yt613⟩) (by assumption) ?rt613
                case yt613 => (intro w' hSw; (try dsimp only at hSw); go_simp; try with_reducible rfl)
                try simp only [Act.put]
                refine wpAnyH_take (i := 14) (oi := _) (v := ?vt614) rfl (by kernel_rfl) (by kernel_rfl) (by kernel_rfl) (fun _ _ _ h => h) (Or.inl ⟨by rfl, ?yt614⟩) (by assumption) ?rt614
                case yt614 => (intro w' hSw; (try dsimp only at hSw); go_simp; try with_reducible rfl)
                try simp only [Act.put]
                refine wpAnyH_ready (rs := [15]) (by kernel_rfl) (by simp) ?_
                refine AllReadyH.cons (o := _) rfl (fun K hK => ?_) AllReadyH.nil
                go_simp
                refine hK.out _ _ ?_ (fun hHeld => ?_)
                · rw [World.cell?_setCell_other _ _ _ _ (fun e => by have := congrArg Addr.block e; simp at this; omega)]; exact XKeep hX5 x5 hb12
                clear hK K
                try simp only [Act.put]
                refine wpAnyH_done (by kernel_rfl) ?_ _
                go_wp2_with fail
                go_meet
                exact xdone HL.out XS HO.out.2 HS.out HN.out hbd hlt HKL.out hb12 hA12.own
              · go_simp
                refine hK.out _ _ ?_ (fun hHeld => ?_)
                · exact XKeep hX5 x5 (show Below W5.heap.size W5 _ from (by repeat (first | with_reducible exact Below.refl _ _ | with_reducible exact hb8 | refine Below.drew ?_ | refine Below.alloc ?_ (by first | omega | (simp <;> omega)) _)))
                clear hK K
                try simp only [Act.put]
                refine wpAnyH_ready (rs := [8]) (by kernel_rfl) (by simp) ?_
                refine AllReadyH.cons (o := _) rfl (fun K hK => ?_) AllReadyH.nil
                refine step_app_ents_any _ rfl (.tmp 45) (.tmp 50) rfl W5.heap.size W5.heap.size w.heap.size T (OwnEnts.of_heap (by rfl) p11) (kv 0).1 (kv 0).2 o0.kids.length o0.kids (hE0.below (show Below W5.heap.size W5 _ from (by repeat (first | with_reducible exact Below.refl _ _ | with_reducible exact hb8 | refine Below.drew ?_ | refine Below.alloc ?_ (by first | omega | (simp <;> omega)) _))) (by omega)) (by simp [Act.eval]) (by simp [Act.eval]) (by omega) (by first | omega | (simp <;> omega)) ?_
                intro v8 w8 hA8
                have hb8 : Below W5.heap.size W5 w8 := (show Below W5.heap.size W5 _ from (by repeat (first | with_reducible exact Below.refl _ _ | refine Below.drew ?_ | refine Below.alloc ?_ (by first | omega | (simp <;> omega)) _))).trans (below_grown (Below.refl _ _) hA8.grown (fun q hq => by simp [Value.ownBlock] at hq; omega) (by first | omega | (simp <;> omega)))
                have hz8 := hb8.size
                have hn8 : ∀ q u, (entCells [(⟨⟨#[122, 122, 122, 122]⟩, (j : Int)⟩ : LEnt)])[q]? = some u → w8.cell? ((⟨(W5.heap.size + 1), 0, none⟩ : Addr).add q) = some u := fun q u hu => by
                  rw [addr0]
                  exact (hA8.grown.cell_far ⟨(W5.heap.size + 1), q, none⟩ (by first | (simp; done) | (simp; omega)) (by simp [Value.ownBlock])).trans (m11 q u hu)
                refine hK.out _ _ ?_ (fun hHeld => ?_)
                · exact XKeep hX5 x5 hb8
                clear hK K
                try simp only [Act.put]
                refine wpAnyH_ready (rs := [12]) (by kernel_rfl) (by simp) ?_
                refine AllReadyH.cons (o := _) rfl (fun K hK => ?_) AllReadyH.nil
                refine step_app_kids _ rfl (.tmp 51) (.tmp 54) rfl W5.heap.size v8 o0.kids [⟨⟨#[122, 122, 122, 122]⟩, (j : Int)⟩] (OwnEnts.of_heap rfl hA8.own) ⟨(W5.heap.size + 1), 0, none⟩ 1 1 rfl (by simp [Act.eval]) (by simp [Act.eval]) hn8 (by omega) (by first | omega | (simp <;> omega)) ?_
                intro v12 w12 hA12
                have hb12 : Below W5.heap.size W5 w12 := (show Below W5.heap.size W5 _ from (by repeat (first | with_reducible exact Below.refl _ _ | with_reducible exact hb8 | refine Below.drew ?_ | refine Below.alloc ?_ (by first | omega | (simp <;> omega)) _))).trans (below_grown (Below.refl _ _) hA12.grown (fun q hq => (hA8.own.lt q hq).1) (by first | omega | (simp <;> omega)))
                have hz12 := hb12.size
                obtain ⟨av, cv, hv12⟩ := hA12.own.shape
                generalize hln : (o0.kids ++ [(⟨⟨#[122, 122, 122, 122]⟩, (j : Int)⟩ : LEnt)]).length = ln at hv12
                subst hv12
                have c12 : w12.cell? ⟨g, 3, none⟩ = some (.slice (kv 0).1 o0.kids.length (kv 0).2) := by rw [hb12.cell (by simpa using hg5)]; exact k3
                have f12 : w12.frozen? ⟨g, 3, none⟩ = false := by rw [hb12.frozen (by simpa using hg5)]; exact XS.fz 3
                have hg12 : g < w12.heap.size := by omega
                refine hK.out _ _ ?_ (fun hHeld => ?_)
                · exact XKeep hX5 x5 hb12
                clear hK K
                try simp only [Act.put]
                refine wpAnyH_take (i := 13) (oi := _) (v := ?vt913) rfl (by kernel_rfl) (by kernel_rfl) (by kernel_rfl) (fun _ _ _ h => h) (Or.inl ⟨by rfl, ?yt913⟩) (by assumption) ?rt913
                case yt913 => (intro w' hSw; (try dsimp only at hSw); go_simp; try with_reducible rfl)
                try simp only [Act.put]
                refine wpAnyH_take (i := 14) (oi := _) (v := ?vt914) rfl (by kernel_rfl) (by kernel_rfl) (by kernel_rfl) (fun _ _ _ h => h) (Or.inl ⟨by rfl, ?yt914⟩) (by assumption) ?rt914
                case yt914 => (intro w' hSw; (try dsimp only at hSw); go_simp; try with_reducible rfl)
                try simp only [Act.put]
                refine wpAnyH_ready (rs := [15]) (by kernel_rfl) (by simp) ?_
                refine AllReadyH.cons (o := _) rfl (fun K hK => ?_) AllReadyH.nil
                go_simp
                refine hK.out _ _ ?_ (fun hHeld => ?_)
                · rw [World.cell?_setCell_other _ _ _ _ (fun e => by have := congrArg Addr.block e; simp at this; omega)]; exact XKeep hX5 x5 hb12
                clear hK K
                try simp only [Act.put]
                refine wpAnyH_done (by kernel_rfl) ?_ _
                go_wp2_with fail
                go_meet
                exact xdone HL.out XS HO.out.2 HS.out HN.out hbd hlt HKL.out hb12 hA12.own
            · go_simp
              refine hK.out _ _ ?_ (fun hHeld => ?_)
              · exact XKeep hX5 x5 (show Below W5.heap.size W5 _ from (by repeat (first | with_reducible exact Below.refl _ _ | with_reducible exact hb8 | refine Below.drew ?_ | refine Below.alloc ?_ (by first | omega | (simp <;> omega)) _)))
              clear hK K
              try simp only [Act.put]
              refine wpAnyH_ready (rs := [7]) (by kernel_rfl) (by simp) ?_
              refine AllReadyH.cons (o := _) rfl (fun K hK => ?_) AllReadyH.nil
              go_simp
              refine hK.out _ _ ?_ (fun hHeld => ?_)
              · exact XKeep hX5 x5 (show Below W5.heap.size W5 _ from (by repeat (first | with_reducible exact Below.refl _ _ | with_reducible exact hb8 | refine Below.drew ?_ | refine Below.alloc ?_ (by first | omega | (simp <;> omega)) _)))
              clear hK K
              try simp only [Act.put]
              refine wpAnyH_ready (rs := [8]) (by kernel_rfl) (by simp) ?_
              refine AllReadyH.cons (o := _) rfl (fun K hK => ?_) AllReadyH.nil
              refine step_app_ents_any _ rfl (.tmp 45) (.tmp 50) rfl W5.heap.size W5.heap.size w.heap.size T (OwnEnts.of_heap (by rfl) p11) (kv 0).1 (kv 0).2 o0.kids.length o0.kids (hE0.below (show Below W5.heap.size W5 _ from (by repeat (first | with_reducible exact Below.refl _ _ | with_reducible exact hb8 | refine Below.drew ?_ | refine Below.alloc ?_ (by first | omega | (simp <;> omega)) _))) (by omega)) (by simp [Act.eval]) (by simp [Act.eval]) (by omega) (by first | omega | (simp <;> omega)) ?_
              intro v8 w8 hA8
              have hb8 : Below W5.heap.size W5 w8 := (show Below W5.heap.size W5 _ from (by repeat (first | with_reducible exact Below.refl _ _ | refine Below.drew ?_ | refine Below.alloc ?_ (by first | omega | (simp <;> omega)) _))).trans (below_grown (Below.refl _ _) hA8.grown (fun q hq => by simp [Value.ownBlock] at hq; omega) (by first | omega | (simp <;> omega)))
              have hz8 := hb8.size
              have hn8 : ∀ q u, (entCells [(⟨⟨#[122, 122, 122, 122]⟩, (j : Int)⟩ : LEnt)])[q]? = some u → w8.cell? ((⟨(W5.heap.size + 1), 0, none⟩ : Addr).add q) = some u := fun q u hu => by
                rw [addr0]
                exact (hA8.grown.cell_far ⟨(W5.heap.size + 1), q, none⟩ (by first | (simp; done) | (simp; omega)) (by simp [Value.ownBlock])).trans (m11 q u hu)
              refine hK.out _ _ ?_ (fun hHeld => ?_)
              · exact XKeep hX5 x5 hb8
              clear hK K
              try simp only [Act.put]
              refine wpAnyH_ready (rs := [12]) (by kernel_rfl) (by simp) ?_
              refine AllReadyH.cons (o := _) rfl (fun K hK => ?_) AllReadyH.nil
              refine step_app_kids _ rfl (.tmp 51) (.tmp 54) rfl W5.heap.size v8 o0.kids [⟨⟨#[122, 122, 122, 122]⟩, (j : Int)⟩] (OwnEnts.of_heap rfl hA8.own) ⟨(W5.heap.size + 1), 0, none⟩ 1 1 rfl (by simp [Act.eval]) (by simp [Act.eval]) hn8 (by omega) (by first | omega | (simp <;> omega)) ?_
              intro v12 w12 hA12
              have hb12 : Below W5.heap.size W5 w12 := (show Below W5.heap.size W5 _ from (by repeat (first | with_reducible exact Below.refl _ _ | with_reducible exact hb8 | refine Below.drew ?_ | refine Below.alloc ?_ (by first | omega | (simp <;> omega)) _))).trans (below_grown (Below.refl _ _) hA12.grown (fun q hq => (hA8.own.lt q hq).1) (by first | omega | (simp <;> omega)))
              have hz12 := hb12.size
              obtain ⟨av, cv, hv12⟩ := hA12.own.shape
              generalize hln : (o0.kids ++ [(⟨⟨#[122, 122, 122, 122]⟩, (j : Int)⟩ : LEnt)]).length = ln at hv12
              subst hv12
              have c12 : w12.cell? ⟨g, 3, none⟩ = some (.slice (kv 0).1 o0.kids.length (kv 0).2) := by rw [hb12.cell (by simpa using hg5)]; exact k3
              have f12 : w12.frozen? ⟨g, 3, none⟩ = false := by rw [hb12.frozen (by simpa using hg5)]; exact XS.fz 3
              have hg12 : g < w12.heap.size := by omega
              refine hK.out _ _ ?_ (fun hHeld => ?_)
              · exact XKeep hX5 x5 hb12
              clear hK K
              try simp only [Act.put]
              refine wpAnyH_take (i := 13) (oi := _) (v := ?vt1313) rfl (by kernel_rfl) (by kernel_rfl) (by kernel_rfl) (fun _ _ _ h => h) (Or.inl ⟨by rfl, ?yt1313⟩) (by assumption) ?rt1313
              case yt1313 => (intro w' hSw; (try dsimp only at hSw); go_simp; try with_reducible rfl)
              try simp only [Act.put]
              refine wpAnyH_take (i := 14) (oi := _) (v := ?vt1314) rfl (by kernel_rfl) (by kernel_rfl) (by kernel_rfl) (fun _ _ _ h => h) (Or.inl ⟨by rfl, ?yt1314⟩) (by assumption) ?rt1314
              case yt1314 => (intro w' hSw; (try dsimp only at hSw); go_simp; try with_reducible rfl)
              try simp only [Act.put]
              refine wpAnyH_ready (rs := [15]) (by kernel_rfl) (by simp) ?_
              refine AllReadyH.cons (o := _) rfl (fun K hK => ?_) AllReadyH.nil
              go_simp
              refine hK.out _ _ ?_ (fun hHeld => ?_)
              · rw [World.cell?_setCell_other _ _ _ _ (fun e => by have := congrArg Addr.block e; simp at this; omega)]; exact XKeep hX5 x5 hb12
              clear hK K
              try simp only [Act.put]
              refine wpAnyH_done (by kernel_rfl) ?_ _
              go_wp2_with fail
              go_meet
              exact xdone HL.out XS HO.out.2 HS.out HN.out hbd hlt HKL.out hb12 hA12.own
          · go_simp
            refine hK.out _ _ ?_ (fun hHeld => ?_)
            · exact XKeep hX5 x5 (show Below W5.heap.size W5 _ from (by repeat (first | with_reducible exact Below.refl _ _ | with_reducible exact hb8 | refine Below.drew ?_ | refine Below.alloc ?_ (by first | omega | (simp <;> omega)) _)))
            clear hK K
            try simp only [Act.put]
            refine wpAnyH_ready (rs := [2, 11]) (by kernel_rfl) (by simp) ?_
            refine AllReadyH.cons (o := _) rfl (fun K hK => ?_) (AllReadyH.cons (o := _) rfl (fun K hK => ?_) AllReadyH.nil)
            · go_simp
              refine hK.out _ _ ?_ (fun hHeld => ?_)
              · exact XKeep hX5 x5 (show Below W5.heap.size W5 _ from (by repeat (first | with_reducible exact Below.refl _ _ | with_reducible exact hb8 | refine Below.drew ?_ | refine Below.alloc ?_ (by first | omega | (simp <;> omega)) _)))
              clear hK K
              try simp only [Act.put]
              refine wpAnyH_ready (rs := [8, 11]) (by kernel_rfl) (by simp) ?_
              refine AllReadyH.cons (o := _) rfl (fun K hK => ?_) (AllReadyH.cons (o := _) rfl (fun K hK => ?_) AllReadyH.nil)
              · refine step_app_ents_any _ rfl (.tmp 45) (.tmp 50) rfl W5.heap.size W5.heap.size w.heap.size T (OwnEnts.of_heap (by rfl) p2) (kv 0).1 (kv 0).2 o0.kids.length o0.kids (hE0.below (show Below W5.heap.size W5 _ from (by repeat (first | with_reducible exact Below.refl _ _ | with_reducible exact hb8 | refine Below.drew ?_ | refine Below.alloc ?_ (by first | omega | (simp <;> omega)) _))) (by omega)) (by simp [Act.eval]) (by simp [Act.eval]) (by omega) (by first | omega | (simp <;> omega)) ?_
                intro v8 w8 hA8
                have hb8 : Below W5.heap.size W5 w8 := (show Below W5.heap.size W5 _ from (by repeat (first | with_reducible exact Below.refl _ _ | refine Below.drew ?_ | refine Below.alloc ?_ (by first | omega | (simp <;> omega)) _))).trans (below_grown (Below.refl _ _) hA8.grown (fun q hq => by simp [Value.ownBlock] at hq; omega) (by first | omega | (simp <;> omega)))
                have hz8 := hb8.size
                refine hK.out _ _ ?_ (fun hHeld => ?_)
                · exact XKeep hX5 x5 hb8
                clear hK K
                try simp only [Act.put]
                refine wpAnyH_ready (rs := [11]) (by kernel_rfl) (by simp) ?_
                refine AllReadyH.cons (o := _) rfl (fun K hK => ?_) AllReadyH.nil
                go_simp
                refine hK.out _ _ ?_ (fun hHeld => ?_)
                · exact XKeep hX5 x5 (show Below W5.heap.size W5 _ from (by repeat (first | with_reducible exact Below.refl _ _ | with_reducible exact hb8 | refine Below.drew ?_ | refine Below.alloc ?_ (by first | omega | (simp <;> omega)) _)))
                clear hK K
                try simp only [Act.put]
                refine wpAnyH_ready (rs := [12]) (by kernel_rfl) (by simp) ?_
                refine AllReadyH.cons (o := _) rfl (fun K hK => ?_) AllReadyH.nil
                refine step_app_kids _ rfl (.tmp 51) (.tmp 54) rfl W5.heap.size v8 o0.kids [⟨⟨#[122, 122, 122, 122]⟩, (j : Int)⟩] (OwnEnts.of_heap rfl (World.ownsRow.alloc hA8.own _)) ⟨w8.heap.size, 0, none⟩ 1 1 rfl (by simp [Act.eval]) (by simp [Act.eval]) (fun q u hu => two_at hu) (by omega) (by first | omega | (simp <;> omega)) ?_
                intro v12 w12 hA12
                have hb12 : Below W5.heap.size W5 w12 := (show Below W5.heap.size W5 _ from (by repeat (first | with_reducible exact Below.refl _ _ | with_reducible exact hb8 | refine Below.drew ?_ | refine Below.alloc ?_ (by first | omega | (simp <;> omega)) _))).trans (below_grown (Below.refl _ _) hA12.grown (fun q hq => (hA8.own.lt q hq).1) (by first | omega | (simp <;> omega)))
                have hz12 := hb12.size
                obtain ⟨av, cv, hv12⟩ := hA12.own.shape
                generalize hln : (o0.kids ++ [(⟨⟨#[122, 122, 122, 122]⟩, (j : Int)⟩ : LEnt)]).length = ln at hv12
                subst hv12
                have c12 : w12.cell? ⟨g, 3, none⟩ = some (.slice (kv 0).1 o0.kids.length (kv 0).2) := by rw [hb12.cell (by simpa using hg5)]; exact k3
                have f12 : w12.frozen? ⟨g, 3, none⟩ = false := by rw [hb12.frozen (by simpa using hg5)]; exact XS.fz 3
                have hg12 : g < w12.heap.size := by omega
                refine hK.out _ _ ?_ (fun hHeld => ?_)
                · exact XKeep hX5 x5 hb12
                clear hK K
                try simp only [Act.put]
                refine wpAnyH_take (i := 13) (oi := _) (v := ?vt1813) rfl (by kernel_rfl) (by kernel_rfl) (by kernel_rfl) (fun _ _ _ h => h) (Or.inl ⟨by rfl, ?yt1813⟩) (by assumption) ?rt1813
                case yt1813 => (intro w' hSw; (try dsimp only at hSw); go_simp; try with_reducible rfl)
                try simp only [Act.put]
                refine wpAnyH_take (i := 14) (oi := _) (v := ?vt1814) rfl (by kernel_rfl) (by kernel_rfl) (by kernel_rfl) (fun _ _ _ h => h) (Or.inl ⟨by rfl, ?yt1814⟩) (by assumption) ?rt1814
                case yt1814 => (intro w' hSw; (try dsimp only at hSw); go_simp; try with_reducible rfl)
                try simp only [Act.put]
                refine wpAnyH_ready (rs := [15]) (by kernel_rfl) (by simp) ?_
                refine AllReadyH.cons (o := _) rfl (fun K hK => ?_) AllReadyH.nil
                go_simp
                refine hK.out _ _ ?_ (fun hHeld => ?_)
                · rw [World.cell?_setCell_other _ _ _ _ (fun e => by have := congrArg Addr.block e; simp at this; omega)]; exact XKeep hX5 x5 hb12
                clear hK K
                try simp only [Act.put]
                refine wpAnyH_done (by kernel_rfl) ?_ _
                go_wp2_with fail
                go_meet
                exact xdone HL.out XS HO.out.2 HS.out HN.out hbd hlt HKL.out hb12 hA12.own
              · go_simp
                refine hK.out _ _ ?_ (fun hHeld => ?_)
                · exact XKeep hX5 x5 (show Below W5.heap.size W5 _ from (by repeat (first | with_reducible exact Below.refl _ _ | with_reducible exact hb8 | refine Below.drew ?_ | refine Below.alloc ?_ (by first | omega | (simp <;> omega)) _)))
                clear hK K
                try simp only [Act.put]
                refine wpAnyH_ready (rs := [8]) (by kernel_rfl) (by simp) ?_
                refine AllReadyH.cons (o := _) rfl (fun K hK => ?_) AllReadyH.nil
                refine step_app_ents_any _ rfl (.tmp 45) (.tmp 50) rfl W5.heap.size W5.heap.size w.heap.size T (OwnEnts.of_heap (by rfl) p11) (kv 0).1 (kv 0).2 o0.kids.length o0.kids (hE0.below (show Below W5.heap.size W5 _ from (by repeat (first | with_reducible exact Below.refl _ _ | with_reducible exact hb8 | refine Below.drew ?_ | refine Below.alloc ?_ (by first | omega | (simp <;> omega)) _))) (by omega)) (by simp [Act.eval]) (by simp [Act.eval]) (by omega) (by first | omega | (simp <;> omega)) ?_
                intro v8 w8 hA8
                have hb8 : Below W5.heap.size W5 w8 := (show Below W5.heap.size W5 _ from (by repeat (first | with_reducible exact Below.refl _ _ | refine Below.drew ?_ | refine Below.alloc ?_ (by first | omega | (simp <;> omega)) _))).trans (below_grown (Below.refl _ _) hA8.grown (fun q hq => by simp [Value.ownBlock] at hq; omega) (by first | omega | (simp <;> omega)))
                have hz8 := hb8.size
                have hn8 : ∀ q u, (entCells [(⟨⟨#[122, 122, 122, 122]⟩, (j : Int)⟩ : LEnt)])[q]? = some u → w8.cell? ((⟨(W5.heap.size + 1), 0, none⟩ : Addr).add q) = some u := fun q u hu => by
                  rw [addr0]
                  exact (hA8.grown.cell_far ⟨(W5.heap.size + 1), q, none⟩ (by first | (simp; done) | (simp; omega)) (by simp [Value.ownBlock])).trans (m11 q u hu)
                refine hK.out _ _ ?_ (fun hHeld => ?_)
                · exact XKeep hX5 x5 hb8
                clear hK K
                try simp only [Act.put]
                refine wpAnyH_ready (rs := [12]) (by kernel_rfl) (by simp) ?_
                refine AllReadyH.cons (o := _) rfl (fun K hK => ?_) AllReadyH.nil
                refine step_app_kids _ rfl (.tmp 51) (.tmp 54) rfl W5.heap.size v8 o0.kids [⟨⟨#[122, 122, 122, 122]⟩, (j : Int)⟩] (OwnEnts.of_heap rfl hA8.own) ⟨(W5.heap.size + 1), 0, none⟩ 1 1 rfl (by simp [Act.eval]) (by simp [Act.eval]) hn8 (by omega) (by first | omega | (simp <;> omega)) ?_
                intro v12 w12 hA12
                have hb12 : Below W5.heap.size W5 w12 := (show Below W5.heap.size W5 _ from (by repeat (first | with_reducible exact Below.refl _ _ | with_reducible exact hb8 | refine Below.drew ?_ | refine Below.alloc ?_ (by first | omega | (simp <;> omega)) _))).trans (below_grown (Below.refl _ _) hA12.grown (fun q hq => (hA8.own.lt q hq).1) (by first | omega | (simp <;> omega)))
                have hz12 := hb12.size
                obtain ⟨av, cv, hv12⟩ := hA12.own.shape
                generalize hln : (o0.kids ++ [(⟨⟨#[122, 122, 122, 122]⟩, (j : Int)⟩ : LEnt)]).length = ln at hv12
                subst hv12
                have c12 : w12.cell? ⟨g, 3, none⟩ = some (.slice (kv 0).1 o0.kids.length (kv 0).2) := by rw [hb12.cell (by simpa using hg5)]; exact k3
                have f12 : w12.frozen? ⟨g, 3, none⟩ = false := by rw [hb12.frozen (by simpa using hg5)]; exact XS.fz 3
                have hg12 : g < w12.heap.size := by omega
                refine hK.out _ _ ?_ (fun hHeld => ?_)
                · exact XKeep hX5 x5 hb12
                clear hK K
                try simp only [Act.put]
                refine wpAnyH_take (i := 13) (oi := _) (v := ?vt2113) rfl (by kernel_rfl) (by kernel_rfl) (by kernel_rfl) (fun _ _ _ h => h) (Or.inl ⟨by rfl, ?yt2113⟩) (by assumption) ?rt2113
                case yt2113 => (intro w' hSw; (try dsimp only at hSw); go_simp; try with_reducible rfl)
                try simp only [Act.put]
                refine wpAnyH_take (i := 14) (oi := _) (v := ?vt2114) rfl (by kernel_rfl) (by kernel_rfl) (by kernel_rfl) (fun _ _ _ h => h) (Or.inl ⟨by rfl, ?yt2114⟩) (by assumption) ?rt2114
                case yt2114 => (intro w' hSw; (try dsimp only at hSw); go_simp; try with_reducible rfl)
                try simp only [Act.put]
                refine wpAnyH_ready (rs := [15]) (by kernel_rfl) (by simp) ?_
                refine AllReadyH.cons (o := _) rfl (fun K hK => ?_) AllReadyH.nil
                go_simp
                refine hK.out _ _ ?_ (fun hHeld => ?_)
                · rw [World.cell?_setCell_other _ _ _ _ (fun e => by have := congrArg Addr.block e; simp at this; omega)]; exact XKeep hX5 x5 hb12
                clear hK K
                try simp only [Act.put]
                refine wpAnyH_done (by kernel_rfl) ?_ _
                go_wp2_with fail
                go_meet
                exact xdone HL.out XS HO.out.2 HS.out HN.out hbd hlt HKL.out hb12 hA12.own
            · go_simp
              refine hK.out _ _ ?_ (fun hHeld => ?_)
              · exact XKeep hX5 x5 (show Below W5.heap.size W5 _ from (by repeat (first | with_reducible exact Below.refl _ _ | with_reducible exact hb8 | refine Below.drew ?_ | refine Below.alloc ?_ (by first | omega | (simp <;> omega)) _)))
              clear hK K
              try simp only [Act.put]
              refine wpAnyH_ready (rs := [2]) (by kernel_rfl) (by simp) ?_
              refine AllReadyH.cons (o := _) rfl (fun K hK => ?_) AllReadyH.nil
              go_simp
              refine hK.out _ _ ?_ (fun hHeld => ?_)
              · exact XKeep hX5 x5 (show Below W5.heap.size W5 _ from (by repeat (first | with_reducible exact Below.refl _ _ | with_reducible exact hb8 | refine Below.drew ?_ | refine Below.alloc ?_ (by first | omega | (simp <;> omega)) _)))
              clear hK K
              try simp only [Act.put]
              refine wpAnyH_ready (rs := [8]) (by kernel_rfl) (by simp) ?_
              refine AllReadyH.cons (o := _) rfl (fun K hK => ?_) AllReadyH.nil
              refine step_app_ents_any _ rfl (.tmp 45) (.tmp 50) rfl W5.heap.size (W5.heap.size + 1) w.heap.size T (OwnEnts.of_heap (by rfl) p112) (kv 0).1 (kv 0).2 o0.kids.length o0.kids (hE0.below (show Below W5.heap.size W5 _ from (by repeat (first | with_reducible exact Below.refl _ _ | with_reducible exact hb8 | refine Below.drew ?_ | refine Below.alloc ?_ (by first | omega | (simp <;> omega)) _))) (by omega)) (by simp [Act.eval]) (by simp [Act.eval]) (by omega) (by first | omega | (simp <;> omega)) ?_
              intro v8 w8 hA8
              have hb8 : Below W5.heap.size W5 w8 := (show Below W5.heap.size W5 _ from (by repeat (first | with_reducible exact Below.refl _ _ | refine Below.drew ?_ | refine Below.alloc ?_ (by first | omega | (simp <;> omega)) _))).trans (below_grown (Below.refl _ _) hA8.grown (fun q hq => by simp [Value.ownBlock] at hq; omega) (by first | omega | (simp <;> omega)))
              have hz8 := hb8.size
              have hn8 : ∀ q u, (entCells [(⟨⟨#[122, 122, 122, 122]⟩, (j : Int)⟩ : LEnt)])[q]? = some u → w8.cell? ((⟨W5.heap.size, 0, none⟩ : Addr).add q) = some u := fun q u hu => by
                rw [addr0]
                exact (hA8.grown.cell_far ⟨W5.heap.size, q, none⟩ (by first | (simp; done) | (simp; omega)) (by simp [Value.ownBlock])).trans (m112 q u hu)
              refine hK.out _ _ ?_ (fun hHeld => ?_)
              · exact XKeep hX5 x5 hb8
              clear hK K
              try simp only [Act.put]
              refine wpAnyH_ready (rs := [12]) (by kernel_rfl) (by simp) ?_
              refine AllReadyH.cons (o := _) rfl (fun K hK => ?_) AllReadyH.nil
              refine step_app_kids _ rfl (.tmp 51) (.tmp 54) rfl W5.heap.size v8 o0.kids [⟨⟨#[122, 122, 122, 122]⟩, (j : Int)⟩] (OwnEnts.of_heap rfl hA8.own) ⟨W5.heap.size, 0, none⟩ 1 1 rfl (by simp [Act.eval]) (by simp [Act.eval]) hn8 (by omega) (by first | omega | (simp <;> omega)) ?_
              intro v12 w12 hA12
              have hb12 : Below W5.heap.size W5 w12 := (show Below W5.heap.size W5 _ from (by repeat (first | with_reducible exact Below.refl _ _ | with_reducible exact hb8 | refine Below.drew ?_ | refine Below.alloc ?_ (by first | omega | (simp <;> omega)) _))).trans (below_grown (Below.refl _ _) hA12.grown (fun q hq => (hA8.own.lt q hq).1) (by first | omega | (simp <;> omega)))
              have hz12 := hb12.size
              obtain ⟨av, cv, hv12⟩ := hA12.own.shape
              generalize hln : (o0.kids ++ [(⟨⟨#[122, 122, 122, 122]⟩, (j : Int)⟩ : LEnt)]).length = ln at hv12
              subst hv12
              have c12 : w12.cell? ⟨g, 3, none⟩ = some (.slice (kv 0).1 o0.kids.length (kv 0).2) := by rw [hb12.cell (by simpa using hg5)]; exact k3
              have f12 : w12.frozen? ⟨g, 3, none⟩ = false := by rw [hb12.frozen (by simpa using hg5)]; exact XS.fz 3
              have hg12 : g < w12.heap.size := by omega
              refine hK.out _ _ ?_ (fun hHeld => ?_)
              · exact XKeep hX5 x5 hb12
              clear hK K
              try simp only [Act.put]
              refine wpAnyH_take (i := 13) (oi := _) (v := ?vt2513) rfl (by kernel_rfl) (by kernel_rfl) (by kernel_rfl) (fun _ _ _ h => h) (Or.inl ⟨by rfl, ?yt2513⟩) (by assumption) ?rt2513
              case yt2513 => (intro w' hSw; (try dsimp only at hSw); go_simp; try with_reducible rfl)
              try simp only [Act.put]
              refine wpAnyH_take (i := 14) (oi := _) (v := ?vt2514) rfl (by kernel_rfl) (by kernel_rfl) (by kernel_rfl) (fun _ _ _ h => h) (Or.inl ⟨by rfl, ?yt2514⟩) (by assumption) ?rt2514
              case yt2514 => (intro w' hSw; (try dsimp only at hSw); go_simp; try with_reducible rfl)
              try simp only [Act.put]
              refine wpAnyH_ready (rs := [15]) (by kernel_rfl) (by simp) ?_
              refine AllReadyH.cons (o := _) rfl (fun K hK => ?_) AllReadyH.nil
              go_simp
              refine hK.out _ _ ?_ (fun hHeld => ?_)
              · rw [World.cell?_setCell_other _ _ _ _ (fun e => by have := congrArg Addr.block e; simp at this; omega)]; exact XKeep hX5 x5 hb12
              clear hK K
              try simp only [Act.put]
              refine wpAnyH_done (by kernel_rfl) ?_ _
              go_wp2_with fail
              go_meet
              exact xdone HL.out XS HO.out.2 HS.out HN.out hbd hlt HKL.out hb12 hA12.own
          · go_simp
            refine hK.out _ _ ?_ (fun hHeld => ?_)
            · exact XKeep hX5 x5 (show Below W5.heap.size W5 _ from (by repeat (first | with_reducible exact Below.refl _ _ | with_reducible exact hb8 | refine Below.drew ?_ | refine Below.alloc ?_ (by first | omega | (simp <;> omega)) _)))
            clear hK K
            try simp only [Act.put]
            refine wpAnyH_ready (rs := [2, 7]) (by kernel_rfl) (by simp) ?_
            refine AllReadyH.cons (o := _) rfl (fun K hK => ?_) (AllReadyH.cons (o := _) rfl (fun K hK => ?_) AllReadyH.nil)
            · go_simp
              refine hK.out _ _ ?_ (fun hHeld => ?_)
              · exact XKeep hX5 x5 (show Below W5.heap.size W5 _ from (by repeat (first | with_reducible exact Below.refl _ _ | with_reducible exact hb8 | refine Below.drew ?_ | refine Below.alloc ?_ (by first | omega | (simp <;> omega)) _)))
              clear hK K
              try simp only [Act.put]
              refine wpAnyH_ready (rs := [7]) (by kernel_rfl) (by simp) ?_
              refine AllReadyH.cons (o := _) rfl (fun K hK => ?_) AllReadyH.nil
              go_simp
              refine hK.out _ _ ?_ (fun hHeld => ?_)
              · exact XKeep hX5 x5 (show Below W5.heap.size W5 _ from (by repeat (first | with_reducible exact Below.refl _ _ | with_reducible exact hb8 | refine Below.drew ?_ | refine Below.alloc ?_ (by first | omega | (simp <;> omega)) _)))
              clear hK K
              try simp only [Act.put]
              refine wpAnyH_ready (rs := [8]) (by kernel_rfl) (by simp) ?_
              refine AllReadyH.cons (o := _) rfl (fun K hK => ?_) AllReadyH.nil
              refine step_app_ents_any _ rfl (.tmp 45) (.tmp 50) rfl W5.heap.size (W5.heap.size + 1) w.heap.size T (OwnEnts.of_heap (by rfl) p112) (kv 0).1 (kv 0).2 o0.kids.length o0.kids (hE0.below (show Below W5.heap.size W5 _ from (by repeat (first | with_reducible exact Below.refl _ _ | with_reducible exact hb8 | refine Below.drew ?_ | refine Below.alloc ?_ (by first | omega | (simp <;> omega)) _))) (by omega)) (by simp [Act.eval]) (by simp [Act.eval]) (by omega) (by first | omega | (simp <;> omega)) ?_
              intro v8 w8 hA8
              have hb8 : Below W5.heap.size W5 w8 := (show Below W5.heap.size W5 _ from (by repeat (first | with_reducible exact Below.refl _ _ | refine Below.drew ?_ | refine Below.alloc ?_ (by first | omega | (simp <;> omega)) _))).trans (below_grown (Below.refl _ _) hA8.grown (fun q hq => by simp [Value.ownBlock] at hq; omega) (by first | omega | (simp <;> omega)))
              have hz8 := hb8.size
              have hn8 : ∀ q u, (entCells [(⟨⟨#[122, 122, 122, 122]⟩, (j : Int)⟩ : LEnt)])[q]? = some u → w8.cell? ((⟨W5.heap.size, 0, none⟩ : Addr).add q) = some u := fun q u hu => by
                rw [addr0]
                exact (hA8.grown.cell_far ⟨W5.heap.size, q, none⟩ (by first | (simp; done) | (simp; omega)) (by simp [Value.ownBlock])).trans (m112 q u hu)
              refine hK.out _ _ ?_ (fun hHeld => ?_)
              · exact XKeep hX5 x5 hb8
              clear hK K
              try simp only [Act.put]
              refine wpAnyH_ready (rs := [12]) (by kernel_rfl) (by simp) ?_
              refine AllReadyH.cons (o := _) rfl (fun K hK => ?_) AllReadyH.nil
              refine step_app_kids _ rfl (.tmp 51) (.tmp 54) rfl W5.heap.size v8 o0.kids [⟨⟨#[122, 122, 122, 122]⟩, (j : Int)⟩] (OwnEnts.of_heap rfl hA8.own) ⟨W5.heap.size, 0, none⟩ 1 1 rfl (by simp [Act.eval]) (by simp [Act.eval]) hn8 (by omega) (by first | omega | (simp <;> omega)) ?_
              intro v12 w12 hA12
              have hb12 : Below W5.heap.size W5 w12 := (show Below W5.heap.size W5 _ from (by repeat (first | with_reducible exact Below.refl _ _ | with_reducible exact hb8 | refine Below.drew ?_ | refine Below.alloc ?_ (by first | omega | (simp <;> omega)) _))).trans (below_grown (Below.refl _ _) hA12.grown (fun q hq => (hA8.own.lt q hq).1) (by first | omega | (simp <;> omega)))
              have hz12 := hb12.size
              obtain ⟨av, cv, hv12⟩ := hA12.own.shape
              generalize hln : (o0.kids ++ [(⟨⟨#[122, 122, 122, 122]⟩, (j : Int)⟩ : LEnt)]).length = ln at hv12
              subst hv12
              have c12 : w12.cell? ⟨g, 3, none⟩ = some (.slice (kv 0).1 o0.kids.length (kv 0).2) := by rw [hb12.cell (by simpa using hg5)]; exact k3
              have f12 : w12.frozen? ⟨g, 3, none⟩ = false := by rw [hb12.frozen (by simpa using hg5)]; exact XS.fz 3
              have hg12 : g < w12.heap.size := by omega
              refine hK.out _ _ ?_ (fun hHeld => ?_)
              · exact XKeep hX5 x5 hb12
              clear hK K
              try simp only [Act.put]
              refine wpAnyH_take (i := 13) (oi := _) (v := ?vt3013) rfl (by kernel_rfl) (by kernel_rfl) (by kernel_rfl) (fun _ _ _ h => h) (Or.inl ⟨by rfl, ?yt3013⟩) (by assumption) ?rt3013
              case yt3013 => (intro w' hSw; (try dsimp only at hSw); go_simp; try with_reducible rfl)
              try simp only [Act.put]
              refine wpAnyH_take (i := 14) (oi := _) (v := ?vt3014) rfl (by kernel_rfl) (by kernel_rfl) (by kernel_rfl) (fun _ _ _ h => h) (Or.inl ⟨by rfl, ?yt3014⟩) (by assumption) ?rt3014
              case yt3014 => (intro w' hSw; (try dsimp only at hSw); go_simp; try with_reducible rfl)
              try simp only [Act.put]
              refine wpAnyH_ready (rs := [15]) (by kernel_rfl) (by simp) ?_
              refine AllReadyH.cons (o := _) rfl (fun K hK => ?_) AllReadyH.nil
              go_simp
              refine hK.out _ _ ?_ (fun hHeld => ?_)
              · rw [World.cell?_setCell_other _ _ _ _ (fun e => by have := congrArg Addr.block e; simp at this; omega)]; exact XKeep hX5 x5 hb12
              clear hK K
              try simp only [Act.put]
              refine wpAnyH_done (by kernel_rfl) ?_ _
              go_wp2_with fail
              go_meet
              exact xdone HL.out XS HO.out.2 HS.out HN.out hbd hlt HKL.out hb12 hA12.own
            · go_simp
              refine hK.out _ _ ?_ (fun hHeld => ?_)
              · exact XKeep hX5 x5 (show Below W5.heap.size W5 _ from (by repeat (first | with_reducible exact Below.refl _ _ | with_reducible exact hb8 | refine Below.drew ?_ | refine Below.alloc ?_ (by first | omega | (simp <;> omega)) _)))
              clear hK K
              try simp only [Act.put]
              refine wpAnyH_ready (rs := [2]) (by kernel_rfl) (by simp) ?_
              refine AllReadyH.cons (o := _) rfl (fun K hK => ?_) AllReadyH.nil
              go_simp
              refine hK.out _ _ ?_ (fun hHeld => ?_)
              · exact XKeep hX5 x5 (show Below W5.heap.size W5 _ from (by repeat (first | with_reducible exact Below.refl _ _ | with_reducible exact hb8 | refine Below.drew ?_ | refine Below.alloc ?_ (by first | omega | (simp <;> omega)) _)))
              clear hK K
              try simp only [Act.put]
              refine wpAnyH_ready (rs := [8]) (by kernel_rfl) (by simp) ?_
              refine AllReadyH.cons (o := _) rfl (fun K hK => ?_) AllReadyH.nil
              refine step_app_ents_any _ rfl (.tmp 45) (.tmp 50) rfl W5.heap.size (W5.heap.size + 1) w.heap.size T (OwnEnts.of_heap (by rfl) p112) (kv 0).1 (kv 0).2 o0.kids.length o0.kids (hE0.below (show Below W5.heap.size W5 _ from (by repeat (first | with_reducible exact Below.refl _ _ | with_reducible exact hb8 | refine Below.drew ?_ | refine Below.alloc ?_ (by first | omega | (simp <;> omega)) _))) (by omega)) (by simp [Act.eval]) (by simp [Act.eval]) (by omega) (by first | omega | (simp <;> omega)) ?_
              intro v8 w8 hA8
              have hb8 : Below W5.heap.size W5 w8 := (show Below W5.heap.size W5 _ from (by repeat (first | with_reducible exact Below.refl _ _ | refine Below.drew ?_ | refine Below.alloc ?_ (by first | omega | (simp <;> omega)) _))).trans (below_grown (Below.refl _ _) hA8.grown (fun q hq => by simp [Value.ownBlock] at hq; omega) (by first | omega | (simp <;> omega)))
              have hz8 := hb8.size
              have hn8 : ∀ q u, (entCells [(⟨⟨#[122, 122, 122, 122]⟩, (j : Int)⟩ : LEnt)])[q]? = some u → w8.cell? ((⟨W5.heap.size, 0, none⟩ : Addr).add q) = some u := fun q u hu => by
                rw [addr0]
                exact (hA8.grown.cell_far ⟨W5.heap.size, q, none⟩ (by first | (simp; done) | (simp; omega)) (by simp [Value.ownBlock])).trans (m112 q u hu)
              refine hK.out _ _ ?_ (fun hHeld => ?_)
              · exact XKeep hX5 x5 hb8
              clear hK K
              try simp only [Act.put]
              refine wpAnyH_ready (rs := [12]) (by kernel_rfl) (by simp) ?_
              refine AllReadyH.cons (o := _) rfl (fun K hK => ?_) AllReadyH.nil
              refine step_app_kids _ rfl (.tmp 51) (.tmp 54) rfl W5.heap.size v8 o0.kids [⟨⟨#[122, 122, 122, 122]⟩, (j : Int)⟩] (OwnEnts.of_heap rfl hA8.own) ⟨W5.heap.size, 0, none⟩ 1 1 rfl (by simp [Act.eval]) (by simp [Act.eval]) hn8 (by omega) (by first | omega | (simp <;> omega)) ?_
              intro v12 w12 hA12
              have hb12 : Below W5.heap.size W5 w12 := (show Below W5.heap.size W5 _ from (by repeat (first | with_reducible exact Below.refl _ _ | with_reducible exact hb8 | refine Below.drew ?_ | refine Below.alloc ?_ (by first | omega | (simp <;> omega)) _))).trans (below_grown (Below.refl _ _) hA12.grown (fun q hq => (hA8.own.lt q hq).1) (by first | omega | (simp <;> omega)))
              have hz12 := hb12.size
              obtain ⟨av, cv, hv12⟩ := hA12.own.shape
              generalize hln : (o0.kids ++ [(⟨⟨#[122, 122, 122, 122]⟩, (j : Int)⟩ : LEnt)]).length = ln at hv12
              subst hv12
              have c12 : w12.cell? ⟨g, 3, none⟩ = some (.slice (kv 0).1 o0.kids.length (kv 0).2) := by rw [hb12.cell (by simpa using hg5)]; exact k3
              have f12 : w12.frozen? ⟨g, 3, none⟩ = false := by rw [hb12.frozen (by simpa using hg5)]; exact XS.fz 3
              have hg12 : g < w12.heap.size := by omega
              refine hK.out _ _ ?_ (fun hHeld => ?_)
              · exact XKeep hX5 x5 hb12
              clear hK K
              try simp only [Act.put]
              refine wpAnyH_take (i := 13) (oi := _) (v := ?vt3413) rfl (by kernel_rfl) (by kernel_rfl) (by kernel_rfl) (fun _ _ _ h => h) (Or.inl ⟨by rfl, ?yt3413⟩) (by assumption) ?rt3413
              case yt3413 => (intro w' hSw; (try dsimp only at hSw); go_simp; try with_reducible rfl)
              try simp only [Act.put]
              refine wpAnyH_take (i := 14) (oi := _) (v := ?vt3414) rfl (by kernel_rfl) (by kernel_rfl) (by kernel_rfl) (fun _ _ _ h => h) (Or.inl ⟨by rfl, ?yt3414⟩) (by assumption) ?rt3414
              case yt3414 => (intro w' hSw; (try dsimp only at hSw); go_simp; try with_reducible rfl)
              try simp only [Act.put]
              refine wpAnyH_ready (rs := [15]) (by kernel_rfl) (by simp) ?_
              refine AllReadyH.cons (o := _) rfl (fun K hK => ?_) AllReadyH.nil
              go_simp
              refine hK.out _ _ ?_ (fun hHeld => ?_)
              · rw [World.cell?_setCell_other _ _ _ _ (fun e => by have := congrArg Addr.block e; simp at this; omega)]; exact XKeep hX5 x5 hb12
              clear hK K
              try simp only [Act.put]
              refine wpAnyH_done (by kernel_rfl) ?_ _
              go_wp2_with fail
              go_meet
              exact xdone HL.out XS HO.out.2 HS.out HN.out hbd hlt HKL.out hb12 hA12.own
        case rest =>
          obtain ⟨L6, x6, hX6, os', HOB', hbad, hsz⟩ := hcut
          have HOB : Hid (ObjsAt wc w.heap.size wc.heap.size (some ⟨g, 0, none⟩) 32 os') := HOB'
          have HBAD : Hid (specOk os' = false) := hbad
          have HSZ : Hid (Sizes os' 1048576) := hsz
          clear HOB' hbad hsz XS x5 hX5 HL q3 hz3 k3 hE0 e0
          go_wp2_with fail
          refine (implTreeOk _ _ _ _ w.heap.size wc.heap.size _ (Nat.le_refl _) HOB.out).mono ?_
          rintro e W7 ⟨rfl, hb7⟩
          have S7 := L6.next hb7
          rw [HBAD.out]
          have x7 : W7.cell? ⟨X, 0, none⟩ = some (.slice (some ⟨g, 0, none⟩) 32 cap) := by rw [hb7.cell (by simpa using hX6)]; exact x6
          have HOB7 := HOB.out.below hb7 (Nat.le_refl _)
          have hs7 := hb7.size
          go_wp2_with fail
          refine (implFind _ _ _ _ w.heap.size wc.heap.size _ _ _ (by simp [maxLen, ByteArray.size]) HSZ.out hs7 HOB7).mono ?_
          rintro e W8 ⟨rfl, hb8⟩
          have S8 := S7.next hb8
          rw [tf_no HBAD.out]
          go_wp2_with fail
          go_roundg (32 - (j + 1))
          case measure => have := hg.out; omega
          case rel => exact ⟨j + 1, by omega, rfl, by go_num, S8⟩
    · have hltI : ¬ (j : Int) < 32 := by omega
      obtain ⟨o0, ho0⟩ : ∃ o0, os[0]? = some o0 := ⟨os[0]'(by have := HN.out; omega), by simp⟩
      have HO : Hid (os[0]? = some o0) := ho0
      clear ho0
      go_wp2_with (first
        | (at_builtin; refine wpList_app_objs _ rfl (.tmp 70) (.tmp 72) rfl wr.heap.size wr.heap.size b 32 c2 w.heap.size T os kv (by simpa using World.ownsRow_lit (base := wr.heap.size) (e := 34) (size := 4) wr #[] 0 (Nat.le_refl _) (by simp [maxLen]) rfl) HN.out.symm (by omega) (by omega) rfl rfl (HK.out.below ((Below.refl _ _).alloc (Nat.le_refl _) _) (by omega) (by omega)) (by simp) (by omega) ?_)
        | go_in)
      intro g cap W4 hown hK4 hb4 hg1 hg2
      have XS := XSt.start HL.out hown hK4 (((Below.refl _ _).alloc (Nat.le_refl _) _).trans hb4) hg1 hg2
      clear hown hK4 hb4 hg1 hg2 HK hbT
      go_upto_region 16 with fail
      generalize hW5 : W4.alloc (Obj.cells #[.slice (some ⟨g, 0, none⟩) 32 cap] 25) = W5 at *
      generalize hXq : W4.heap.size = X at *
      clear hW5 hXq
      obtain ⟨_, e0, e1, e2, e3, _⟩ := XS.kt.at_ 0 o0 HO.out
      have x5 := XS.x
      have hX5 := XS.lt
      have hgX := XS.mid
      have hg5 : g < W5.heap.size := by omega
      have HBAD : Hid (specOk (os.set 0 ⟨0, 0, ⟨#[]⟩, []⟩) = false) := bent_top os
      have f0 := XS.fz (0 * 4)
      have f1 := XS.fz (0 * 4 + 1)
      have f2 := XS.fz (0 * 4 + 2)
      have f3 := XS.fz (0 * 4 + 3)
      have hB6 : Below g W5 (put4 W5 g 0 0 0) := put4_below 0 0 0 (Below.refl _ _) (Nat.le_refl _)
      have HOB : Hid (ObjsAt (put4 W5 g 0 0 0) w.heap.size (put4 W5 g 0 0 0).heap.size (some ⟨g, 0, none⟩) 32 (os.set 0 ⟨0, 0, ⟨#[]⟩, []⟩)) := by
        have hlo5 := XS.lo
        exact (XS.kt.put4 HO.out (by omega) 0 0).objs (by simp [HN.out]) le1000 (by omega) (by rw [put4_size]; omega) (by rw [put4_size]; omega)
      have L6 : LSt w (put4 W5 g 0 0 0) T b 32 c2 os := HL.out.next (XS.bel.trans (hB6.mono XS.lo))
      have x6 : (put4 W5 g 0 0 0).cell? ⟨X, 0, none⟩ = some (.slice (some ⟨g, 0, none⟩) 32 cap) := by rw [World.cell?_of_block (w := W5) (put4_block W5 g 0 0 0 (by show X ≠ g; omega))]; exact x5
      have hX6 : X < (put4 W5 g 0 0 0).heap.size := by rw [put4_size]; exact hX5
      simp only [Nat.zero_mul, Nat.zero_add] at e0 e1 e2 e3 f0 f1 f2 f3
      go_upto_region 17 with fail
      change Code.wp _ _ _ _ (put4 W5 g 0 0 0)
      generalize put4 W5 g 0 0 0 = W6 at *
      clear e0 e1 e2 e3 f0 f1 f2 f3 hB6 XS x5 hX5 HL q3 hz3
      go_wp2_with fail
      refine (implTreeOk _ _ _ _ w.heap.size W6.heap.size _ (Nat.le_refl _) HOB.out).mono ?_
      rintro e W7 ⟨rfl, hb7⟩
      have S7 := L6.next hb7
      rw [HBAD.out]
      have x7 : W7.cell? ⟨X, 0, none⟩ = some (.slice (some ⟨g, 0, none⟩) 32 cap) := by rw [hb7.cell (by simpa using hX6)]; exact x6
      have HOB7 := HOB.out.below hb7 (Nat.le_refl _)
      have hs7 := hb7.size
      go_wp2_with fail
      refine (implPath _ _ _ _ w.heap.size W6.heap.size _ _ hs7 HOB7).mono ?_
      rintro e W8 ⟨rfl, hb8⟩
      have S8 := S7.next hb8
      rw [pathV_no HBAD.out]
      go_wp2_with fail
      go_ret
      exact ⟨rfl, S8.below⟩
end Go.Proofs.Ytjenldenggaljaa
