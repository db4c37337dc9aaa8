/- Lemmas that the proofs of this seat share: CloneA, InsA, OkF, ActOk, ActOkB. -/
import Derived.Test.YtnolbfijcnldjaaGreatDoorU09
import Derived.Test.YtnolbfijcnldjaaGreatDoorU03
import Derived.Deep.Upon
import Derived.Test.YtnolbfijcnldjaaGreatDoorU08
import Derived.Laws.CopyRow
import Derived.Lib.AppendZerosOnto
import Derived.Lib.Overlaps
import Derived.Test.YtnolbfijcnldjaaGreatDoorU15
import Derived.Test.YtnolbfijcnldjaaGreatDoorU10
import Derived.Test.YtnolbfijcnldjaaGreatDoorU15
/- A copy of objects, and of names, of the call's own. -/
namespace Go.Proofs.YtnolbfijcnldjaaGreatDoor
open Go.RowKit

theorem OwnT.base' {w : World} {B B' b c : Nat} {os : List LObj} {vs : Nat → Value} (h : OwnT w B b c os vs) (hB : B' ≤ B) : OwnT w B' b c os vs :=
  ⟨by have := h.lo; omega, h.row, fun i o ho => by
    obtain ⟨h1, h2, h3, h4, h5, h6, h7⟩ := h.at_ i o ho
    refine ⟨h1, h2, h3, h4, h5, ⟨h6.1, ?_⟩, h7⟩
    rcases h6.2 with h | ⟨g, cap, cur, q1, q2, q3⟩
    · exact .inl h
    · exact .inr ⟨g, cap, cur, q1, by omega, q3⟩, h.apart⟩

/-- What an append of names onto nothing leaves. -/
def NewEnts (w w' : World) (B : Nat) (v : Value) (es : List LEnt) : Prop := OwnEnts w' B v es ∧ w.grownBy w' none ∧ (v.ownBlock = none ∨ v.ownBlock = some w.heap.size)
theorem run_app_new (w : World) (ty : TypeId) (B m c : Nat) (ka : Option Addr) (es : List LEnt) (hm : m = es.length) (hB : B ≤ w.heap.size) (hbd : m ≤ 1048576)
    (hsrc : m ≠ 0 → ∃ ad, ka = some ad ∧ ∀ j u, (entCells es)[j]? = some u → w.cell? (ad.add j) = some u) :
    ∃ a' c' w', (Builtin.append_ #[36, 36] ty #[.slice none 0 0, .slice ka m c]).run Tryz.prog w = .ok (.slice a' m c') w' ∧ NewEnts w w' B (.slice a' m c') es := by
  obtain ⟨i0, hi, hz0, hz1, hz2⟩ := info_parts info47'
  by_cases h0 : m = 0
  · subst h0
    obtain rfl : es = [] := List.eq_nil_of_length_eq_zero hm.symm
    have hs : Src Tryz.prog i0.size 36 (.slice ka 0 c) 0 [] w := by
      cases ka with
      | none => exact Src.ofNil w Tryz.underlying36 c
      | some ad => exact Src.ofSlice w Tryz.underlying36 ad 0 c [] (by simp) (fun j u hu => by simp at hu) (fun u hu => by simp at hu)
    exact ⟨none, 0, w, run_append_nothing (P := Tryz.prog) w 36 36 ty 53 i0 Tryz.underlying36 hi none 0 0 (Nat.le_refl _) _ hs, OwnEnts.bare w B, World.grownBy.refl w none, .inl rfl⟩
  · obtain ⟨ad, rfl, hc⟩ := hsrc h0
    obtain ⟨v', w', hr, h2, h3, h4, h5⟩ := run_append_own_at (P := Tryz.prog) w B 36 ty 53 i0 _ 2 24 Tryz.underlying36 hi hz0 hz1 hz2 rfl (by decide) _ _ _ (OwnEnts.bare w B) ad m c (entCells es) (by rw [entCells_len, hm]) hc (entCells_one _) (by unfold maxLen; simp; omega) (by simp; omega) hB
    have h2' := h2
    rcases h2.2 with ⟨hv, _⟩ | ⟨g', cap', cur, rfl, hb, hg, _⟩
    · exact absurd (h4.1 hv).2 h0
    · have h5' : g' = w.heap.size := by simpa [Value.ownBlock] using h5
      simp only [List.length_nil, Nat.zero_add] at hr h2'
      refine ⟨_, _, _, hr, ?_, by simpa [Value.ownBlock] using h3, .inr (by simp [Value.ownBlock, h5'])⟩
      unfold OwnEnts
      rw [← hm]
      simpa [entCells] using h2'
theorem wpList_app_new (w : World) {ops : Array Oper} {rest : List Oper} {o : Oper} {a : Act} {Q : Exit → Act → World → Prop} (hgd : o.guard = none) (s x : Operand)
    (ho : o.op = .call { callee := .builtin .append, args := #[s, x], argTypes := #[36, 36] }) (B m c : Nat) (ka : Option Addr) (es : List LEnt) (hs : a.eval s = .slice none 0 0) (hx : a.eval x = .slice ka m c) (hm : m = es.length) (hB : B ≤ w.heap.size) (hbd : m ≤ 1048576)
    (hsrc : m ≠ 0 → ∃ ad, ka = some ad ∧ ∀ j u, (entCells es)[j]? = some u → w.cell? (ad.add j) = some u)
    (h : ∀ a' c' w', NewEnts w w' B (.slice a' m c') es → wpList Tryz.prog ops Q rest (a.put o.dst (.slice a' m c')) w') : wpList Tryz.prog ops Q (o :: rest) a w :=
  wpList_plain hgd fun _ hK => by
    obtain ⟨a', c', w', hr, h2⟩ := run_app_new w o.type B m c ka es hm hB hbd hsrc
    unfold Oper.wp execOp
    simp only [ho, resolve, invoke, builtin, Sem.run_bind, Sem.run_pure, Result.andThen_ok, List.map_toArray, List.map_cons, List.map_nil, hs, hx, hr]
    exact hK _ _ (h a' c' w' h2)

theorem objCells_one (os : List LObj) (vs : Nat → Value) (h : ∀ i, (vs i).oneCell' = true) : ∀ k, ∀ u ∈ objCells os vs k, u.oneCell' = true
  | 0, u, hu => by simp [objCells] at hu
  | k + 1, u, hu => by
    simp only [objCells, List.mem_append] at hu
    rcases hu with hu | hu
    · exact objCells_one os vs h k u hu
    · cases ho : os[k]? with
      | none => simp [ho] at hu
      | some o =>
        simp [ho] at hu
        rcases hu with rfl | rfl | rfl | rfl
        · rfl
        · rfl
        · rfl
        · exact h k
theorem objCells_get (os : List LObj) (vs : Nat → Value) (k j : Nat) (u : Value) (hk : k ≤ os.length) (h : (objCells os vs k)[j]? = some u) : ∃ i o, os[i]? = some o ∧ i < k ∧ ((j = i * 4 ∧ u = .int .i64 o.kind) ∨ (j = i * 4 + 1 ∧ u = .int .i64 o.ver) ∨ (j = i * 4 + 2 ∧ u = .string o.text) ∨ (j = i * 4 + 3 ∧ u = vs i)) := by
  have hl := (List.getElem?_eq_some_iff.1 h).1
  rw [objCells_len os vs k hk] at hl
  have hi : j / 4 < k := by omega
  have ho : os[j / 4]? = some (os[j / 4]'(by omega)) := by simp [show j / 4 < os.length by omega]
  obtain ⟨h0, h1, h2, h3⟩ := objCells_at os vs k hk (j / 4) _ hi ho
  refine ⟨j / 4, _, ho, hi, ?_⟩
  have hr : j % 4 = 0 ∨ j % 4 = 1 ∨ j % 4 = 2 ∨ j % 4 = 3 := by omega
  rcases hr with hr | hr | hr | hr
  · have e : j = j / 4 * 4 := by omega
    rw [← e, h] at h0
    exact .inl ⟨e, by simpa using h0⟩
  · have e : j = j / 4 * 4 + 1 := by omega
    rw [← e, h] at h1
    exact .inr (.inl ⟨e, by simpa using h1⟩)
  · have e : j = j / 4 * 4 + 2 := by omega
    rw [← e, h] at h2
    exact .inr (.inr (.inl ⟨e, by simpa using h2⟩))
  · have e : j = j / 4 * 4 + 3 := by omega
    rw [← e, h] at h3
    exact .inr (.inr (.inr ⟨e, by simpa using h3⟩))

/-- What the names of the objects are, as values. -/
structure KidsV (w : World) (L U : Nat) (os : List LObj) (ks : Nat → Value) : Prop where
  one : ∀ i, (ks i).oneCell' = true
  at_ : ∀ i o, os[i]? = some o → o.text.size ≤ maxLen ∧ ∃ ka kc, ks i = .slice ka o.kids.length kc ∧ EntsAt w L U ka o.kids.length o.kids
theorem ks_of {w : World} {L U n : Nat} {a : Option Addr} {os : List LObj} (H : ObjsAt w L U a n os) (hn : n ≠ 0) : ∃ b off ks, a = some ⟨b, off, none⟩ ∧ L ≤ b ∧ b < U ∧ (∀ j u, (objCells os ks n)[j]? = some u → w.cell? ((⟨b, off, none⟩ : Addr).add j) = some u) ∧ KidsV w L U os ks := by
  obtain ⟨b, off, ha, hL, hU, hc⟩ := H.at_ hn
  obtain ⟨l, hl, hp⟩ := list_of (n := n) (p := fun i (v : Value) => ∃ o ka kc, os[i]? = some o ∧ v = .slice ka o.kids.length kc ∧ o.text.size ≤ maxLen ∧ w.cell? ⟨b, off + i * 4, none⟩ = some (.int .i64 o.kind) ∧ w.cell? ⟨b, off + i * 4 + 1, none⟩ = some (.int .i64 o.ver) ∧ w.cell? ⟨b, off + i * 4 + 2, none⟩ = some (.string o.text) ∧ w.cell? ⟨b, off + i * 4 + 3, none⟩ = some v ∧ EntsAt w L U ka o.kids.length o.kids) (fun i hi => by
    obtain ⟨o, ka, kn, kc, q1, q2, q3, q4, q5, q6, q7⟩ := hc i hi
    have hk := q7.len
    subst hk
    exact ⟨_, o, ka, kc, q1, rfl, q2, q3, q4, q5, q6, q7⟩)
  have hlen := H.len
  refine ⟨b, off, fun i => (l[i]?).getD (.slice none 0 0), ha, hL, hU, fun j u hu => ?_, fun i => ?_, fun i o ho => ?_⟩
  · obtain ⟨i, o, ho, hi, h⟩ := objCells_get os _ n j u (by omega) hu
    obtain ⟨v, hv, o', ka, kc, q1, q2, q3, q4, q5, q6, q7, q8⟩ := hp i hi
    rw [ho] at q1
    cases q1
    have hadd : (⟨b, off, none⟩ : Addr).add j = ⟨b, off + j, none⟩ := by unfold Addr.add; split <;> simp_all
    rw [hadd]
    rcases h with ⟨rfl, rfl⟩ | ⟨rfl, rfl⟩ | ⟨rfl, rfl⟩ | ⟨rfl, rfl⟩
    · exact q4
    · exact q5
    · exact q6
    · simpa [hv, Nat.add_assoc] using q7
  · by_cases hi : i < n
    · obtain ⟨v, hv, o', ka, kc, q1, rfl, _⟩ := hp i hi
      simp [hv, Value.oneCell']
    · have : l[i]? = none := by simp [hl]; omega
      simp [this, Value.oneCell']
  · have hi : i < n := by rw [hlen]; exact (List.getElem?_eq_some_iff.1 ho).1
    obtain ⟨v, hv, o', ka, kc, q1, rfl, q3, q4, q5, q6, q7, q8⟩ := hp i hi
    rw [ho] at q1
    cases q1
    exact ⟨q3, ka, kc, by simp [hv], q8⟩

def CloneEnd (w : World) (n : Nat) (xs : List Value) (e : Ending) (w' : World) : Prop := (∃ g cap, e = .returned (.slice (some ⟨g, 0, none⟩) n cap) ∧ w'.ownsRow w.heap.size 38 4 (.slice (some ⟨g, 0, none⟩) n cap) n xs) ∧ Below w.heap.size w w'
set_option maxRecDepth 100000 in
theorem copy_objs (b off n c : Nat) (os : List LObj) (ks : Nat → Value) (w : World) (hn : n = os.length) (h0 : 0 < n) (hbd : n ≤ 1048576) (hk1 : ∀ i, (ks i).oneCell' = true) (hc : ∀ j u, (objCells os ks n)[j]? = some u → w.cell? ((⟨b, off, none⟩ : Addr).add j) = some u) :
    Calls Tryz.prog 138 #[.slice (some ⟨b, off, none⟩) n c] w fun e w' => CloneEnd w n (objCells os ks n) e w' := by
  obtain ⟨i0, hi, hq0, hq1, hq2⟩ := info_parts info34'
  have HL : Hid ((objCells os ks n).length = n * 4) := objCells_len os ks n (by omega)
  have H1 : Hid (∀ u ∈ objCells os ks n, u.oneCell' = true) := objCells_one os ks hk1 n
  have HC : Hid (∀ j u, (objCells os ks n)[j]? = some u → w.cell? ((⟨b, off, none⟩ : Addr).add j) = some u) := hc
  clear hc hn
  go_enter Tryz.func138, Tryz.ntmps138
  go_wp2_with (first
    | (at_builtin; refine wpList_append_lies _ rfl (.const (.slice none 0 0)) (.tmp 3) 23 rfl w.heap.size 38 i0 _ 4 56 Tryz.underlying23 hi hq0 hq1 hq2 rfl (by decide) _ 0 [] rfl (World.ownsRow_nil _ _ _ _) ⟨b, off, none⟩ n c (objCells os ks n) rfl HL.out ?c1 H1.out h0 ?c4 ?c5 ?c6 _ rfl ?_)
    | go_in)
  case c1 => exact fun j u hu => HC.out j u hu
  case c4 => unfold maxLen; omega
  case c5 => omega
  case c6 => simp
  intro g cap w1 hown hgrow hat hlt
  have hbel : Below w.heap.size w w1 := below_grown (Below.refl _ _) hgrow (fun k hk => by simp [Value.ownBlock] at hk) (Nat.le_refl _)
  have hown' : Hid (w1.ownsRow w.heap.size 38 4 (.slice (some ⟨g, 0, none⟩) n cap) n (objCells os ks n)) := by show World.ownsRow _ _ _ _ _ _ _; simpa using hown
  clear hown hgrow hat hlt
  go_wp2_with fail
  go_ret
  exact ⟨⟨g, cap, by simp, hown'.out⟩, hbel⟩
theorem copy_ents (B : Nat) (ka : Option Addr) (m c : Nat) (es : List LEnt) (L U : Nat) (w : World) (hB : B ≤ w.heap.size) (hbd : m ≤ 1048576) (H : EntsAt w L U ka m es) :
    Calls Tryz.prog 139 #[.slice ka m c] w fun e w' => ∃ a' c', e = .returned (.slice a' m c') ∧ NewEnts w w' B (.slice a' m c') es := by
  have HE : Hid (EntsAt w L U ka m es) := H
  have hm := H.len
  have HM : Hid (m = es.length) := hm
  clear H hm
  go_enter Tryz.func139, Tryz.ntmps139
  go_wp2_with (first
    | (at_builtin; refine wpList_app_new _ rfl (.const (.slice none 0 0)) (.tmp 3) rfl B _ _ _ es rfl rfl HM.out hB hbd ?c2 ?_)
    | go_in)
  case c2 =>
    intro hne
    obtain ⟨kb, koff, rfl, _, _, hkc⟩ := HE.out.at_ hne
    exact ⟨_, rfl, ents_cells HM.out hkc⟩
  intro a' c' w2 hnew
  have HN : Hid (NewEnts w w2 B (.slice a' m c') es) := hnew
  clear hnew
  go_wp2_with fail
  go_ret
  exact ⟨a', c', rfl, HN.out⟩
end Go.Proofs.YtnolbfijcnldjaaGreatDoor

/- Rows of names that are spliced: copy of elements of two cells; the plain lists. -/
namespace Go.Proofs.YtnolbfijcnldjaaGreatDoor
open Go.RowKit

def splice (l : List Value) (o : Nat) (cs : List Value) : List Value := l.take o ++ cs ++ l.drop (o + cs.length)
theorem splice_len (l : List Value) (o : Nat) (cs : List Value) (h : o + cs.length ≤ l.length) : (splice l o cs).length = l.length := by
  simp [splice]; omega
theorem splice_get (l : List Value) (o : Nat) (cs : List Value) (h : o + cs.length ≤ l.length) (j : Nat) : (splice l o cs)[j]? = if j < o then l[j]? else if j < o + cs.length then cs[j - o]? else l[j]? := by
  have h1 : min o l.length = o := by omega
  unfold splice
  by_cases ha : j < o
  · rw [List.append_assoc, List.getElem?_append_left (by simp; omega), if_pos ha, List.getElem?_take, if_pos ha]
  · rw [if_neg ha]
    by_cases hb : j < o + cs.length
    · rw [if_pos hb, List.append_assoc, List.getElem?_append_right (by simp; omega), List.getElem?_append_left (by simp; omega)]
      simp [h1]
    · rw [if_neg hb, List.getElem?_append_right (by simp; omega), List.getElem?_drop]
      congr 1
      simp [h1]
      omega
/-- Shifted up by two, and two put in. -/
theorem splice_shift (l E : List Value) (p : Nat) (u v : Value) (hp : p ≤ E.length) (hl : E.length + 2 ≤ l.length) (hE : l.take E.length = E) :
    (splice (splice l (p + 2) (E.drop p)) p [u, v]).take (E.length + 2) = E.take p ++ [u, v] ++ E.drop p := by
  have hget : ∀ j, j < E.length → l[j]? = E[j]? := fun j hj => by rw [← hE]; simp [hj]
  apply List.ext_getElem?
  intro j
  rw [List.getElem?_take]
  by_cases h0 : j < E.length + 2
  · rw [if_pos h0, splice_get _ _ _ (by rw [splice_len _ _ _ (by simp; omega)]; simp; omega), splice_get _ _ _ (by simp; omega)]
    by_cases h1 : j < p
    · rw [if_pos h1, if_pos (by omega), List.append_assoc, List.getElem?_append_left (by simp; omega), List.getElem?_take, if_pos h1]
      exact hget j (by omega)
    · rw [if_neg h1]
      by_cases h2 : j < p + 2
      · rw [if_pos (by simpa using h2), List.append_assoc, List.getElem?_append_right (by simp; omega), List.getElem?_append_left (by simp; omega)]
        simp [show min p E.length = p by omega]
      · rw [if_neg (by simpa using h2), if_neg h2, if_pos (by simp; omega), List.getElem?_append_right (by simp; omega)]
        congr 1
        simp [show min p E.length = p by omega]
  · rw [if_neg h0]
    symm
    apply List.getElem?_eq_none
    simp; omega
/-- A new row: what was ahead, two, what was behind. -/
theorem splice_new (l E : List Value) (p : Nat) (u v : Value) (hp : p ≤ E.length) (hl : E.length + 2 ≤ l.length) (hE : l.take p = E.take p) :
    (splice (splice l p [u, v]) (p + 2) (E.drop p)).take (E.length + 2) = E.take p ++ [u, v] ++ E.drop p := by
  have hget : ∀ j, j < p → l[j]? = E[j]? := fun j hj => by
    have h1 : (l.take p)[j]? = (E.take p)[j]? := by rw [hE]
    simpa [List.getElem?_take, hj] using h1
  apply List.ext_getElem?
  intro j
  rw [List.getElem?_take]
  by_cases h0 : j < E.length + 2
  · rw [if_pos h0, splice_get _ _ _ (by rw [splice_len _ _ _ (by simp; omega)]; simp; omega), splice_get _ _ _ (by simp; omega)]
    by_cases h1 : j < p
    · rw [if_pos (by omega), if_pos h1, List.append_assoc, List.getElem?_append_left (by simp; omega), List.getElem?_take, if_pos h1]
      exact hget j (by omega)
    · by_cases h2 : j < p + 2
      · rw [if_pos h2, if_neg h1, if_pos (by simpa using h2), List.append_assoc, List.getElem?_append_right (by simp; omega), List.getElem?_append_left (by simp; omega)]
        simp [show min p E.length = p by omega]
      · rw [if_neg h2, if_pos (by simp; omega), List.getElem?_append_right (by simp; omega)]
        congr 1
        simp [show min p E.length = p by omega]
  · rw [if_neg h0]
    symm
    apply List.getElem?_eq_none
    simp; omega

theorem entCells_take (es : List LEnt) (k : Nat) : (entCells es).take (k * 2) = entCells (es.take k) := by
  by_cases hk : k ≤ es.length
  · have e1 : entCells es = entCells (es.take k) ++ entCells (es.drop k) := by rw [← entCells_app, List.take_append_drop]
    rw [e1, List.take_left' (by rw [entCells_len]; simp; omega)]
  · rw [List.take_of_length_le (by rw [entCells_len]; omega), List.take_of_length_le (by omega)]
theorem entCells_drop (es : List LEnt) (k : Nat) : (entCells es).drop (k * 2) = entCells (es.drop k) := by
  by_cases hk : k ≤ es.length
  · have e1 : entCells es = entCells (es.take k) ++ entCells (es.drop k) := by rw [← entCells_app, List.take_append_drop]
    rw [e1, List.drop_left' (by rw [entCells_len]; simp; omega)]
  · rw [List.drop_of_length_le (by rw [entCells_len]; omega), List.drop_of_length_le (by omega)]
    rfl
theorem entCells_ins (es : List LEnt) (k : Nat) (x : LEnt) : (entCells es).take (k * 2) ++ [.string x.name, .int .i64 x.id] ++ (entCells es).drop (k * 2) = entCells (es.take k ++ [x] ++ es.drop k) := by
  rw [entCells_take, entCells_drop, entCells_app, entCells_app]
  simp [entCells]

theorem run_copy_row2 {P : Program} (w : World) (dT sT ty elem : TypeId) (g o dLen dCap : Nat) (a : Addr) (sLen sCap : Nat) (cur : Array Value) (t : TypeId) (cs : List Value)
    (hu : P.underlying dT = some (.slice elem)) (hs : (P.info? elem).map (·.size) = some 2)
    (hg : w.heap[g]? = some (.cells cur t (0, 0))) (hn : cs.length = Nat.min sLen dLen * 2)
    (hsrc : ∀ j v, cs[j]? = some v → w.cell? (a.add j) = some v) (hfit : o + cs.length ≤ cur.size) (h1 : ∀ v ∈ cs, v.oneCell' = true) :
    (Builtin.copy_ #[dT, sT] ty #[.slice (some ⟨g, o, none⟩) dLen dCap, .slice (some a) sLen sCap]).run P w =
      .ok (goInt (Nat.min sLen dLen)) (w.setRow g (splice cur.toList o cs).toArray) := by
  have hl := run_loadCells_list (P := P) w a cs hsrc
  have hst := run_storeCells_at P g o t cs 0 cur w hg (by simpa using hfit) h1
  cases hq : P.info? elem with
  | none => simp [hq] at hs
  | some i =>
    have hi : i.size = 2 := by simpa [hq] using hs
    simp [Builtin.copy_, run_underlying hu, Builtin.lenOf, Builtin.firstCells, sizeOf, typeInfo, hq, hi, ← hn, hl, hst, splice]
theorem wp_copy_run' {P : Program} (w : World) {o : Oper} {a : Act} {K : Act → World → Prop} {Q : Exit → Act → World → Prop} (d s : Operand) (t t' : TypeId)
    (ho : o.op = .call { callee := .builtin .copy, args := #[d, s], argTypes := #[t, t'] }) (v u : Value) (hd : a.eval d = v) (hs : a.eval s = u) {v' : Value} {w' : World}
    (hr : (Builtin.copy_ #[t, t'] o.type #[v, u]).run P w = .ok v' w') (h : K (a.put o.dst v') w') : o.wp P a w K Q := by
  unfold Oper.wp execOp
  simp only [ho, resolve, invoke, builtin, Sem.run_bind, Sem.run_pure, Result.andThen_ok, List.map_toArray, List.map_cons, List.map_nil, hd, hs, hr]
  exact h
theorem wpList_copy_run' {P : Program} (w : World) {ops : Array Oper} {rest : List Oper} {o : Oper} {a : Act} {Q : Exit → Act → World → Prop} (hgd : o.guard = none) (d s : Operand) (t t' : TypeId)
    (ho : o.op = .call { callee := .builtin .copy, args := #[d, s], argTypes := #[t, t'] }) (v u : Value) (hd : a.eval d = v) (hs : a.eval s = u) {v' : Value} {w' : World}
    (hr : (Builtin.copy_ #[t, t'] o.type #[v, u]).run P w = .ok v' w') (h : wpList P ops Q rest (a.put o.dst v') w') : wpList P ops Q (o :: rest) a w :=
  wpList_plain hgd fun _ hK => wp_copy_run' w d s t t' ho v u hd hs hr (hK _ _ h)

theorem setRow_grown {w0 w : World} {g : Nat} {c : Array Value} {row : Option Nat} (h : w0.grownBy w row) (hg : row = some g ∨ w0.heap.size ≤ g) : w0.grownBy (w.setRow g c) row :=
  ⟨h.os, h.tape, h.output, by simpa using h.size, fun k hk hne => by
    rw [setRow_other w g k c (by rcases hg with rfl | hg <;> intro e <;> subst e <;> simp_all <;> omega)]
    exact h.block k hk hne⟩

/-- A row of one's own, its block laid open. -/
theorem OwnEnts.open_ {w : World} {B g n cap : Nat} {es : List LEnt} (h : OwnEnts w B (.slice (some ⟨g, 0, none⟩) n cap) es) : ∃ cur, B ≤ g ∧ w.heap[g]? = some (.cells cur 53 (0, 0)) ∧ n = es.length ∧ n ≤ cap ∧ cap ≤ maxLen ∧ cur.size = cap * 2 ∧ cur.toList.take (n * 2) = entCells es := by
  rcases h.2 with ⟨h', _⟩ | ⟨g', cap', cur, h', hb, hg, hnc, hcm, hcs, htake⟩
  · simp at h'
  · simp only [Value.slice.injEq, Option.some.injEq, Addr.mk.injEq, and_true] at h'
    obtain ⟨rfl, rfl, rfl⟩ := h'
    exact ⟨cur, hb, hg, rfl, hnc, hcm, hcs, htake⟩
theorem OwnEnts.mk_ {w : World} {B g n cap : Nat} {es : List LEnt} {cur : Array Value} (hB : B ≤ g) (hg : w.heap[g]? = some (.cells cur 53 (0, 0))) (hn : n = es.length) (hnc : n ≤ cap) (hcm : cap ≤ maxLen) (hcs : cur.size = cap * 2) (ht : cur.toList.take (n * 2) = entCells es) : OwnEnts w B (.slice (some ⟨g, 0, none⟩) n cap) es := by
  subst hn
  exact ⟨by rw [entCells_len], .inr ⟨g, cap, cur, rfl, hB, hg, hnc, hcm, hcs, ht⟩⟩

/-! The place of a name. -/
def PlaceEnd (es : List LEnt) (name : ByteArray) (e : Ending) : Prop := ∃ (x : Nat) (b : Bool), e = .returned (.tuple #[.int .i64 x, .bool b]) ∧ x ≤ es.length ∧ Low es name x ∧ High es name x
theorem placeL_of {es : List LEnt} {name : ByteArray} {x : Nat} (hx : x ≤ es.length) (hl : Low es name x) (hh : High es name x) : placeL name es = x := by
  induction es generalizing x with
  | nil => simp at hx; subst hx; rfl
  | cons e r ih =>
    by_cases h0 : x = 0
    · subst h0
      have h := hh 0 (Nat.le_refl _) e rfl
      have hn : lessN name e = false := by
        rw [Bool.eq_false_iff]
        intro h1
        unfold lessN at h1
        rw [Go.ByteArray.toList_eq, Go.ByteArray.toList_eq] at h1
        exact h ((cmp_less _ _).2 h1)
      simp [placeL, hn]
    · obtain ⟨y, rfl⟩ : ∃ y, x = y + 1 := ⟨x - 1, by omega⟩
      have h := hl 0 (by omega) e rfl
      have hn : lessN name e = true := by
        unfold lessN
        rw [Go.ByteArray.toList_eq, Go.ByteArray.toList_eq]
        exact (cmp_less _ _).1 h
      have h2 := ih (x := y) (by simpa using hx) (fun i hi e' he => hl (i + 1) (by omega) e' (by simpa using he)) (fun i hi e' he => hh (i + 1) (by omega) e' (by simpa using he))
      simp only [placeL] at h2 ⊢
      simp [hn, h2]
theorem putL_of {es : List LEnt} {x : LEnt} {k : Nat} (hk : k ≤ es.length) (hl : Low es x.name k) (hh : High es x.name k) : putL x es = es.take k ++ [x] ++ es.drop k := by
  unfold putL; rw [placeL_of hk hl hh]
/-- The name that is there is at its place. -/
theorem place_there {es : List LEnt} {name : ByteArray} {x k : Nat} {e : LEnt} (ha : Asc es) (hl : Low es name x) (hh : High es name x) (hk : es[k]? = some e) (hn : e.name = name) : x = k := by
  have hz : ¬ Lib.compareBytes (nm e) name.data.toList < 0 := by
    rw [cmp_less, ← hn]
    intro h
    exact absurd (show Op.bytesLess e.name.data.toList e.name.data.toList = true from h) (by rw [less_self]; simp)
  rcases Nat.lt_trichotomy x k with h | h | h
  · obtain ⟨y, hy⟩ : ∃ y, es[x]? = some y := ⟨es[x]'(by have := (List.getElem?_eq_some_iff.1 hk).1; omega), by simp⟩
    have h1 := ha x k y e h hy hk
    have h2 := hh x (Nat.le_refl _) y hy
    rw [cmp_less, ← hn] at h2
    exact absurd h1 h2
  · exact h
  · exact absurd (hl k h e hk) hz
theorem outL_of {es : List LEnt} {name : ByteArray} {k : Nat} {e : LEnt} (ha : Asc es) (hk : es[k]? = some e) (hn : e.name = name) : outL name es = es.take k ++ es.drop (k + 1) := by
  have hlt := (List.getElem?_eq_some_iff.1 hk).1
  have hne : ∀ i y, es[i]? = some y → i ≠ k → (y.name.toList == name.toList) = false := fun i y hy hik => by
    rw [Go.ByteArray.toList_eq, Go.ByteArray.toList_eq, ← hn]
    rcases Nat.lt_or_gt_of_ne hik with h | h
    · have h1 := ha i k y e h hy hk
      rw [beq_eq_false_iff_ne]
      intro h2
      rw [show nm y = nm e from h2, less_self] at h1
      cases h1
    · have h1 := ha k i e y h hk hy
      rw [beq_eq_false_iff_ne]
      intro h2
      rw [show nm y = nm e from h2, less_self] at h1
      cases h1
  have hsp : es = es.take k ++ e :: es.drop (k + 1) := by
    have h1 : es = es.take k ++ es.drop k := (List.take_append_drop k es).symm
    have h2 : es.drop k = e :: es.drop (k + 1) := by
      rw [List.drop_eq_getElem_cons hlt]
      congr 1
      simpa [hlt] using hk
    rw [← h2]; exact h1
  have hl : outL name (es.take k) = es.take k := List.filter_eq_self.2 fun y hy => by
    obtain ⟨i, hi, rfl⟩ := List.getElem_of_mem hy
    have hi' : i < k := by simp at hi; omega
    have := hne i (es.take k)[i] (by simp [show i < es.length by omega]) (by omega)
    simpa using this
  have hr : outL name (es.drop (k + 1)) = es.drop (k + 1) := List.filter_eq_self.2 fun y hy => by
    obtain ⟨i, hi, rfl⟩ := List.getElem_of_mem hy
    have hi' : k + 1 + i < es.length := by simp at hi; omega
    have := hne (k + 1 + i) (es.drop (k + 1))[i] (by simp [hi']) (by omega)
    simpa using this
  have hm : (e.name.toList == name.toList) = true := by rw [hn]; simp
  calc outL name es = outL name (es.take k ++ e :: es.drop (k + 1)) := by rw [← hsp]
    _ = outL name (es.take k) ++ outL name (e :: es.drop (k + 1)) := by simp [outL, List.filter_append]
    _ = outL name (es.take k) ++ outL name (es.drop (k + 1)) := by
      congr 1
      simp [outL, hm]
    _ = _ := by rw [hl, hr]
end Go.Proofs.YtnolbfijcnldjaaGreatDoor

/- Plain facts about ok trees: what the objects and their names are. -/
namespace Go.Proofs.YtnolbfijcnldjaaGreatDoor

theorem ok_len {os : List LObj} (hs : specOk os = true) : os.length = 32 := by
  simp [specOk] at hs; exact hs.1.1.1
theorem ok_obj {os : List LObj} (hs : specOk os = true) {i : Nat} {o : LObj} (ho : os[i]? = some o) : objB o = true := by
  simp [specOk] at hs
  exact hs.1.2 o (List.mem_of_getElem? ho)
theorem ok_ver {os : List LObj} (hs : specOk os = true) {i : Nat} {o : LObj} (ho : os[i]? = some o) : 0 ≤ o.ver ∧ o.ver ≤ 1000000 := by
  have h := ok_obj hs ho
  simp [objB, verB] at h
  obtain ⟨⟨h1, h2⟩, _⟩ := h
  refine ⟨?_, h2⟩
  split at h1 <;> omega
theorem ok_asc {os : List LObj} (hs : specOk os = true) {i : Nat} {o : LObj} (ho : os[i]? = some o) : Asc o.kids := by
  by_cases h : o.kids = []
  · rw [h]; intro i j x y _ hx _; simp at hx
  · exact asc_of (kids_dir (ok_obj hs ho) h).2
theorem ok_ent {os : List LObj} (hs : specOk os = true) {i : Nat} {o : LObj} (ho : os[i]? = some o) {e : LEnt} (he : e ∈ o.kids) : 0 < e.id ∧ e.id < 32 := by
  have hi := ids_of_ok (t := os) (fun i o h => ok_obj hs h)
  exact hi o (List.mem_of_getElem? ho) e he
theorem pigeonE : ∀ (m : Nat) (l : List LEnt), (∀ e ∈ l, 0 ≤ e.id ∧ e.id < (m : Int)) → (∀ k : Nat, l.countP (fun e => e.id == (k : Int)) ≤ 1) → l.length ≤ m
  | 0, l, h, _ => by
    cases l with
    | nil => simp
    | cons e r => have := h e (by simp); omega
  | m + 1, l, h, hc => by
    have h1 := List.length_eq_countP_add_countP (fun e : LEnt => e.id == (m : Int)) (l := l)
    have h2 := hc m
    have h3 := pigeonE m (l.filter fun e => !(e.id == (m : Int))) (fun e he => by
      have hm := List.mem_filter.1 he
      have := h e hm.1
      have hne : e.id ≠ (m : Int) := by simpa using hm.2
      omega) (fun k => by
      refine Nat.le_trans ?_ (hc k)
      exact List.Sublist.countP_le List.filter_sublist)
    have h4 : l.countP (fun e => !(e.id == (m : Int))) = (l.filter fun e => !(e.id == (m : Int))).length := List.countP_eq_length_filter
    have h5 : l.countP (fun a => decide ¬(a.id == (m : Int)) = true) = l.countP (fun e => !(e.id == (m : Int))) := by
      congr 1; funext e; cases e.id == (m : Int) <;> rfl
    omega
theorem flat_subF : ∀ (os : List LObj) (d i : Nat) (o : LObj), os[i]? = some o → (tagged (d + i) o.kids).Sublist (flatFrom d os)
  | [], _, _, _, h => by simp at h
  | x :: r, d, 0, o, h => by
    simp at h
    subst h
    exact List.sublist_append_left _ _
  | x :: r, d, i + 1, o, h => by
    have ih := flat_subF r (d + 1) i o (by simpa using h)
    rw [show d + (i + 1) = d + 1 + i by omega]
    exact ih.trans (List.sublist_append_right _ _)
theorem flat_sub {os : List LObj} {i : Nat} {o : LObj} (h : os[i]? = some o) : (tagged i o.kids).Sublist (flat os) := by
  have := flat_subF os 0 i o h
  rwa [Nat.zero_add] at this
theorem ok_kids {os : List LObj} (hs : specOk os = true) {i : Nat} {o : LObj} (ho : os[i]? = some o) : o.kids.length ≤ 32 := by
  refine pigeonE 32 o.kids (fun e he => by have := ok_ent hs ho he; omega) (fun k => ?_)
  have hcnt : cnt (flat os) (k : Int) ≤ 1 := by
    by_cases hk : 1 ≤ k ∧ k < 32
    · have h := hs
      simp [specOk] at h
      have h2 := h.2 (k - 1) (by omega)
      rw [show k - 1 + 1 = k by omega] at h2
      unfold specAt at h2
      split at h2 <;> simp at h2 <;> omega
    · have : cnt (flat os) (k : Int) = 0 := by
        unfold cnt
        rw [List.countP_eq_zero]
        intro x hx
        obtain ⟨q, h1, h2, h3⟩ := flat_ids (ids_of_ok (t := os) (fun i o h => ok_obj hs h)) hx
        simp only [beq_iff_eq]
        omega
      omega
  refine Nat.le_trans ?_ hcnt
  unfold cnt
  have hsub : (tagged i o.kids).Sublist (flat os) := flat_sub ho
  have h1 := hsub.countP_le (p := fun x : Nat × LEnt => x.2.id == (k : Int))
  refine Nat.le_trans (Nat.le_of_eq ?_) h1
  unfold tagged
  rw [List.countP_map]
  rfl

theorem findV_or (es : List LEnt) (name : ByteArray) : (findV es name = -1 ∧ ∀ e ∈ es, e.name ≠ name) ∨ ∃ (k : Nat) (e : LEnt), es[k]? = some e ∧ e.name = name ∧ findV es name = e.id := by
  unfold findV
  cases h : es.find? (fun e => sEq e.name name) with
  | none =>
    refine .inl ⟨rfl, fun e he hn => ?_⟩
    have := List.find?_eq_none.1 h e he
    rw [hn] at this
    simp [sEq] at this
  | some e =>
    have h1 := List.find?_some h
    have h2 := List.mem_of_find?_eq_some h
    obtain ⟨k, hk, rfl⟩ := List.getElem_of_mem h2
    exact .inr ⟨k, es[k], by simp [hk], (by
      have h3 : es[k].name.toList = name.toList := by simpa [sEq] using h1
      rw [Go.ByteArray.toList_eq, Go.ByteArray.toList_eq] at h3
      exact Go.WideShapes.bytes_inj h3), rfl⟩
theorem findV_neg {os : List LObj} (hs : specOk os = true) {i : Nat} {o : LObj} (ho : os[i]? = some o) (name : ByteArray) : (findV o.kids name != -1) = decide (0 ≤ findV o.kids name) := by
  rcases findV_or o.kids name with ⟨h, _⟩ | ⟨k, e, he, _, h⟩
  · rw [h]; rfl
  · have := ok_ent hs ho (List.mem_of_getElem? he)
    rw [h]
    simp only [bne]
    have h1 : (e.id == -1) = false := by simp; omega
    have h2 : decide (0 ≤ e.id) = true := by simp; omega
    rw [h1, h2]; rfl
theorem asc_out {es : List LEnt} (ha : Asc es) (name : ByteArray) : Asc (outL name es) := by
  have hp : es.Pairwise (fun x y => Op.bytesLess (nm x) (nm y) = true) := by
    rw [List.pairwise_iff_getElem]
    intro i j hi hj hij
    exact ha i j _ _ hij (by simp [hi]) (by simp [hj])
  have hq := hp.filter (fun e => !(e.name.toList == name.toList))
  intro i j x y hij hx hy
  rw [List.pairwise_iff_getElem] at hq
  obtain ⟨hi, hx'⟩ := List.getElem?_eq_some_iff.1 hx
  obtain ⟨hj, hy'⟩ := List.getElem?_eq_some_iff.1 hy
  have h := hq i j hi hj hij
  have e1 : (es.filter fun e => !(e.name.toList == name.toList))[i] = x := hx'
  have e2 : (es.filter fun e => !(e.name.toList == name.toList))[j] = y := hy'
  rw [e1, e2] at h
  exact h
end Go.Proofs.YtnolbfijcnldjaaGreatDoor

/- What is done leaves a tree: actDo of an ok tree and an ok thing, ending fine, is an ok tree. -/
namespace Go.Proofs.YtnolbfijcnldjaaGreatDoor

/-! ## Counting names -/
def cntE (es : List LEnt) (i : Int) : Nat := es.countP (fun e => e.id == i)
theorem cnt_tagged (d : Nat) (es : List LEnt) (i : Int) : cnt (tagged d es) i = cntE es i := by
  unfold cnt tagged cntE
  rw [List.countP_map]
  rfl
theorem cnt_flatFrom_set : ∀ (os : List LObj) (d k : Nat) (o o' : LObj) (i : Int), os[k]? = some o → cnt (flatFrom d (os.set k o')) i + cntE o.kids i = cnt (flatFrom d os) i + cntE o'.kids i
  | [], _, _, _, _, _, h => by simp at h
  | x :: r, d, 0, o, o', i, h => by
    simp at h
    subst h
    simp only [List.set_cons_zero, flatFrom]
    rw [cnt_append, cnt_append, cnt_tagged, cnt_tagged]
    omega
  | x :: r, d, k + 1, o, o', i, h => by
    have ih := cnt_flatFrom_set r (d + 1) k o o' i (by simpa using h)
    simp only [List.set_cons_succ, flatFrom]
    rw [cnt_append, cnt_append]
    omega
theorem cnt_set {os : List LObj} {k : Nat} {o : LObj} (h : os[k]? = some o) (o' : LObj) (i : Int) : cnt (flat (os.set k o')) i + cntE o.kids i = cnt (flat os) i + cntE o'.kids i := cnt_flatFrom_set os 0 k o o' i h
theorem flatFrom_same : ∀ (os : List LObj) (d k : Nat) (o o' : LObj), os[k]? = some o → o'.kids = o.kids → flatFrom d (os.set k o') = flatFrom d os
  | [], _, _, _, _, h, _ => by simp at h
  | x :: r, d, 0, o, o', h, hk => by
    simp at h
    subst h
    simp only [List.set_cons_zero, flatFrom, hk]
  | x :: r, d, k + 1, o, o', h, hk => by
    have ih := flatFrom_same r (d + 1) k o o' (by simpa using h) hk
    simp only [List.set_cons_succ, flatFrom, ih]
theorem flat_same {os : List LObj} {k : Nat} {o : LObj} (h : os[k]? = some o) (o' : LObj) (hk : o'.kids = o.kids) : flat (os.set k o') = flat os := flatFrom_same os 0 k o o' h hk
theorem mem_flatE {os : List LObj} {d : Nat} {e : LEnt} : (d, e) ∈ flat os ↔ ∃ o, os[d]? = some o ∧ e ∈ o.kids := by
  constructor
  · intro h
    obtain ⟨i, o, k, h1, h2, h3⟩ := mem_flatFrom h
    simp at h3
    subst h3
    exact ⟨o, h1, List.mem_of_getElem? h2⟩
  · rintro ⟨o, h1, h2⟩
    obtain ⟨k, hk, rfl⟩ := List.getElem_of_mem h2
    obtain ⟨r, hr⟩ := flat_at (t := os) (i := d) (k := k) h1 (List.getElem?_eq_getElem hk)
    rw [hr]
    simp
theorem cntE_put (x : LEnt) (es : List LEnt) (i : Int) : cntE (putL x es) i = cntE es i + (if x.id = i then 1 else 0) := by
  unfold cntE putL
  have h : es.countP (fun e => e.id == i) = (es.take (placeL x.name es)).countP (fun e => e.id == i) + (es.drop (placeL x.name es)).countP (fun e => e.id == i) := by
    rw [← List.countP_append, List.take_append_drop]
  rw [List.countP_append, List.countP_append, h]
  simp only [List.countP_cons, List.countP_nil, beq_iff_eq]
  omega
theorem mem_put (x e : LEnt) (es : List LEnt) : e ∈ putL x es ↔ e = x ∨ e ∈ es := by
  unfold putL
  have h : e ∈ es ↔ e ∈ es.take (placeL x.name es) ∨ e ∈ es.drop (placeL x.name es) := by
    rw [← List.mem_append, List.take_append_drop]
  rw [List.mem_append, List.mem_append, h]
  simp
  constructor
  · rintro ((h | h) | h) <;> simp [h]
  · rintro (h | h | h) <;> simp [h]
theorem list_inj {a b : ByteArray} (h : a.toList = b.toList) : a = b := by
  rw [Go.ByteArray.toList_eq, Go.ByteArray.toList_eq] at h
  exact Go.WideShapes.bytes_inj h
theorem mem_out (name : ByteArray) (e : LEnt) (es : List LEnt) : e ∈ outL name es ↔ e ∈ es ∧ e.name ≠ name := by
  unfold outL
  rw [List.mem_filter]
  constructor
  · rintro ⟨h1, h2⟩
    exact ⟨h1, fun h => by rw [h] at h2; simp at h2⟩
  · rintro ⟨h1, h2⟩
    refine ⟨h1, ?_⟩
    simp only [Bool.not_eq_true', beq_eq_false_iff_ne, ne_eq]
    exact fun h => h2 (list_inj h)
theorem asc_pair {es : List LEnt} (h : Asc es) : es.Pairwise (fun x y => Op.bytesLess (nm x) (nm y) = true) := by
  rw [List.pairwise_iff_getElem]
  intro i j hi hj hij
  exact h i j _ _ hij (by simp [hi]) (by simp [hj])
theorem less_irr (a : List UInt8) : Op.bytesLess a a = false := by
  have := less_tri a a
  cases h : Op.bytesLess a a
  · rfl
  · rw [h] at this; simp at this
theorem asc_one {es : List LEnt} (h : Asc es) {x y : LEnt} (hx : x ∈ es) (hy : y ∈ es) (hn : x.name = y.name) : x = y := by
  obtain ⟨i, hi, rfl⟩ := List.getElem_of_mem hx
  obtain ⟨j, hj, rfl⟩ := List.getElem_of_mem hy
  rcases Nat.lt_trichotomy i j with k | k | k
  · have := h i j _ _ k (List.getElem?_eq_getElem hi) (List.getElem?_eq_getElem hj)
    unfold nm at this
    rw [hn, less_irr] at this
    cases this
  · subst k; rfl
  · have := h j i _ _ k (List.getElem?_eq_getElem hj) (List.getElem?_eq_getElem hi)
    unfold nm at this
    rw [hn, less_irr] at this
    cases this
/-- A name that is there is taken out alone. -/
theorem cntE_out {es : List LEnt} (ha : Asc es) {e0 : LEnt} (h0 : e0 ∈ es) (i : Int) : cntE (outL e0.name es) i + (if e0.id = i then 1 else 0) = cntE es i := by
  obtain ⟨k, hk, he⟩ := List.getElem_of_mem h0
  have e1 : es = es.take k ++ e0 :: es.drop (k + 1) := by
    rw [← he, ← List.drop_eq_getElem_cons hk, List.take_append_drop]
  have hout : outL e0.name es = es.take k ++ es.drop (k + 1) := by
    have h1 : (es.take k).filter (fun e => !(e.name.toList == e0.name.toList)) = es.take k := by
      rw [List.filter_eq_self]
      intro x hx
      obtain ⟨j, hj, hxe⟩ := List.mem_take_iff_getElem.1 hx
      have := ha j k x e0 (by omega) (by rw [List.getElem?_eq_some_iff]; exact ⟨by omega, hxe⟩) (by rw [List.getElem?_eq_some_iff]; exact ⟨hk, he⟩)
      simp only [Bool.not_eq_true', beq_eq_false_iff_ne, ne_eq]
      intro hn
      have hn := list_inj hn
      unfold nm at this
      rw [hn, less_irr] at this
      cases this
    have h2 : (es.drop (k + 1)).filter (fun e => !(e.name.toList == e0.name.toList)) = es.drop (k + 1) := by
      rw [List.filter_eq_self]
      intro x hx
      obtain ⟨j, hj, hxe⟩ := List.mem_drop_iff_getElem.1 hx
      have := ha k (k + 1 + j) e0 x (by omega) (by rw [List.getElem?_eq_some_iff]; exact ⟨hk, he⟩) (by rw [List.getElem?_eq_some_iff]; exact ⟨by omega, hxe⟩)
      simp only [Bool.not_eq_true', beq_eq_false_iff_ne, ne_eq]
      intro hn
      have hn := list_inj hn
      unfold nm at this
      rw [hn, less_irr] at this
      cases this
    conv => lhs; rw [e1]
    unfold outL
    rw [List.filter_append, List.filter_cons, h1, h2]
    simp
  rw [hout]
  conv => rhs; rw [e1]
  unfold cntE
  rw [List.countP_append, List.countP_append, List.countP_cons]
  simp only [beq_iff_eq]
  omega

/-! ## Names that ascend -/
theorem kidsB_of {es : List LEnt} (h1 : ∀ e ∈ es, entB e = true) (h2 : es.Pairwise (fun x y => Op.bytesLess (nm x) (nm y) = true)) : kidsB es = true := by
  refine kidsB_yes fun i hi => ?_
  have hx : es[i]? = some es[i] := by simp [hi]
  cases i with
  | zero => exact kidAt_zero hx (h1 _ (List.getElem_mem _))
  | succ j =>
    have hp : es[j]? = some es[j] := by simp
    rw [kidAt_succ hx hp (h1 _ (List.getElem_mem _))]
    rw [List.pairwise_iff_getElem] at h2
    have := h2 j (j + 1) (by omega) hi (by omega)
    unfold nameLess
    rw [Go.ByteArray.toList_eq, Go.ByteArray.toList_eq]
    exact this
theorem kids_ents {es : List LEnt} (h : kidsB es = true) : ∀ e ∈ es, entB e = true := by
  intro e he
  obtain ⟨i, hi, rfl⟩ := List.getElem_of_mem he
  apply Classical.byContradiction
  intro hc
  rw [kidsB_no hi (kidAt_ent (List.getElem?_eq_getElem hi) (by simpa using hc))] at h
  cases h
theorem kidsB_out {es : List LEnt} (h : kidsB es = true) (name : ByteArray) : kidsB (outL name es) = true :=
  kidsB_of (fun e he => kids_ents h e ((mem_out _ _ _).1 he).1) (asc_pair (asc_out (asc_of h) name))
theorem less_no {a b : List UInt8} (h : Op.bytesLess a b = false) (hn : a ≠ b) : Op.bytesLess b a = true := by
  have := less_tri a b
  rw [h] at this
  have hb : (a == b) = false := by simpa using hn
  rw [hb] at this
  simpa using this.symm
theorem kidsB_put {es : List LEnt} (h : kidsB es = true) {x : LEnt} (hx : entB x = true) (hn : ∀ e ∈ es, e.name ≠ x.name) : kidsB (putL x es) = true := by
  refine kidsB_of (fun e he => ?_) ?_
  · rcases (mem_put _ _ _).1 he with rfl | he
    · exact hx
    · exact kids_ents h e he
  · have hp := asc_pair (asc_of h)
    have hsplit : es = es.take (placeL x.name es) ++ es.drop (placeL x.name es) := (List.take_append_drop _ _).symm
    have hp2 := hp
    rw [hsplit, List.pairwise_append] at hp2
    have hlt : ∀ e ∈ es.take (placeL x.name es), Op.bytesLess (nm e) (nm x) = true := by
      intro e he
      have e1 : es.take (placeL x.name es) = es.takeWhile (lessN x.name) := by
        unfold placeL
        exact (List.prefix_iff_eq_take.1 (List.takeWhile_prefix _)).symm
      rw [e1] at he
      have := List.all_eq_true.1 (List.all_takeWhile (p := lessN x.name) (l := es)) e he
      unfold lessN at this
      rw [Go.ByteArray.toList_eq, Go.ByteArray.toList_eq] at this
      exact this
    have hgt : ∀ e ∈ es.drop (placeL x.name es), Op.bytesLess (nm x) (nm e) = true := by
      have e1 : es.drop (placeL x.name es) = es.dropWhile (lessN x.name) := by
        have := List.takeWhile_append_dropWhile (p := lessN x.name) (l := es)
        unfold placeL
        conv => lhs; arg 2; rw [← this]
        rw [List.drop_left]
      cases hd : es.dropWhile (lessN x.name) with
      | nil => rw [e1, hd]; intro e he; simp at he
      | cons y r =>
        have hy : lessN x.name y = false := by
          have := List.head?_dropWhile_not (lessN x.name) es
          rw [hd] at this
          simpa using this
        have hym : y ∈ es := by
          have : y ∈ es.dropWhile (lessN x.name) := by rw [hd]; simp
          exact (List.dropWhile_sublist _).subset this
        have hyx : Op.bytesLess (nm x) (nm y) = true := by
          refine less_no ?_ ?_
          · unfold lessN at hy
            rw [Go.ByteArray.toList_eq, Go.ByteArray.toList_eq] at hy
            exact hy
          · intro hne
            refine hn y hym (list_inj ?_)
            rw [Go.ByteArray.toList_eq, Go.ByteArray.toList_eq]
            exact hne
        intro e he
        rw [e1, hd] at he
        rcases List.mem_cons.1 he with rfl | he
        · exact hyx
        · have h3 := hp2.2.1
          rw [e1, hd, List.pairwise_cons] at h3
          exact less_trans _ _ _ hyx (h3.1 e he)
    unfold putL
    rw [List.append_assoc, List.pairwise_append]
    refine ⟨hp2.1, ?_, ?_⟩
    · rw [List.singleton_append, List.pairwise_cons]
      exact ⟨fun e he => hgt e he, hp2.2.1⟩
    · intro a ha b hb
      rw [List.singleton_append, List.mem_cons] at hb
      rcases hb with rfl | hb
      · exact hlt a ha
      · exact hp2.2.2 a ha b hb
end Go.Proofs.YtnolbfijcnldjaaGreatDoor

/- What is done leaves a tree, second part: coming to the top, and the four kinds. -/
namespace Go.Proofs.YtnolbfijcnldjaaGreatDoor

/-- From here one comes to the top. -/
inductive Up (t : List LObj) : Int → Prop
  | top : Up t 0
  | step {i : Int} (h : 0 < i) (u : Up t (homeIn (flat t) i)) : Up t i
theorem Up.climb {t : List LObj} {i : Int} (h : Up t i) : ∃ m, climb t m i = 0 := by
  induction h with
  | top => exact ⟨0, rfl⟩
  | step h _ ih => obtain ⟨m, hm⟩ := ih; exact ⟨m + 1, by rw [climb_step t m h]; exact hm⟩
theorem up_of {t : List LObj} : ∀ (m : Nat) {i : Int}, Go.Proofs.YtnolbfijcnldjaaGreatDoor.climb t m i = 0 → Up t i
  | 0, i, h => by
    have : i = 0 := h
    subst this; exact .top
  | m + 1, i, h => by
    by_cases h0 : 0 < i
    · rw [climb_step t m h0] at h; exact .step h0 (up_of m h)
    · rw [climb_stop t (m + 1) h0] at h; subst h; exact .top
theorem specOk_of {t : List LObj} (h0 : t.length = 32) (h1 : kindOf t 0 = 2) (h2 : ∀ (i : Nat) o, t[i]? = some o → objB o = true)
    (hc : ∀ i : Nat, 1 ≤ i → i < 32 → cnt (flat t) i = if kindOf t i = 0 then 0 else 1)
    (hu : ∀ i : Nat, 1 ≤ i → i < 32 → kindOf t i ≠ 0 → Up t i) : specOk t = true := by
  have hids := ids_of_ok h2
  have hlive : Live t (flat t) := fun x hx => by
    obtain ⟨k, e, k1, k2⟩ := flat_ids hids hx
    rw [e, Int.toNat_natCast]
    intro hk
    have := hc k k1 k2
    rw [if_pos hk] at this
    exact cnt_zero.1 this x hx e
  have hn : Named t := ⟨hlive, uniq_cnt (fun x hx => by
      obtain ⟨k, e, k1, k2⟩ := flat_ids hids hx
      have hl := hlive x hx
      rw [e, Int.toNat_natCast] at hl
      rw [e, hc k k1 k2, if_neg hl]
      exact Nat.le_refl _), fun i h0 hi hk ho => by
        have := hc i h0 hi
        rw [cnt_zero.2 ho, if_neg hk] at this
        cases this⟩
  refine (specOk_iff t).2 ⟨h0, h2, h1, hn, fun i hi hk => ?_⟩
  by_cases hz : i = 0
  · subst hz; exact climb_stop t 31 (by simp)
  obtain ⟨m, hm⟩ := (hu i (by omega) hi hk).climb
  apply Classical.byContradiction
  intro h31
  have hd : ∀ k, climb t k i = ((climb t k i).toNat : Nat) ∧ (climb t k i).toNat < 32 := fun k => by
    obtain ⟨d, h1, h2, _⟩ := climb_in h0 h2 hn hi hk k
    rw [h1]; simpa using h2
  have hnz : ∀ k, k ≤ 31 → climb t k i ≠ 0 := fun k hk e => h31 (climb_zero e 31 hk)
  obtain ⟨a, b, k1, k2, k3⟩ := pigeon 31 (fun k => (climb t k i).toNat) (fun k hk => by
    have q1 := hd k
    have q2 := hnz k hk
    omega)
  have e : climb t a i = climb t b i := by rw [(hd a).1, (hd b).1]; rw [k3]
  have key : ∀ m, climb t m i ≠ 0 := by
    intro m
    induction m using Nat.strongRecOn with
    | _ m ih =>
      intro hm
      by_cases hb : m ≤ 31
      · exact hnz m hb hm
      · have h4 := climb_add t (m - b) b i
        rw [show b + (m - b) = m by omega, hm, ← e, ← climb_add] at h4
        exact ih (a + (m - b)) (by omega) h4.symm
  exact key m hm
theorem home_of {t : List LObj} {d : Nat} {e : LEnt} (h : (d, e) ∈ flat t) (hc : cnt (flat t) e.id ≤ 1) : homeIn (flat t) e.id = d := by
  have hno : ¬ Off (flat t) e.id := fun ho => ho _ h rfl
  obtain ⟨pre, x, post, h1, h2, h3⟩ := split_first hno
  rw [h1, homeIn_at h2 h3]
  rw [h1] at h hc
  rcases List.mem_append.1 h with h | h
  · exact absurd rfl (h2 _ h)
  · rcases List.mem_cons.1 h with h | h
    · rw [← h]
    · have hp : 0 < cnt post e.id := List.countP_pos_iff.2 ⟨_, h, by simp⟩
      rw [cnt_append] at hc
      have : cnt (x :: post) e.id = cnt post e.id + 1 := by
        unfold cnt
        rw [List.countP_cons, if_pos (by simp [h3])]
      omega
theorem home_memE {t : List LObj} {i : Int} (h : ¬ Off (flat t) i) : ∃ (d : Nat) (e : LEnt), (d, e) ∈ flat t ∧ e.id = i ∧ homeIn (flat t) i = d := by
  obtain ⟨pre, x, post, h1, h2, h3⟩ := split_first h
  exact ⟨x.1, x.2, by rw [h1]; simp, h3, by rw [h1, homeIn_at h2 h3]⟩
theorem ok_cnt {t : List LObj} (hs : specOk t = true) {i : Nat} (h1 : 1 ≤ i) (h2 : i < 32) : cnt (flat t) i = if kindOf t i = 0 then 0 else 1 := by
  have h := hs
  simp [specOk] at h
  have h3 := h.2 (i - 1) (by omega)
  rw [show i - 1 + 1 = i by omega] at h3
  by_cases hk : kindOf t i = 0
  · rw [specAt_none hk] at h3; rw [if_pos hk]; simpa using h3
  · rw [specAt_live hk] at h3; rw [if_neg hk]; simp at h3; exact h3.1
theorem ok_top {t : List LObj} (hs : specOk t = true) : kindOf t 0 = 2 := by
  simp [specOk] at hs; exact hs.1.1.2
theorem ok_up {t : List LObj} (hs : specOk t = true) {i : Nat} (h2 : i < 32) (hk : kindOf t i ≠ 0) : Up t i :=
  up_of 31 (((specOk_iff t).1 hs).2.2.2.2 i h2 hk)
/-- Where what is there is named. -/
theorem ok_home {t : List LObj} (hs : specOk t = true) {i : Nat} (h1 : 1 ≤ i) (h2 : i < 32) (hk : kindOf t i ≠ 0) : ∃ (d : Nat) (e : LEnt), (d, e) ∈ flat t ∧ e.id = i ∧ homeIn (flat t) i = d ∧ d < 32 ∧ kindOf t d = 2 := by
  have hno : ¬ Off (flat t) i := fun ho => by
    have := ok_cnt hs h1 h2
    rw [cnt_zero.2 ho, if_neg hk] at this
    cases this
  obtain ⟨d, e, m1, m2, m3⟩ := home_memE hno
  obtain ⟨o, m4, m5⟩ := mem_flatE.1 m1
  have hd : d < 32 := by have := (List.getElem?_eq_some_iff.1 m4).1; have := ok_len hs; omega
  have := (kids_dir (ok_obj hs m4) (by intro h; rw [h] at m5; simp at m5)).1
  exact ⟨d, e, m1, m2, m3, hd, by rw [kindOf_at m4]; exact this⟩
theorem up_keep {t t' : List LObj} (S : Nat → Prop) (hS : ∀ j, S j → 1 ≤ j → ∃ d : Nat, homeIn (flat t) j = d ∧ homeIn (flat t') j = d ∧ S d) {i : Int} (h : Up t i) : ∀ j : Nat, i = j → S j → Up t' i := by
  induction h with
  | top => intro _ _ _; exact .top
  | @step i h u ih =>
    intro j hj hs
    obtain ⟨d, h1, h2, h3⟩ := hS j hs (by omega)
    refine .step h ?_
    rw [hj, h2]
    have := ih d (by rw [hj, h1]) h3
    rw [hj, h1] at this
    exact this
/-- All objects are ok. -/
def AllOb (t : List LObj) : Prop := ∀ (i : Nat) o, t[i]? = some o → objB o = true
theorem AllOb.set {t : List LObj} (h : AllOb t) {o' : LObj} (ho : objB o' = true) (k : Nat) : AllOb (t.set k o') := by
  intro i o hi
  rw [List.getElem?_set] at hi
  split at hi
  · split at hi
    · cases hi; exact ho
    · cases hi
  · exact h i o hi
theorem kindOf_set {t : List LObj} {k : Nat} (o' : LObj) (hk : k < t.length) (i : Nat) : kindOf (t.set k o') i = if i = k then o'.kind else kindOf t i := by
  unfold kindOf
  rw [List.getElem?_set]
  by_cases h : k = i
  · rw [if_pos h, if_pos (h ▸ hk), if_pos h.symm]
  · rw [if_neg h, if_neg (Ne.symm h)]
theorem kindOf_same {t : List LObj} {k : Nat} {o : LObj} (h : t[k]? = some o) {o' : LObj} (hk : o'.kind = o.kind) (i : Nat) : kindOf (t.set k o') i = kindOf t i := by
  rw [kindOf_set o' (List.getElem?_eq_some_iff.1 h).1]
  split
  · next e => rw [e, kindOf_at h, hk]
  · rfl
theorem dir_parts {o : LObj} (h : objB o = true) (hk : o.kind = 2) : 1 ≤ o.ver ∧ o.ver ≤ 1000000 ∧ emp o.text = true ∧ kidsB o.kids = true := by
  simp [objB, verB, partsB, hk] at h
  exact ⟨h.1.1, h.1.2, h.2.1, h.2.2⟩
theorem dir_ok {o : LObj} (hk : o.kind = 2) (h1 : 1 ≤ o.ver) (h2 : o.ver ≤ 1000000) (h3 : emp o.text = true) (h4 : kidsB o.kids = true) : objB o = true := by
  simp [objB, verB, partsB, hk, h1, h2, h3, h4]
theorem file_parts {o : LObj} (h : objB o = true) (hk : o.kind = 1) : 1 ≤ o.ver ∧ o.ver ≤ 1000000 ∧ o.kids = [] := by
  simp [objB, verB, partsB, hk, nil?] at h
  exact ⟨h.1.1, h.1.2, h.2.2⟩
theorem none_kids {o : LObj} (h : objB o = true) (hk : o.kind ≠ 2) : o.kids = [] := by
  apply Classical.byContradiction
  intro hn
  exact hk (kids_dir h hn).1
theorem obj_ver {o : LObj} (h : objB o = true) : 0 ≤ o.ver := by
  simp [objB, verB] at h
  have := h.1.1
  split at this <;> omega
theorem turn_ob {o : LObj} (h : objB o = true) (hv : o.ver < 1000000) : objB { o with ver := o.ver + 1 } = true := by
  have h0 := obj_ver h
  simp only [objB, verB, Bool.and_eq_true, decide_eq_true_eq] at h ⊢
  refine ⟨⟨?_, by omega⟩, ?_⟩
  · have := h.1.1
    split at this <;> split <;> omega
  · have := h.2
    unfold partsB at this ⊢
    exact this
/-- Something that is named was not turned as often as can be. -/
theorem worn_no {os : List LObj} {l : List Nat} (h : wornB os l = false) {i : Nat} (hi : i ∈ l) {o : LObj} (ho : os[i]? = some o) : o.ver < 1000000 := by
  unfold wornB at h
  rw [List.any_eq_false] at h
  have := h i hi
  unfold oldB at this
  rw [ho] at this
  simpa using this
theorem find_name {es : List LEnt} {name : ByteArray} {i : Int} (h : findV es name = i) (hi : 0 < i) : ∃ e ∈ es, e.name = name ∧ e.id = i := by
  rcases findV_or es name with ⟨h1, _⟩ | ⟨k, e, h1, h2, h3⟩
  · omega
  · exact ⟨e, List.mem_of_getElem? h1, h2, by omega⟩
theorem find_no {es : List LEnt} {name : ByteArray} (h : ¬ 0 ≤ findV es name) (hp : ∀ e ∈ es, 0 < e.id) : ∀ e ∈ es, e.name ≠ name := by
  rcases findV_or es name with ⟨_, h2⟩ | ⟨k, e, h1, h2, h3⟩
  · exact h2
  · have := hp e (List.mem_of_getElem? h1); omega
end Go.Proofs.YtnolbfijcnldjaaGreatDoor
